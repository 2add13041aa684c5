/- package heap: the closure of Put. package heap: Put. -/
import Derived.Test.YtphfekcacaaabaaDoorHeapQ
import Derived.LoopTactic
import Derived.LoopNIn
set_option linter.unusedVariables false
namespace Go.Proofs.YtphfekcacaaabaaDoor
open Go.RowKit

theorem blank0 : blankB 0 0 ⟨#[]⟩ ⟨#[]⟩ 0 = true := by decide +kernel

set_option maxHeartbeats 4000000 in
set_option maxRecDepth 100000 in
theorem put1_leaf {base hb : Nat} {s : HSt} (P Q : Value) (k n : Int) (sx tx : ByteArray) (A : Option Addr) (cap : Nat) (hk : ¬ (k = 5 ∨ k = 7)) (hle : leafE (.mk k n sx tx []) = 0) (w : World) (h : s.At base w hb) (hs : HOk s) :
    Calls Tryd.prog 30 #[.agg #[(.int .i8 k), (.int .i64 n), (.string sx), (.string tx), (.slice A 0 cap)], P, Q] w (Put1P base hb s (.mk k n sx tx []) w) := by
  have hp : (k == 5 || k == 7) = false := by
    rw [Bool.or_eq_false_iff, beq_eq_false_iff_ne, beq_eq_false_iff_ne]
    exact ⟨fun e => hk (.inl e), fun e => hk (.inr e)⟩
  have HPA := Lib.hid (fun V => parted_any k V)
  have HP := Lib.hid hp
  have HK := Lib.hid hk
  have HL := Lib.hid hle
  have HH := Lib.hid h
  have HS := Lib.hid hs
  clear hk hle hp h hs
  go_enter Tryd.func30, Tryd.ntmps30
  go_wp2_with fail
  refine (HPA.out _).mono ?_
  rintro e V ⟨rfl, rfl⟩
  rw [HP.out]
  go_wp2_with fail
  refine bodyPost_ret (v := .agg #[(.bool false), (.int .i64 0), (.int .i8 k), (.int .i64 n), (.string sx), (.string tx), (.slice A 0 cap)]) (by simp [results, Tryd.f30, go_sem]) rfl ?_
  have hbl : Below w.heap.size w ((w.alloc (.cells #[(.int .i8 k), (.int .i64 n), (.string sx), (.string tx), (.slice A 0 cap)] 25)).alloc (.cells #[(.bool false), (.int .i64 0), (.int .i8 k), (.int .i64 n), (.string sx), (.string tx), (.slice A 0 cap)] 27)) := ((Below.refl _ w).alloc (Nat.le_refl _) _).alloc (by simp) _
  have e1 : put1 s.cs (.mk k n sx tx []) = (s.cs, .leaf (.mk k n sx tx [])) := by rw [put1, if_neg HK.out]
  obtain ⟨-, hkb, hnb, hsb, htb⟩ := leaf_bounds HL.out
  refine ⟨⟨false, 0, .mk k n sx tx []⟩, k, n, sx, tx, A, cap, rfl, rfl, TmAt.of_row (l := []) (TRow.nil _ _ A cap) hkb hnb hsb htb, by rw [e1]; rfl, ?_, s, by rw [e1], HS.out.ws, HMove.below HH.out HS.out.rn hbl⟩
  rw [e1]
  show mayW s.cs.length false 0 (.mk k n sx tx []) = true
  unfold mayW
  rw [if_neg (by decide), HL.out]
  rfl

/-- What holds in a round of the closure. -/
structure PutS (base hb : Nat) (s : HSt) (k n : Int) (sx tx : ByteArray) (A : Option Addr) (cap : Nat) (l : List Tm) (w : World) (sj : HSt) (j : Nat) (V : World) : Prop where
  mv : HMove base hb s sj w V
  cs : sj.cs = (puts s.cs (l.take j)).1
  ws : sj.ws = wordsOf sj.cs
  tb : Kept base hb sj w.heap.size (.cells #[(.int .i8 k), (.int .i64 n), (.string sx), (.string tx), (.slice A l.length cap)] 25 (0, 0)) V
  rb : Kept base hb sj (w.heap.size + 1) (.cells #[(.bool false), (.int .i64 0), (.int .i8 0), (.int .i64 0), (.string ⟨#[]⟩), (.string ⟨#[]⟩), (.slice none 0 0)] 27 (0, 0)) V
  gb : ∃ cur, Kept base hb sj (w.heap.size + 2) (.cells cur 27 (0, 0)) V ∧ cur.size = l.length * 7
  row : ∃ Ls : List AW, Ls.length = j ∧ Ls.map AW.hw = (puts s.cs (l.take j)).2 ∧ ∀ (i : Nat) (q : AW), Ls[i]? = some q → ∃ v, RowW V (w.heap.size + 2) i v ∧ AWAt (fun _ => False) V q v ∧ mayW sj.cs.length q.c q.a q.x = true

set_option maxHeartbeats 8000000 in
set_option maxRecDepth 100000 in
theorem put1_any {base hb B F : Nat} (x : Tm) : Valid x → x.nodes ≤ 256 → ∀ (s : HSt) (P : Nat → Prop) (v : Value) (w : World), HOk s → s.cs.length + x.nodes ≤ 1048576 → base ≤ w.heap.size → PkE base hb s B F w → TmAt P w x v → (∀ b, P b → b < w.heap.size ∧ s.Core base w b ∧ b ≠ hb) →
    Calls Tryd.prog 30 #[v, .pointer (some ⟨F, 0, none⟩), .pointer (some ⟨B, 0, none⟩)] w (Put1P base hb s x w) := by
  induction x using Tm.ind with
  | h k n sx tx l ih =>
    intro hv hn s P v w hs hlen hbw hE hT hP
    obtain ⟨A, cap, rfl, hR, hkb, hnb, hsb, htb⟩ := hT.parts
    by_cases hk : k = 5 ∨ k = 7
    case neg =>
      have hle : leafE (.mk k n sx tx l) = 0 := by
        unfold leafE
        rw [if_neg (by rw [check_of hv hn]; decide), if_neg]
        intro e
        simp [Tm.k] at e
        exact hk e
      have hlnil : l = [] := (leaf_bounds hle).1
      subst hlnil
      exact put1_leaf _ _ k n sx tx A cap hk hle w hE.heap hs
    have hnod : (Tm.mk k n sx tx l).nodes = 1 + (Tm.pres l).length := by unfold Tm.nodes Tm.pre; simp; omega
    have hll : l.length ≤ 255 := by
      have h1 : ∀ m : List Tm, m.length ≤ (Tm.pres m).length := by
        intro m
        induction m with
        | nil => simp
        | cons y m ih => have := Tm.pre_ne y; simp [Tm.pres]; omega
      have := h1 l
      omega
    have hok := puts_ok_of l (fun y _ => put1_ok y) (fun y hy => hv.part hy) (by omega) s.cs hs.good (by omega)
    have hpre : ∀ j, PutsOk s.cs (puts s.cs (l.take j)).1 (puts s.cs (l.take j)).2 (l.take j) := fun j => by
      have h2 := pres_take_le2 l j
      exact puts_ok_of (l.take j) (fun y _ => put1_ok y) (fun y hy => hv.part (List.mem_of_mem_take hy)) (by omega) s.cs hs.good (by omega)
    obtain ⟨w1, hw1⟩ : ∃ w1, w1 = (w.alloc (.cells #[(.int .i8 k), (.int .i64 n), (.string sx), (.string tx), (.slice A l.length cap)] 25)).alloc (.cells #[(.bool false), (.int .i64 0), (.int .i8 0), (.int .i64 0), (.string ⟨#[]⟩), (.string ⟨#[]⟩), (.slice none 0 0)] 27) := ⟨_, rfl⟩
    have z0 : (w.alloc (.cells #[(.int .i8 k), (.int .i64 n), (.string sx), (.string tx), (.slice A l.length cap)] 25)).heap.size = w.heap.size + 1 := World.size_alloc _ _
    have z1 : w1.heap.size = w.heap.size + 2 := by rw [hw1, World.size_alloc, z0]
    have B1 : Below w.heap.size w w1 := by rw [hw1]; exact ((Below.refl _ w).alloc (Nat.le_refl _) _).alloc (by omega) _
    have g0 : w1.heap[w.heap.size]? = some (.cells #[(.int .i8 k), (.int .i64 n), (.string sx), (.string tx), (.slice A l.length cap)] 25 (0, 0)) := by rw [hw1, Below.heap_alloc _ _ _ (by omega)]; exact block_alloc _ _
    have g1 : w1.heap[w.heap.size + 1]? = some (.cells #[(.bool false), (.int .i64 0), (.int .i8 0), (.int .i64 0), (.string ⟨#[]⟩), (.string ⟨#[]⟩), (.slice none 0 0)] 27 (0, 0)) := by rw [hw1, ← z0]; exact block_alloc _ _
    obtain ⟨M, hM, hMs⟩ : ∃ M : Array Value, (Instr.makeSlice 37 (.int .i64 (l.length : Int)) (.int .i64 (l.length : Int))).run Tryd.prog w1 = .ok (.slice (some ⟨w1.heap.size, 0, none⟩) l.length l.length) (w1.alloc (.cells M 27)) ∧ M.size = l.length * 7 := by
      obtain ⟨i, hi, hz⟩ := Option.map_eq_some_iff.1 info_wordb
      simp only [Prod.mk.injEq] at hz
      obtain ⟨hz, hsz, hby⟩ := hz
      have := run_makeSlice (P := Tryd.prog) w1 37 27 i _ Tryd.underlying37 hi hz .i64 .i64 (l.length : Int) (l.length : Int) (by omega) (Int.le_refl _) (by rw [hsz, Int.toNat_natCast]; omega) (by rw [hby]; omega) (by omega)
      rw [this, Int.toNat_natCast]
      exact ⟨_, rfl, by rw [hsz]; unfold madeCells; simp⟩
    obtain ⟨w2, hw2⟩ : ∃ w2, w2 = w1.alloc (.cells M 27) := ⟨_, rfl⟩
    have B2 : Below w1.heap.size w1 w2 := by rw [hw2]; exact (Below.refl _ _).alloc (Nat.le_refl _) _
    have g2 : w2.heap[w.heap.size + 2]? = some (.cells M 27 (0, 0)) := by rw [hw2, ← z1]; exact block_alloc _ _
    have B02 : Below w.heap.size w w2 := B1.trans (B2.mono B1.size)
    have h0 : PutS base hb s k n sx tx A cap l w s 0 w2 := by
      have hk1 : Kept base hb s w.heap.size (.cells #[(.int .i8 k), (.int .i64 n), (.string sx), (.string tx), (.slice A l.length cap)] 25 (0, 0)) w1 := Kept.new hE.heap B1 g0
      have ha : s.At base (w.alloc (.cells #[(.int .i8 k), (.int .i64 n), (.string sx), (.string tx), (.slice A l.length cap)] 25)) hb := hE.heap.under ((Below.refl _ w).alloc (Nat.le_refl _) _)
      have hk2 : Kept base hb s (w.heap.size + 1) (.cells #[(.bool false), (.int .i64 0), (.int .i8 0), (.int .i64 0), (.string ⟨#[]⟩), (.string ⟨#[]⟩), (.slice none 0 0)] 27 (0, 0)) w1 := by
        have h3 := Kept.new ha (w' := w1) (by rw [hw1]; exact (Below.refl _ _).alloc (Nat.le_refl _) _) (o := .cells #[(.bool false), (.int .i64 0), (.int .i8 0), (.int .i64 0), (.string ⟨#[]⟩), (.string ⟨#[]⟩), (.slice none 0 0)] 27 (0, 0)) (by rw [z0]; exact g1)
        rwa [z0] at h3
      have hk3 : Kept base hb s (w.heap.size + 2) (.cells M 27 (0, 0)) w2 := by
        have h3 := Kept.new (hE.heap.under B1) B2 (o := .cells M 27 (0, 0)) (by rw [z1]; exact g2)
        rwa [z1] at h3
      exact ⟨HMove.below hE.heap hs.rn B02, by simp [puts], hs.ws, hk1.under B2, hk2.under B2, ⟨M, hk3, hMs⟩, ⟨[], rfl, by simp [puts], fun i q h => by simp at h⟩⟩
    have hpk : (k == 5 || k == 7) = true := by rcases hk with rfl | rfl <;> rfl
    have HPA := Lib.hid (fun V => parted_any k V)
    have HPK := Lib.hid hpk
    have HKK := Lib.hid hk
    have HIH := Lib.hid ih
    have HV := Lib.hid hv
    have HSS := Lib.hid hs
    have HE := Lib.hid hE
    have HR := Lib.hid hR
    have HP := Lib.hid hP
    have HOK := Lib.hid hok
    have HPRE := Lib.hid hpre
    have H0 := Lib.hid h0
    have HNOD := Lib.hid hnod
    have HG0 := Lib.hid g0
    have HZ1 := Lib.hid z1
    have HW2 := Lib.hid hw2
    have x0 : w1.cell? ⟨w.heap.size, 0, none⟩ = some (.int .i8 k) := cell_of_row g0 rfl
    have x1 : w1.cell? ⟨w.heap.size, 1, none⟩ = some (.int .i64 n) := cell_of_row g0 rfl
    have x2 : w1.cell? ⟨w.heap.size, 2, none⟩ = some (.string sx) := cell_of_row g0 rfl
    have x3 : w1.cell? ⟨w.heap.size, 3, none⟩ = some (.string tx) := cell_of_row g0 rfl
    have x4 : w1.cell? ⟨w.heap.size, 4, none⟩ = some (.slice A l.length cap) := cell_of_row g0 rfl
    have hM2 : (Instr.makeSlice 37 (.int .i64 (l.length : Int)) (.int .i64 (l.length : Int))).run Tryd.prog w1 = .ok (.slice (some ⟨w.heap.size + 2, 0, none⟩) l.length l.length) w2 := by rw [hM, hw2, z1]
    have y4 : w2.cell? ⟨w.heap.size, 4, none⟩ = some (.slice A l.length cap) := cell_of_row ((B2.block _ (heap_lt g0)).trans g0) rfl
    clear ih hv hs hE hR hT hP hok hpre h0 hnod g0 g1 z0 z1 B1 B2 B02 g2 hM hMs hw2 hk hpk
    go_enter Tryd.func30, Tryd.ntmps30
    go_wp2_with fail
    rw [← hw1]
    clear hw1
    refine (HPA.out _).mono ?_
    rintro e V1 ⟨rfl, rfl⟩
    rw [HPK.out]
    go_wp2_with fail
    clear x0 x1 x2 x3 x4 y4 hM2
    go_loopw [21] (fun i wr => ∃ (j : Nat) (sj : HSt), j ≤ l.length ∧ i = .int .i64 j ∧ PutS base hb s k n sx tx A cap l w sj j wr) (fun i _ => l.length - (intOf i).toNat)
    case atStart => exact ⟨0, s, Nat.zero_le _, rfl, H0.out⟩
    case round =>
      obtain ⟨j, sj, hj, rfl, hSj⟩ := hrel
      have HT := Lib.hid hSj
      clear hSj
      by_cases hlt : j < l.length
      · obtain ⟨y, hy⟩ : ∃ y, l[j]? = some y := ⟨l[j], List.getElem?_eq_getElem hlt⟩
        obtain ⟨ad, u, rfl, had, hEl, hTy⟩ := HR.out.at_ j y hy
        have hkeep : ∀ b, P b → wr.heap[b]? = w.heap[b]? := fun b hb' => HT.out.mv.block (HP.out b hb').1 (HP.out b hb').2.1 (HP.out b hb').2.2
        have hEr := hEl.keep (hkeep _ had)
        have hTr := hTy.keep hkeep (fun _ h => h)
        obtain ⟨k', n', s', t', L', A', cap', hye, rfl⟩ : ∃ k' n' s' t' L' A' cap', y = Tm.mk k' n' s' t' L' ∧ u = .agg #[.int .i8 k', .int .i64 n', .string s', .string t', .slice A' L'.length cap'] := by
          cases hTr; exact ⟨_, _, _, _, _, _, _, rfl, rfl⟩
        obtain ⟨c0, c1, c2, c3, c4, hcc, e0, e1, e2, e3, e4⟩ := hEr
        simp only [Value.agg.injEq, Array.mk.injEq, List.cons.injEq, and_true] at hcc
        obtain ⟨rfl, rfl, rfl, rfl, rfl⟩ := hcc
        obtain ⟨wz, hwz⟩ : ∃ wz, wz = wr.alloc (.cells #[.int .i8 k', .int .i64 n', .string s', .string t', .slice A' L'.length cap'] 25) := ⟨_, rfl⟩
        have bz : Below wr.heap.size wr wz := by rw [hwz]; exact (Below.refl _ _).alloc (Nat.le_refl _) _
        have gz : wz.heap[wr.heap.size]? = some (.cells #[.int .i8 k', .int .i64 n', .string s', .string t', .slice A' L'.length cap'] 25 (0, 0)) := by rw [hwz]; exact block_alloc _ _
        have hmz := HT.out.mv.on bz
        have hEz : PkE base hb sj B F wz := (HE.out.move HT.out.mv).under bz
        have hpo := HPRE.out j
        rw [← HT.out.cs] at hpo
        obtain ⟨more, hme, hml⟩ := hpo.above
        have hsl : (puts s.cs (l.take j)).1.length = sj.cs.length := by rw [HT.out.cs]
        have hlj : sj.cs.length ≤ s.cs.length + (Tm.pres (l.take j)).length := by rw [hme, List.length_append]; omega
        have hpt : (Tm.pres (l.take j)).length + y.nodes ≤ (Tm.pres l).length := by
          have h3 := pres_take_le2 l (j + 1)
          rw [Tm.pres_take_succ hy, List.length_append] at h3
          exact h3
        have hso : HOk sj := ⟨hpo.good, HT.out.ws, HT.out.mv.rn⟩
        have hmem := List.mem_of_getElem? hy
        have HC := Lib.hid (HIH.out y hmem (HV.out.part hmem) (by have := HNOD.out; omega) sj P (.agg #[.int .i8 k', .int .i64 n', .string s', .string t', .slice A' L'.length cap']) wz hso (by have := HNOD.out; omega) (Nat.le_trans hbw (Nat.le_trans HT.out.mv.mod.size bz.size)) hEz (hTr.keep (fun b hb' => bz.block b (Nat.lt_of_lt_of_le (HP.out b hb').1 HT.out.mv.mod.size)) (fun _ h => h)) (fun b hb' => ⟨Nat.lt_of_lt_of_le (HP.out b hb').1 (Nat.le_trans HT.out.mv.mod.size bz.size), (HT.out.mv.apart b (HP.out b hb').1 (HP.out b hb').2.1).under bz, (HP.out b hb').2.2⟩))
        have cF : wz.cell? ⟨F, 0, none⟩ = some (.func (.func 30) #[] #[.pointer (some ⟨F, 0, none⟩), .pointer (some ⟨B, 0, none⟩)]) := cell_of_row hEz.fbox.blk rfl
        have z0 : wz.cell? ⟨wr.heap.size, 0, none⟩ = some (.int .i8 k') := cell_of_row gz rfl
        have z1 : wz.cell? ⟨wr.heap.size, 1, none⟩ = some (.int .i64 n') := cell_of_row gz rfl
        have z2 : wz.cell? ⟨wr.heap.size, 2, none⟩ = some (.string s') := cell_of_row gz rfl
        have z3 : wz.cell? ⟨wr.heap.size, 3, none⟩ = some (.string t') := cell_of_row gz rfl
        have z4 : wz.cell? ⟨wr.heap.size, 4, none⟩ = some (.slice A' L'.length cap') := cell_of_row gz rfl
        have i0 : (0 : Int) ≤ (j : Int) := by omega
        have i1 : (j : Int) < (l.length : Int) := by omega
        have HBZ := Lib.hid bz
        have HMZ := Lib.hid hmz
        have HY := Lib.hid hy
        clear hEl hTy hTr hkeep had hye bz gz hmz hEz hpo hme hml hsl hlj hpt hso hmem hy
        subst hwz
        go_wp2_with fail
        clear e0 e1 e2 e3 e4 z0 z1 z2 z3 z4 cF
        refine HC.out.mono ?_
        rintro e W1 ⟨q, kq, nq, sq, tq, Aq, cq, rfl, hqx, hTq, hqw, hqm, s1, hcs1, hws1, hm1⟩
        obtain ⟨cur, hgb, hcur⟩ := HT.out.gb
        have hg1 := (hgb.under HBZ.out).move hm1
        have hsz7 : j * 7 + 7 ≤ cur.size := by omega
        obtain ⟨u0, x0⟩ : ∃ u, W1.cell? ⟨w.heap.size + 2, j * 7, none⟩ = some u := ⟨_, cell_of_row hg1.blk (Array.getElem?_eq_getElem (by omega))⟩
        have f0 : W1.frozen? ⟨w.heap.size + 2, j * 7, none⟩ = false := free_of_row hg1.blk
        obtain ⟨u1, x1⟩ : ∃ u, W1.cell? ⟨w.heap.size + 2, j * 7 + 1, none⟩ = some u := ⟨_, cell_of_row hg1.blk (Array.getElem?_eq_getElem (by omega))⟩
        have f1 : W1.frozen? ⟨w.heap.size + 2, j * 7 + 1, none⟩ = false := free_of_row hg1.blk
        obtain ⟨u2, x2⟩ : ∃ u, W1.cell? ⟨w.heap.size + 2, j * 7 + 2, none⟩ = some u := ⟨_, cell_of_row hg1.blk (Array.getElem?_eq_getElem (by omega))⟩
        have f2 : W1.frozen? ⟨w.heap.size + 2, j * 7 + 2, none⟩ = false := free_of_row hg1.blk
        obtain ⟨u3, x3⟩ : ∃ u, W1.cell? ⟨w.heap.size + 2, j * 7 + 3, none⟩ = some u := ⟨_, cell_of_row hg1.blk (Array.getElem?_eq_getElem (by omega))⟩
        have f3 : W1.frozen? ⟨w.heap.size + 2, j * 7 + 3, none⟩ = false := free_of_row hg1.blk
        obtain ⟨u4, x4⟩ : ∃ u, W1.cell? ⟨w.heap.size + 2, j * 7 + 4, none⟩ = some u := ⟨_, cell_of_row hg1.blk (Array.getElem?_eq_getElem (by omega))⟩
        have f4 : W1.frozen? ⟨w.heap.size + 2, j * 7 + 4, none⟩ = false := free_of_row hg1.blk
        obtain ⟨u5, x5⟩ : ∃ u, W1.cell? ⟨w.heap.size + 2, j * 7 + 5, none⟩ = some u := ⟨_, cell_of_row hg1.blk (Array.getElem?_eq_getElem (by omega))⟩
        have f5 : W1.frozen? ⟨w.heap.size + 2, j * 7 + 5, none⟩ = false := free_of_row hg1.blk
        obtain ⟨u6, x6⟩ : ∃ u, W1.cell? ⟨w.heap.size + 2, j * 7 + 6, none⟩ = some u := ⟨_, cell_of_row hg1.blk (Array.getElem?_eq_getElem (by omega))⟩
        have f6 : W1.frozen? ⟨w.heap.size + 2, j * 7 + 6, none⟩ = false := free_of_row hg1.blk
        have HG1 := Lib.hid hg1
        have HM1 := Lib.hid hm1
        have HQ := Lib.hid (And.intro hqx (And.intro hTq (And.intro hqw (And.intro hqm (And.intro hcs1 hws1)))))
        have HCU := Lib.hid hcur
        have hzz : w.heap.size + 2 < wr.heap.size := heap_lt hgb.blk
        clear hg1 hm1 hqx hTq hqw hqm hcs1 hws1 hgb hcur
        go_wp2_with fail
        obtain ⟨X, hX⟩ : ∃ X, X = setW W1 (w.heap.size + 2) (j * 7) (.bool q.c) (.int .i64 q.a) (.int .i8 kq) (.int .i64 nq) (.string sq) (.string tq) (.slice Aq 0 cq) := ⟨_, rfl⟩
        have hX2 := hX
        unfold setW at hX2
        rw [← hX2]
        clear hX2 x0 x1 x2 x3 x4 x5 x6 f0 f1 f2 f3 f4 f5 f6
        have ms : Mod (fun k => k = w.heap.size + 2) W1 X := by rw [hX]; exact setW_mod _ _ _ _ _ _ _ _ _ _
        obtain ⟨cur', hb', hcs'⟩ : ∃ cur', X.heap[w.heap.size + 2]? = some (.cells cur' 27 (0, 0)) ∧ cur'.size = cur.size := by rw [hX]; exact setW_block HG1.out.blk _ _ _ _ _ _ _
        obtain ⟨hqx, hTq, hqw, hqm, hcs1, hws1⟩ := HQ.out
        have hnext : PutS base hb s k n sx tx (some ad) cap l w s1 (j + 1) X := by
          obtain ⟨Ls, hLl, hLm, hLr⟩ := HT.out.row
          have hne0 : w.heap.size ≠ w.heap.size + 2 := by omega
          have hne1 : w.heap.size + 1 ≠ w.heap.size + 2 := by omega
          have hcs2 : s1.cs = (puts s.cs (l.take (j + 1))).1 := by rw [hcs1, HT.out.cs, puts_take_succ s.cs HY.out]
          have hgrow : sj.cs.length ≤ s1.cs.length := by
            have h4 := HPRE.out (j + 1)
            rw [hcs2, puts_take_succ s.cs HY.out, ← HT.out.cs]
            exact put1_grow sj.cs y
          refine ⟨(HMZ.out.trans HM1.out).write HE.out.heap.lt (by omega) HG1.out.core ms, hcs2, hws1, ((HT.out.tb.under HBZ.out).move HM1.out).write HG1.out.core hne0 ms, ((HT.out.rb.under HBZ.out).move HM1.out).write HG1.out.core hne1 ms, ⟨cur', ⟨hb', HG1.out.core.write HG1.out.core ms, HG1.out.ne⟩, by rw [hcs']; exact HCU.out⟩, ⟨Ls ++ [q], by simp [hLl], ?_, fun i r hr => ?_⟩⟩
          · rw [List.map_append, hLm, puts_take_succ s.cs HY.out, ← HT.out.cs]
            simp [hqw]
          · rw [List.getElem?_append] at hr
            split at hr
            · obtain ⟨v, hrw, haw, hmy⟩ := hLr i r hr
              refine ⟨v, ?_, haw.keep (fun _ h => h.elim) (fun _ h => h), mayW_mono hgrow hmy⟩
              have hij : i ≠ j := by omega
              rw [hX]
              refine RowW.set (RowW.keep hrw ?_) HG1.out.blk hij _ _ _ _ _ _ _
              obtain ⟨cur0, hgb0, hcur0⟩ := HT.out.gb
              exact (HM1.out.block (Nat.lt_of_lt_of_le (heap_lt hgb0.blk) HBZ.out.size) (hgb0.core.under HBZ.out) hgb0.ne).trans (HBZ.out.block _ (heap_lt hgb0.blk))
            · have hi : i = Ls.length := by
                have := (List.getElem?_eq_some_iff.1 hr).1
                simp at this; omega
              subst hi
              simp at hr
              subst hr
              refine ⟨_, by rw [hX, hLl]; exact RowW.here HG1.out.blk hsz7 _ _ _ _ _ _ _, ⟨kq, nq, sq, tq, Aq, 0, cq, rfl, hTq.keep (fun _ h => h.elim) (fun _ h => h)⟩, by rw [hcs1]; exact hqm⟩
        have HNX := Lib.hid hnext
        clear hnext ms hb' hcs' hqx hTq hqw hqm hcs1 hws1 hX hzz hsz7
        go_wp2_with fail
        go_roundw
        case rel => exact ⟨j + 1, s1, by omega, by go_num, HNX.out⟩
        case measure => simp [intOf]; omega
      · obtain rfl : j = l.length := by omega
        obtain ⟨Ls, hLl, hLm, hLr⟩ := HT.out.row
        obtain ⟨cur, hgb, hcur⟩ := HT.out.gb
        have hcs := HT.out.cs
        rw [List.take_length] at hcs hLm
        have hEr := HE.out.move HT.out.mv
        have hRow : WRow (fun b => b = w.heap.size + 2) wr (some ⟨w.heap.size + 2, 0, none⟩) Ls.length l.length Ls := by
          refine ⟨rfl, by omega, fun i q hq => ?_⟩
          obtain ⟨v, hrw, haw, -⟩ := hLr i q hq
          exact ⟨_, v, rfl, rfl, hrw.elem, haw.keep (fun _ h => h.elim) (fun _ h => h.elim)⟩
        have hslen : sj.cs.length + 1 ≤ 1048576 := by
          obtain ⟨more, hme, hml⟩ := HOK.out.above
          rw [hcs, hme, List.length_append]
          have := HNOD.out
          omega
        have hsok : HOk sj := ⟨by rw [hcs]; exact HOK.out.good, HT.out.ws, HT.out.mv.rn⟩
        have HADD := Lib.hid (hadd_any k Ls (some ⟨w.heap.size + 2, 0, none⟩) l.length (fun b => b = w.heap.size + 2) wr (Nat.le_trans hbw HT.out.mv.mod.size) HT.out.mv.at_ HT.out.mv.rn (fun n c h => hsok.good.most n c h) hRow (fun b hb' => by subst hb'; exact ⟨heap_lt hgb.blk, hgb.core.not_fp hgb.ne⟩) (fun q hq => by
            obtain ⟨i, hi, e⟩ := List.getElem_of_mem hq
            obtain ⟨-, -, -, hm⟩ := hLr i q (by rw [← e]; exact List.getElem?_eq_getElem hi)
            exact hm) (by omega) hsok.ws_le (by omega))
        rw [hLl] at HADD
        have HROW := Lib.hid (And.intro hLl (And.intro hLm hcs))
        have HSO := Lib.hid hsok
        have cB : wr.cell? ⟨B, 0, none⟩ = some (.pointer (some ⟨hb, 0, none⟩)) := cell_of_row hEr.hbox.blk rfl
        have ck : wr.cell? ⟨w.heap.size, 0, none⟩ = some (.int .i8 k) := cell_of_row HT.out.tb.blk rfl
        clear hLl hLm hLr hgb hcur hcs hEr hRow hslen hsok
        go_wp2_with fail
        refine HADD.out.mono ?_
        rintro e V3 ⟨rfl, s', hcs3, hws3, hmv⟩
        have hrb := HT.out.rb.move hmv
        have HMV := Lib.hid hmv
        have HCS := Lib.hid (And.intro hcs3 hws3)
        have HRB := Lib.hid hrb
        have gB := hrb.blk
        have SV := Lib.hid (set_seven (.bool true) (.int .i64 sj.cs.length) (.int .i8 0) (.int .i64 0) (.string ⟨#[]⟩) (.string ⟨#[]⟩) (.slice none 0 0) gB)
        have q0 := cell_of_row (i := 0) gB rfl
        have f0 := free_of_row (i := 0) gB
        have q1 := cell_of_row (i := 1) gB rfl
        have f1 := free_of_row (i := 1) gB
        have q2 := cell_of_row (i := 2) gB rfl
        have f2 := free_of_row (i := 2) gB
        have q3 := cell_of_row (i := 3) gB rfl
        have f3 := free_of_row (i := 3) gB
        have q4 := cell_of_row (i := 4) gB rfl
        have f4 := free_of_row (i := 4) gB
        have q5 := cell_of_row (i := 5) gB rfl
        have f5 := free_of_row (i := 5) gB
        have q6 := cell_of_row (i := 6) gB rfl
        have f6 := free_of_row (i := 6) gB
        clear gB hrb hmv hcs3 hws3 cB ck
        unfold refV
        go_wp2_with fail
        obtain ⟨s7, m7⟩ := SV.out
        generalize ((((((V3.setCell ⟨w.heap.size + 1, 0, none⟩ (.bool true)).setCell ⟨w.heap.size + 1, 1, none⟩ (.int .i64 sj.cs.length)).setCell ⟨w.heap.size + 1, 2, none⟩ (.int .i8 0)).setCell ⟨w.heap.size + 1, 3, none⟩ (.int .i64 0)).setCell ⟨w.heap.size + 1, 4, none⟩ (.string ⟨#[]⟩)).setCell ⟨w.heap.size + 1, 5, none⟩ (.string ⟨#[]⟩)).setCell ⟨w.heap.size + 1, 6, none⟩ (.slice none 0 0) = VX at s7 m7 ⊢
        have y0 := cell_of_row (i := 0) s7 rfl
        have y1 := cell_of_row (i := 1) s7 rfl
        have y2 := cell_of_row (i := 2) s7 rfl
        have y3 := cell_of_row (i := 3) s7 rfl
        have y4 := cell_of_row (i := 4) s7 rfl
        have y5 := cell_of_row (i := 5) s7 rfl
        have y6 := cell_of_row (i := 6) s7 rfl
        refine bodyPost_ret (v := refV sj.cs.length) (by simp [results, Tryd.f30, go_sem, refV, y0, y1, y2, y3, y4, y5, y6]) rfl ?_
        obtain ⟨hLl, hLm, hcs⟩ := HROW.out
        obtain ⟨hcs3, hws3⟩ := HCS.out
        have e1 : put1 s.cs (.mk k n sx tx l) = (s'.cs, .ref sj.cs.length) := by
          rw [put1, if_pos HKK.out, hcs3]
          unfold HSt.more
          rw [hLm, hcs]
        refine ⟨⟨true, sj.cs.length, .mk 0 0 ⟨#[]⟩ ⟨#[]⟩ []⟩, 0, 0, ⟨#[]⟩, ⟨#[]⟩, none, 0, rfl, rfl, leaf_at _ _ (by decide) (by decide) (by show 0 ≤ maxLen; omega) (by show 0 ≤ maxLen; omega), by rw [e1]; unfold AW.hw; simp, ?_, s', by rw [e1], ?_, ?_⟩
        · rw [e1]
          show mayW s'.cs.length true sj.cs.length (.mk 0 0 ⟨#[]⟩ ⟨#[]⟩ []) = true
          unfold mayW
          rw [if_pos rfl, hcs3]
          unfold HSt.more
          rw [List.length_append, List.length_singleton]
          simp only [Bool.and_eq_true, decide_eq_true_eq]
          exact ⟨⟨by omega, by omega⟩, blank0⟩
        · rw [hws3, hcs3, HSO.out.ws]
          unfold HSt.more
          rw [wordsOf_append]
          simp [wordsOf]
        · exact (HT.out.mv.trans HMV.out).write HE.out.heap.lt (by omega) HRB.out.core m7
end Go.Proofs.YtphfekcacaaabaaDoor
set_option linter.unusedVariables false
namespace Go.Proofs.YtphfekcacaaabaaDoor
open Go.RowKit

/-- What lay below the heap's beginning is apart from it. -/
theorem HSt.At.low_core {s : HSt} {base hb b : Nat} {w : World} (h : s.At base w hb) (hb' : b < base) : s.Core base w b ∧ b ≠ hb := by
  have hl : base ≤ hb := HeapAt.low h
  obtain ⟨vs, hvl, ho, hp⟩ := (HeapAt.core h).row
  obtain ⟨A, rn, e, h2⟩ := (HeapAt.core h).room
  refine ⟨⟨⟨vs, hvl, ho, fun n c hc => ?_⟩, ⟨A, rn, e, fun hr => ?_⟩, fun e => ?_⟩, by omega⟩
  · obtain ⟨A, hv, hw, hs⟩ := hp n c hc
    refine ⟨A, hv, hw, fun g o e hL => ?_⟩
    obtain ⟨a1, a2, a3, a4⟩ := hs g o e hL
    exact ⟨a1, by omega, a3, a4⟩
  · obtain ⟨g, o, cur, e1, e2, e3, e4, e5, e6⟩ := h2 hr
    exact ⟨g, o, cur, e1, e2, by omega, e4, e5, e6⟩
  · have := (ho.lt _ e).1; omega

/-- What Put hands back. -/
def PutP (base hb : Nat) (s : HSt) (x : Tm) (w : World) (e : Ending) (w' : World) : Prop :=
  (checkN x ≠ 0 ∧ e = .returned (.tuple #[word0, .int .i64 (checkN x)]) ∧ Below w.heap.size w w') ∨
  (checkN x = 0 ∧ e = .returned (.tuple #[.agg (put1 s.cs x).2.cells.toArray, .int .i64 0]) ∧ ∃ s' : HSt, s'.cs = (put1 s.cs x).1 ∧ s'.ws = wordsOf s'.cs ∧ HMove base hb s s' w w')

set_option maxHeartbeats 8000000 in
set_option maxRecDepth 100000 in
theorem Put_any {base hb : Nat} {s : HSt} (x : Tm) (P : Nat → Prop) (v : Value) (w : World) (hs : HOk s) (hlen : s.cs.length + 256 ≤ 1048576) (hbw : base ≤ w.heap.size) (h : s.At base w hb) (hT : TmAt P w x v) (hP : ∀ b, P b → b < w.heap.size ∧ s.Core base w b ∧ b ≠ hb) (hS : Spans w) :
    Calls Tryd.prog 7 #[.pointer (some ⟨hb, 0, none⟩), v] w (PutP base hb s x w) := by
  obtain ⟨k, n, sx, tx, l⟩ := x
  obtain ⟨A, cap, rfl, -⟩ := hT.parts
  have hT0 : TmAt (· < w.heap.size) w (.mk k n sx tx l) (.agg #[(.int .i8 k), (.int .i64 n), (.string sx), (.string tx), (.slice A l.length cap)]) := hT.mono (fun b hb' => (hP b hb').1)
  have hmf : ∀ (fn : Fn) (first cap : Array Value) (w : World), (Instr.makeFunc fn first cap).run Tryd.prog w = .ok (.func fn first cap) w := fun _ _ _ _ => rfl
  obtain ⟨wa, hwa⟩ : ∃ wa, wa = w.alloc (.cells #[.pointer (some ⟨hb, 0, none⟩)] 28) := ⟨_, rfl⟩
  obtain ⟨wb, hwb⟩ : ∃ wb, wb = wa.alloc (.cells #[(.int .i8 k), (.int .i64 n), (.string sx), (.string tx), (.slice A l.length cap)] 25) := ⟨_, rfl⟩
  obtain ⟨w1, hw1⟩ : ∃ w1, w1 = wb.alloc (.cells #[(.bool false), (.int .i64 0), (.int .i8 0), (.int .i64 0), (.string ⟨#[]⟩), (.string ⟨#[]⟩), (.slice none 0 0)] 27) := ⟨_, rfl⟩
  have za : wa.heap.size = w.heap.size + 1 := by rw [hwa]; exact World.size_alloc _ _
  have zb : wb.heap.size = w.heap.size + 1 + 1 := by rw [hwb, World.size_alloc, za]
  have ba : Below w.heap.size w wa := by rw [hwa]; exact (Below.refl _ _).alloc (Nat.le_refl _) _
  have bb : Below wa.heap.size wa wb := by rw [hwb]; exact (Below.refl _ _).alloc (Nat.le_refl _) _
  have b1 : Below wb.heap.size wb w1 := by rw [hw1]; exact (Below.refl _ _).alloc (Nat.le_refl _) _
  have kH : Kept base hb s w.heap.size (.cells #[.pointer (some ⟨hb, 0, none⟩)] 28 (0, 0)) w1 := ((Kept.new h ba (by rw [hwa]; exact block_alloc _ _)).under bb).under b1
  have kT : Kept base hb s (w.heap.size + 1) (.cells #[(.int .i8 k), (.int .i64 n), (.string sx), (.string tx), (.slice A l.length cap)] 25 (0, 0)) w1 := by
    have h3 := Kept.new (h.under ba) bb (o := .cells #[(.int .i8 k), (.int .i64 n), (.string sx), (.string tx), (.slice A l.length cap)] 25 (0, 0)) (by rw [hwb]; exact block_alloc _ _)
    rw [za] at h3
    exact h3.under b1
  have kR : Kept base hb s (w.heap.size + 1 + 1) (.cells #[(.bool false), (.int .i64 0), (.int .i8 0), (.int .i64 0), (.string ⟨#[]⟩), (.string ⟨#[]⟩), (.slice none 0 0)] 27 (0, 0)) w1 := by
    have h3 := Kept.new ((h.under ba).under bb) b1 (o := .cells #[(.bool false), (.int .i64 0), (.int .i8 0), (.int .i64 0), (.string ⟨#[]⟩), (.string ⟨#[]⟩), (.slice none 0 0)] 27 (0, 0)) (by rw [hw1]; exact block_alloc _ _)
    rwa [zb] at h3
  have B1 : Below w.heap.size w w1 := (ba.trans (bb.mono ba.size)).trans (b1.mono (Nat.le_trans ba.size bb.size))
  have HC := Lib.hid (Check_any _ _ w1 (hT0.later B1) (hS.below B1 hS.lt))
  have HH := Lib.hid h
  have HB1 := Lib.hid B1
  have HKH := Lib.hid kH
  have HKT := Lib.hid kT
  have HKR := Lib.hid kR
  have HT := Lib.hid hT
  have HP := Lib.hid hP
  have HS := Lib.hid hs
  clear h hT hT0 hS B1 kH kT kR za zb ba bb b1 hs hP
  subst hwb
  subst hwa
  go_enter Tryd.func7, Tryd.ntmps7
  go_wp2_with fail
  rw [← hw1]
  clear hw1
  refine HC.out.mono ?_
  rintro e V1 ⟨rfl, b1⟩
  have HB2 := Lib.hid (HB1.out.trans (b1.mono HB1.out.size))
  have HKH1 := Lib.hid (HKH.out.under b1)
  have HKT1 := Lib.hid (HKT.out.under b1)
  have HKR1 := Lib.hid (HKR.out.under b1)
  clear b1
  by_cases hc : checkN (.mk k n sx tx l) = 0
  case neg =>
    have hcb : (checkN (.mk k n sx tx l) != 0) = true := by simpa using hc
    have HQ := Lib.hid hc
    have gB := HKR1.out.blk
    have SV := Lib.hid (set_seven (.bool false) (.int .i64 0) (.int .i8 0) (.int .i64 0) (.string ⟨#[]⟩) (.string ⟨#[]⟩) (.slice none 0 0) gB)
    have q0 := cell_of_row (i := 0) gB rfl
    have f0 := free_of_row (i := 0) gB
    have q1 := cell_of_row (i := 1) gB rfl
    have f1 := free_of_row (i := 1) gB
    have q2 := cell_of_row (i := 2) gB rfl
    have f2 := free_of_row (i := 2) gB
    have q3 := cell_of_row (i := 3) gB rfl
    have f3 := free_of_row (i := 3) gB
    have q4 := cell_of_row (i := 4) gB rfl
    have f4 := free_of_row (i := 4) gB
    have q5 := cell_of_row (i := 5) gB rfl
    have f5 := free_of_row (i := 5) gB
    have q6 := cell_of_row (i := 6) gB rfl
    have f6 := free_of_row (i := 6) gB
    clear gB hc
    generalize hCC : checkN (.mk k n sx tx l) = C at hcb HQ ⊢
    have HCC := Lib.hid hCC
    clear hCC
    go_wp2_with fail
    obtain ⟨s7, m7⟩ := SV.out
    generalize ((((((V1.setCell ⟨(w.heap.size + 1 + 1), 0, none⟩ (.bool false)).setCell ⟨(w.heap.size + 1 + 1), 1, none⟩ (.int .i64 0)).setCell ⟨(w.heap.size + 1 + 1), 2, none⟩ (.int .i8 0)).setCell ⟨(w.heap.size + 1 + 1), 3, none⟩ (.int .i64 0)).setCell ⟨(w.heap.size + 1 + 1), 4, none⟩ (.string ⟨#[]⟩)).setCell ⟨(w.heap.size + 1 + 1), 5, none⟩ (.string ⟨#[]⟩)).setCell ⟨(w.heap.size + 1 + 1), 6, none⟩ (.slice none 0 0) = VX at s7 m7 ⊢
    have y0 := cell_of_row (i := 0) s7 rfl
    have y1 := cell_of_row (i := 1) s7 rfl
    have y2 := cell_of_row (i := 2) s7 rfl
    have y3 := cell_of_row (i := 3) s7 rfl
    have y4 := cell_of_row (i := 4) s7 rfl
    have y5 := cell_of_row (i := 5) s7 rfl
    have y6 := cell_of_row (i := 6) s7 rfl
    refine bodyPost_ret (v := .tuple #[word0, .int .i64 C]) (by simp [results, Tryd.f7, go_sem, word0, y0, y1, y2, y3, y4, y5, y6]) rfl (.inl ⟨?_, ?_, ?_⟩)
    · rw [HCC.out]; exact HQ.out
    · rw [HCC.out]
    · exact HB2.out.trans (m7.below HB2.out.size (fun k (e : k = (w.heap.size + 1 + 1)) => by omega))
  case pos =>
    rw [hc]
    have HQ := Lib.hid hc
    obtain ⟨hval, hnod⟩ := check_valid hc
    have HVN := Lib.hid (And.intro hval hnod)
    clear hc hval hnod
    obtain ⟨W2, hW2⟩ : ∃ W2, W2 = V1.alloc (.cells #[(.func (.func 30) #[] #[.pointer (some ⟨V1.heap.size, 0, none⟩), .pointer (some ⟨w.heap.size, 0, none⟩)])] 70) := ⟨_, rfl⟩
    have bW2 : Below V1.heap.size V1 W2 := by rw [hW2]; exact (Below.refl _ _).alloc (Nat.le_refl _) _
    have gF : W2.heap[V1.heap.size]? = some (.cells #[(.func (.func 30) #[] #[.pointer (some ⟨V1.heap.size, 0, none⟩), .pointer (some ⟨w.heap.size, 0, none⟩)])] 70 (0, 0)) := by rw [hW2]; exact block_alloc _ _
    have BW : Below w.heap.size w W2 := HB2.out.trans (bW2.mono HB2.out.size)
    have hE : PkE base hb s w.heap.size V1.heap.size W2 := ⟨HH.out.under BW, HKH1.out.under bW2, Kept.new (HH.out.under HB2.out) bW2 gF⟩
    have HC1 := Lib.hid (put1_any (.mk k n sx tx l) HVN.out.1 HVN.out.2 s P (.agg #[(.int .i8 k), (.int .i64 n), (.string sx), (.string tx), (.slice A l.length cap)]) W2 HS.out (by have := HVN.out.2; omega) (Nat.le_trans hbw BW.size) hE (HT.out.keep (fun b hb' => BW.block b (HP.out b hb').1) (fun _ h => h)) (fun b hb' => ⟨Nat.lt_of_lt_of_le (HP.out b hb').1 BW.size, (HP.out b hb').2.1.under BW, (HP.out b hb').2.2⟩))
    have HKR2 := Lib.hid (HKR1.out.under bW2)
    have HBW := Lib.hid BW
    have cF : W2.cell? ⟨V1.heap.size, 0, none⟩ = some (.func (.func 30) #[] #[.pointer (some ⟨V1.heap.size, 0, none⟩), .pointer (some ⟨w.heap.size, 0, none⟩)]) := cell_of_row gF rfl
    have kT2 := HKT1.out.under bW2
    have x0 : W2.cell? ⟨(w.heap.size + 1), 0, none⟩ = some (.int .i8 k) := cell_of_row kT2.blk rfl
    have x1 : W2.cell? ⟨(w.heap.size + 1), 1, none⟩ = some (.int .i64 n) := cell_of_row kT2.blk rfl
    have x2 : W2.cell? ⟨(w.heap.size + 1), 2, none⟩ = some (.string sx) := cell_of_row kT2.blk rfl
    have x3 : W2.cell? ⟨(w.heap.size + 1), 3, none⟩ = some (.string tx) := cell_of_row kT2.blk rfl
    have x4 : W2.cell? ⟨(w.heap.size + 1), 4, none⟩ = some (.slice A l.length cap) := cell_of_row kT2.blk rfl
    clear bW2 gF BW hE kT2
    subst hW2
    go_wp2_with fail
    clear hmf x0 x1 x2 x3 x4 cF
    refine HC1.out.mono ?_
    rintro e V3 ⟨q, kq, nq, sq, tq, Aq, cq, rfl, hqx, hTq, hqw, hqm, s1, hcs1, hws1, hm1⟩
    obtain ⟨hcells, hs32, ht32, -⟩ := own_hw hqm hqx
    have OW := Lib.hid (fun V => own_any q.c q.a kq nq sq tq Aq 0 cq (Nat.le_trans hs32 (by decide)) (Nat.le_trans ht32 (by decide)) V)
    have hR3 := HKR2.out.move hm1
    have HR3 := Lib.hid hR3
    have HM1 := Lib.hid hm1
    have HCE := Lib.hid (And.intro hcells (And.intro hqw (And.intro hcs1 hws1)))
    clear hqx hTq hqw hqm hcs1 hws1 hm1 hcells hs32 ht32 hR3
    go_wp2_with fail
    refine (OW.out _).mono ?_
    rintro e V4 ⟨rfl, b4⟩
    have hR4 := HR3.out.under b4
    have gB := hR4.blk
    have HR4 := Lib.hid hR4
    have HM2 := Lib.hid (HM1.out.on b4)
    have SV := Lib.hid (set_seven (.bool q.c) (.int .i64 q.a) (.int .i8 kq) (.int .i64 nq) (.string sq) (.string tq) (.slice none 0 0) gB)
    have q0 := cell_of_row (i := 0) gB rfl
    have f0 := free_of_row (i := 0) gB
    have q1 := cell_of_row (i := 1) gB rfl
    have f1 := free_of_row (i := 1) gB
    have q2 := cell_of_row (i := 2) gB rfl
    have f2 := free_of_row (i := 2) gB
    have q3 := cell_of_row (i := 3) gB rfl
    have f3 := free_of_row (i := 3) gB
    have q4 := cell_of_row (i := 4) gB rfl
    have f4 := free_of_row (i := 4) gB
    have q5 := cell_of_row (i := 5) gB rfl
    have f5 := free_of_row (i := 5) gB
    have q6 := cell_of_row (i := 6) gB rfl
    have f6 := free_of_row (i := 6) gB
    clear gB hR4 b4
    go_wp2_with fail
    obtain ⟨s7, m7⟩ := SV.out
    generalize ((((((V4.setCell ⟨(w.heap.size + 1 + 1), 0, none⟩ (.bool q.c)).setCell ⟨(w.heap.size + 1 + 1), 1, none⟩ (.int .i64 q.a)).setCell ⟨(w.heap.size + 1 + 1), 2, none⟩ (.int .i8 kq)).setCell ⟨(w.heap.size + 1 + 1), 3, none⟩ (.int .i64 nq)).setCell ⟨(w.heap.size + 1 + 1), 4, none⟩ (.string sq)).setCell ⟨(w.heap.size + 1 + 1), 5, none⟩ (.string tq)).setCell ⟨(w.heap.size + 1 + 1), 6, none⟩ (.slice none 0 0) = VX at s7 m7 ⊢
    have y0 := cell_of_row (i := 0) s7 rfl
    have y1 := cell_of_row (i := 1) s7 rfl
    have y2 := cell_of_row (i := 2) s7 rfl
    have y3 := cell_of_row (i := 3) s7 rfl
    have y4 := cell_of_row (i := 4) s7 rfl
    have y5 := cell_of_row (i := 5) s7 rfl
    have y6 := cell_of_row (i := 6) s7 rfl
    obtain ⟨hcells, hqw, hcs1, hws1⟩ := HCE.out
    refine bodyPost_ret (v := .tuple #[.agg #[(.bool q.c), (.int .i64 q.a), (.int .i8 kq), (.int .i64 nq), (.string sq), (.string tq), (.slice none 0 0)], .int .i64 0]) (by simp [results, Tryd.f7, go_sem, y0, y1, y2, y3, y4, y5, y6]) rfl (.inr ⟨HQ.out, ?_, s1, hcs1, hws1, ?_⟩)
    · rw [← hqw, hcells]
    · exact (HM2.out.of_below HBW.out HH.out HS.out.rn).write HH.out.lt (by omega) HR4.out.core m7
end Go.Proofs.YtphfekcacaaabaaDoor
