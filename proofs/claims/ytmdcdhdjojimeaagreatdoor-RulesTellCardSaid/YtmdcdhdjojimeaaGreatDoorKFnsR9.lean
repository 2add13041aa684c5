/- Layer 9: Functions: its contract. -/
import Derived.Test.YtmdcdhdjojimeaaGreatDoorKChk9
import Derived.Test.YtmdcdhdjojimeaaGreatDoorKPub7
import Derived.Test.YtmdcdhdjojimeaaGreatDoorKHas7
section
set_option linter.unusedVariables false
set_option linter.unusedSimpArgs false
namespace Go.Proofs.YtmdcdhdjojimeaaGreatDoor
open Go.RowKit Go.Shelf
attribute [local go_sem] Oper.semAt_some

def fnsT : List Tm → List (Fn9 × Tm)
 | [] => []
 | m :: l => (m.l.map fun f => ((m.s, f.s, f.n), f)) ++ fnsT l
theorem fnsT_W : ∀ l, (fnsT l).map (·.1) = fnsW l
 | [] => rfl
 | m :: l => by rw [fnsT, List.map_append, fnsT_W l, fnsW, List.map_map]; rfl
theorem fnsT_append : ∀ (a b : List Tm), fnsT (a ++ b) = fnsT a ++ fnsT b
 | [], b => rfl
 | m :: a, b => by rw [List.cons_append, fnsT, fnsT, fnsT_append a b, List.append_assoc]
theorem fnsT_take {l : List Tm} {i : Nat} {m : Tm} (h : l[i]? = some m) : fnsT (l.take (i + 1)) = fnsT (l.take i) ++ m.l.map fun f => ((m.s, f.s, f.n), f) := by
 rw [List.take_add_one, h, fnsT_append]
 simp [fnsT]
def fns9T (x : Tm) : List (Fn9 × Tm) := if fitsB x = true ∧ modsB x = true then fnsT x.l else []
abbrev FnI := Fn9 × Tm × Value
def keyF (a : FnI) : Fn9 × Tm := (a.1, a.2.1)
def encF (a : FnI) : Array Value := #[fnV a.1, a.2.2]
structure KpN (n0 : Nat) (A C : World) : Prop where
 size : A.heap.size ≤ C.heap.size
 low : ∀ k, k < n0 → n0 ≤ A.heap.size → C.heap[k]? = A.heap[k]?
 nodes : ∀ (k : Nat) (c : Array Value) (z : Nat × Nat), A.heap[k]? = some (.cells c 25 z) → C.heap[k]? = some (.cells c 25 z)
theorem KpN.trans {n0 : Nat} {A B C : World} (h : KpN n0 A B) (g : KpN n0 B C) : KpN n0 A C := ⟨Nat.le_trans h.size g.size, fun k hk hn => (g.low k hk (Nat.le_trans hn h.size)).trans (h.low k hk hn), fun k c z hk => g.nodes k c z (h.nodes k c z hk)⟩
theorem KpN.refl (n0 : Nat) (A : World) : KpN n0 A A := ⟨Nat.le_refl _, fun _ _ _ => rfl, fun _ _ _ h => h⟩
theorem KpN.of_below {n0 : Nat} {A B : World} (h : Below A.heap.size A B) : KpN n0 A B := ⟨h.size, fun k hk hn => h.block k (by omega), fun k c z hk => (h.block k (heap_lt hk)).trans hk⟩
theorem KpN.put {n0 : Nat} {W : World} {l : Nat} {o o' : Obj} (hl : n0 ≤ l) (h : W.heap[l]? = some o) (ho : o.isCells = false) : KpN n0 W (W.putObj l o') :=
 ⟨by rw [World.putObj_size]; exact Nat.le_refl _, fun k hk _ => World.putObj_heap_other (by omega), fun k c z hk => (World.putObj_heap_other (fun e => by subst e; rw [h] at hk; cases hk; cases ho)).trans hk⟩
def NextF (n0 : Nat) (w0 : World) (x : Tm) (pre : List FnI) (a : FnI) : Prop := ∃ j, pre.map keyF = (fns9T x).take j ∧ (fns9T x)[j]? = some (keyF a) ∧ TmAt (· < n0) w0 a.2.1 a.2.2
theorem mk_sF (k n : Int) (s t : ByteArray) (l : List Tm) : (Tm.mk k n s t l).s = s := rfl
theorem mk_nF (k n : Int) (s t : ByteArray) (l : List Tm) : (Tm.mk k n s t l).n = n := rfl
theorem prefix_at {A B C : List (Fn9 × Tm)} {f : Fn9 × Tm} {pre : List (Fn9 × Tm)} {L : List (Fn9 × Tm)} (hL : L = A ++ (B ++ f :: C)) (hp : pre = A ++ B) : pre = L.take (A.length + B.length) ∧ L[A.length + B.length]? = some f := by
 subst hL hp
 rw [← List.append_assoc]
 have : A.length + B.length = (A ++ B).length := by simp
 rw [this]
 exact ⟨List.take_left.symm, by rw [List.getElem?_append_right (Nat.le_refl _)]; simp⟩
set_option maxHeartbeats 16000000 in
set_option maxRecDepth 100000 in
theorem fns1_seq (n0 bn : Nat) (x : Tm) (cs : Array Value) (n : Nat) (w : World) (hT : TmAt (· < n0) w x (.agg cs)) (hn0 : n0 ≤ w.heap.size) (hE : Env7 w) (hN : x.nodes ≤ 8200) (hb : w.heap[bn]? = some (.cells cs 25 (0, 0))) :
  SeqE n Tryz.prog 48 #[.pointer (some ⟨bn, 0, none⟩)] encF (KpN n0) (NextF n0 w x) (fun ys => ys.map keyF = fns9T x) (fun _ => True) w := by
 intro l J Jx W hW hJ hJx hY h0
 have hTW : TmAt (· < n0) W x (.agg cs) := hT.under hW hn0
 have hbW : W.heap[bn]? = _ := (hW.block _ (heap_lt hb)).trans hb
 have hEW := hE.under hW
 have hCK := check7_ok x (.agg cs) W (hTW.mono (fun b hb => Nat.lt_of_lt_of_le hb (Nat.le_trans hn0 hW.size))) hN hEW
 obtain ⟨A, cap, hcs, hR, hk, hn, hs, ht⟩ : ∃ A cap, Value.agg cs = .agg #[.int .i8 x.k, .int .i64 x.n, .string x.s, .string x.t, .slice A x.l.length cap] ∧ TRow (· < n0) W A x.l.length cap x.l ∧ (-128 ≤ x.k ∧ x.k ≤ 127) ∧ (-9223372036854775808 ≤ x.n ∧ x.n ≤ 9223372036854775807) ∧ x.s.size ≤ maxLen ∧ x.t.size ≤ maxLen := by
  cases x; exact hTW.parts
 simp only [Value.agg.injEq] at hcs
 subst hcs
 have hlen := hR.max
 unfold maxLen at hlen
 obtain ⟨K0, hK0⟩ : ∃ K0 : Int, K0 = x.k := ⟨_, rfl⟩
 rw [← hK0] at hCK hbW
 have c0 := cell_of_row (i := 0) hbW rfl
 have c1 := cell_of_row (i := 1) hbW rfl
 have c2 := cell_of_row (i := 2) hbW rfl
 have c3 := cell_of_row (i := 3) hbW rfl
 have c4 := cell_of_row (i := 4) hbW rfl
 have HCK := Lib.hid hCK
 have HB := Lib.hid hbW
 have HR := Lib.hid hR
 have HJ := Lib.hid hJ
 have HJx := Lib.hid hJx
 have HY := Lib.hid hY
 have H0 := Lib.hid h0
 have HWL : Hid (∀ y v, TmAt (· < n0) W y v → TmAt (· < n0) w y v) := fun y v h => h.keep (fun b hb => (hW.block b (Nat.lt_of_lt_of_le hb hn0)).symm) (fun _ h => h)
 have HN0 : Hid (n0 ≤ W.heap.size) := Nat.le_trans hn0 hW.size
 clear hT hE hN hb hW hJ hJx hY h0 hTW hbW hEW hCK hR hn0 hk hn hs ht hK0
 refine callsIn_of_wp Tryz.func48 rfl trivial ?_ rfl
 simp only [Tryz.ntmps48, List.size_toArray, List.length_cons, List.length_nil, Nat.reduceAdd, Nat.reduceSub, Array.replicate_succ, Array.replicate_zero, List.push_toArray, List.append_toArray, List.nil_append, List.cons_append]
 gi_wp2_with fail
 refine ⟨trivial, fun h => (by cases h), ?_⟩
 refine (callsIn_wide.2 HCK.out).mono ?_
 clear c0 c1 c2 c3 c4
 rintro e W1 ⟨rfl, b1⟩
 have hb1 := (b1.block _ (heap_lt HB.out)).trans HB.out
 have c4 := cell_of_row (i := 4) hb1 rfl
 have HB1 := Lib.hid b1
 have HBX := Lib.hid hb1
 clear b1 hb1
 rcases checkR_or x with ⟨e0, hok⟩ | ⟨e0, hno⟩
 ·rw [e0]
  have HF : Hid (fns9T x = fnsT x.l) := if_pos hok
  have hJ1 := HJ.out _ _ _ H0.out HB1.out
  have HJ1 := Lib.hid hJ1
  have K1 : Hid (KpN n0 W W1) := KpN.of_below HB1.out
  clear e0 hok hJ1
  gi_wp2_with fail
  clear c4
  gi_loopw [13] (fun q wr => ∃ i : Nat, i ≤ x.l.length ∧ q = .int .i64 (i : Int) ∧ (∃ pre : List FnI, J pre wr ∧ pre.map keyF = fnsT (x.l.take i)) ∧ KpN n0 W wr) (fun q _ => x.l.length - (intOf q).toNat)
  case atStart => exact ⟨0, Nat.zero_le _, rfl, ⟨[], HJ1.out, rfl⟩, K1.out⟩
  case round =>
   obtain ⟨i, hi, rfl, ⟨pre, hJp, hpre⟩, hK⟩ := hrel
   have HJP := Lib.hid hJp
   have HPRE := Lib.hid hpre
   have HK := Lib.hid hK
   clear hJp hpre hK
   by_cases hlt : i < x.l.length
   ·obtain ⟨mm, hmm⟩ : ∃ mm, x.l[i]? = some mm := ⟨x.l[i], List.getElem?_eq_getElem hlt⟩
    obtain ⟨ad, u, rfl, had, hEl, hTy⟩ := HR.out.at_ i mm hmm
    have hEr : ElemAt wr ad i u := hEl.keep (HK.out.low ad.block had HN0.out)
    obtain ⟨k', n', s', t', L', A', cap', rfl, rfl⟩ : ∃ k' n' s' t' L' A' cap', mm = Tm.mk k' n' s' t' L' ∧ u = .agg #[.int .i8 k', .int .i64 n', .string s', .string t', .slice A' L'.length cap'] := by
     cases hTy; exact ⟨_, _, _, _, _, _, _, rfl, rfl⟩
    obtain ⟨A2, cap2, hu2, hRm, -, -, -, -⟩ := hTy.parts
    simp only [Value.agg.injEq, Array.mk.injEq, List.cons.injEq, Value.slice.injEq, and_true, true_and] at hu2
    obtain ⟨rfl, rfl⟩ := hu2
    obtain ⟨q0, q1, q2, q3, q4, hc, e0, e1, e2, e3, e4⟩ := hEr
    simp only [Value.agg.injEq, Array.mk.injEq, List.cons.injEq, and_true] at hc
    obtain ⟨rfl, rfl, rfl, rfl, rfl⟩ := hc
    have hlm := hRm.max
    unfold maxLen at hlm
    have bm : Below wr.heap.size wr (wr.alloc (.cells #[.int .i8 k', .int .i64 n', .string s', .string t', .slice A' L'.length cap'] 25)) := (Below.refl _ _).alloc (Nat.le_refl _) _
    have gm := block_alloc wr (.cells #[.int .i8 k', .int .i64 n', .string s', .string t', .slice A' L'.length cap'] 25)
    have d4 := cell_of_row (i := 4) gm rfl
    have HTK := Lib.hid (fnsT_take hmm)
    have HMM := Lib.hid hmm
    have HRM := Lib.hid hRm
    have HGM := Lib.hid gm
    have HJM := Lib.hid (HJ.out _ _ _ HJP.out bm)
    have HKM := Lib.hid (HK.out.trans (KpN.of_below bm))
    have HLT := Lib.hid hlt
    clear hmm hEl hTy hRm bm gm hlt
    gi_wp2_with fail
    clear d4 e0 e1 e2 e3 e4
    generalize wr.alloc (.cells #[.int .i8 k', .int .i64 n', .string s', .string t', .slice A' L'.length cap'] 25) = WM at HGM HJM HKM ⊢
    generalize wr.heap.size = bm at HGM ⊢
    clear HJP HK
    rw [show decide (i < x.l.length) = true from decide_eq_true HLT.out]
    gi_loopw [20] (fun q w2 => ∃ j : Nat, j ≤ L'.length ∧ q = .int .i64 (j : Int) ∧ (∃ pre : List FnI, J pre w2 ∧ pre.map keyF = fnsT (x.l.take i) ++ (L'.take j).map fun f => ((s', f.s, f.n), f)) ∧ KpN n0 WM w2) (fun q _ => L'.length - (intOf q).toNat)
    case atStart => exact ⟨0, Nat.zero_le _, rfl, ⟨pre, HJM.out, by rw [HPRE.out]; simp⟩, .refl _ _⟩
    case round =>
     obtain ⟨j, hj, rfl, ⟨pre2, hJp2, hpre2⟩, hK2⟩ := hrel
     have HJ2 := Lib.hid hJp2
     have HPRE2 := Lib.hid hpre2
     have HK2 := Lib.hid hK2
     clear hJp2 hpre2 hK2
     by_cases hlt2 : j < L'.length
     ·obtain ⟨ff, hff⟩ : ∃ ff, L'[j]? = some ff := ⟨L'[j], List.getElem?_eq_getElem hlt2⟩
      obtain ⟨ad2, u2, rfl, had2, hEl2, hTy2⟩ := HRM.out.at_ j ff hff
      have hEr2 : ElemAt wr ad2 j u2 := hEl2.keep ((HKM.out.trans HK2.out).low ad2.block had2 HN0.out)
      obtain ⟨k3, n3, s3, t3, L3, A3, cap3, rfl, rfl⟩ : ∃ k' n' s' t' L' A' cap', ff = Tm.mk k' n' s' t' L' ∧ u2 = .agg #[.int .i8 k', .int .i64 n', .string s', .string t', .slice A' L'.length cap'] := by
       cases hTy2; exact ⟨_, _, _, _, _, _, _, rfl, rfl⟩
      obtain ⟨p0, p1, p2, p3, p4, hc2, e0, e1, e2, e3, e4⟩ := hEr2
      simp only [Value.agg.injEq, Array.mk.injEq, List.cons.injEq, and_true] at hc2
      obtain ⟨rfl, rfl, rfl, rfl, rfl⟩ := hc2
      have bf : Below wr.heap.size wr (wr.alloc (.cells #[.int .i8 k3, .int .i64 n3, .string s3, .string t3, .slice A3 L3.length cap3] 25)) := (Below.refl _ _).alloc (Nat.le_refl _) _
      have gf := block_alloc wr (.cells #[.int .i8 k3, .int .i64 n3, .string s3, .string t3, .slice A3 L3.length cap3] 25)
      have d0 := cell_of_row (i := 0) gf rfl
      have d1 := cell_of_row (i := 1) gf rfl
      have d2 := cell_of_row (i := 2) gf rfl
      have d3 := cell_of_row (i := 3) gf rfl
      have d4 := cell_of_row (i := 4) gf rfl
      have gmw := HK2.out.nodes _ _ _ HGM.out
      have gmf := (bf.block _ (heap_lt gmw)).trans gmw
      have m2 := cell_of_row (i := 2) gmf rfl
      have hsplit : fnsT x.l = fnsT (x.l.take i) ++ ((L'.take j).map (fun f => ((s', f.s, f.n), f)) ++ ((s', s3, n3), Tm.mk k3 n3 s3 t3 L3) :: ((L'.drop (j + 1)).map (fun f => ((s', f.s, f.n), f)) ++ fnsT (x.l.drop (i + 1)))) := by
       have e1 : x.l = x.l.take (i + 1) ++ x.l.drop (i + 1) := (List.take_append_drop _ _).symm
       have e2 : L' = L'.take j ++ (Tm.mk k3 n3 s3 t3 L3 :: L'.drop (j + 1)) := by
        obtain ⟨h1, h2⟩ := List.getElem?_eq_some_iff.1 hff
        rw [← h2, ← List.drop_eq_getElem_cons h1, List.take_append_drop]
       conv => lhs; rw [e1, fnsT_append, HTK.out]
       show _ ++ List.map (fun f => ((s', f.s, f.n), f)) L' ++ _ = _
       conv => lhs; rw [e2]
       simp [List.append_assoc, mk_sF, mk_nF]
      obtain ⟨hp1, hp2⟩ := prefix_at hsplit HPRE2.out
      rw [← HF.out] at hp1 hp2
      obtain ⟨fn, tmps, assign, body, hy, hRound⟩ := HY.out pre2 ((s', s3, n3), Tm.mk k3 n3 s3 t3 L3, .agg #[.int .i8 k3, .int .i64 n3, .string s3, .string t3, .slice A3 L3.length cap3]) _ (HJ.out _ _ _ HJ2.out bf) ⟨_, hp1, hp2, HWL.out _ _ hTy2⟩
      unfold encF fnV at hy
      have HP1 := Lib.hid hp1
      have HLT2 := Lib.hid hlt2
      have HFF := Lib.hid hff
      have HKF := Lib.hid (HK2.out.trans (KpN.of_below bf))
      clear hff hEl2 hTy2 bf gf gmw gmf hsplit hp1 hp2 hlt2
      gi_wp2_with fail
      refine ⟨fun h => (by cases h), ?_⟩
      refine hRound.mono ?_
      clear hRound hy d0 d1 d2 d3 d4 m2 e0 e1 e2 e3 e4
      rintro e W5 (⟨rfl, hJ5, hK5⟩ | ⟨rfl, hx5⟩)
      ·have HJ5 := Lib.hid hJ5
       have HK5 := Lib.hid hK5
       clear hJ5 hK5
       gi_wp2_with fail
       go_roundw
       case rel => exact ⟨j + 1, HLT2.out, by go_num, ⟨pre2 ++ [((s', s3, n3), Tm.mk k3 n3 s3 t3 L3, .agg #[.int .i8 k3, .int .i64 n3, .string s3, .string t3, .slice A3 L3.length cap3])], HJ5.out, by rw [List.map_append, HPRE2.out, List.take_add_one, HFF.out, List.map_append, List.append_assoc]; rfl⟩, HKF.out.trans HK5.out⟩
       case measure => simp [intOf]; have := HLT2.out; omega
      ·have HX5 := Lib.hid hx5
       clear hx5
       gi_wp2_with fail
       refine bodyPost_ret (v := .tuple #[]) (results_none rfl _ _ _) rfl ?_
       exact ⟨⟨_, rfl⟩, .inr ⟨_, trivial, HX5.out⟩⟩
     ·obtain rfl : j = L'.length := by omega
      gi_wp2_with fail
      go_roundw
      case rel => exact ⟨i + 1, HLT.out, by go_num, ⟨pre2, HJ2.out, by rw [HPRE2.out, List.take_length, HTK.out]; rfl⟩, HKM.out.trans HK2.out⟩
      case measure => simp [intOf]; have := HLT.out; omega
   ·obtain rfl : i = x.l.length := by omega
    gi_wp2_with fail
    go_end0
    refine ⟨⟨_, rfl⟩, .inl ⟨pre, ?_, HJP.out⟩⟩
    rw [HPRE.out, List.take_length, HF.out]
 ·rw [e0]
  have HF : Hid (fns9T x = []) := if_neg hno
  clear e0 hno
  gi_wp2_with fail
  refine bodyPost_ret (v := .tuple #[]) (results_none rfl _ _ _) rfl ?_
  exact ⟨⟨_, rfl⟩, .inl ⟨[], by rw [HF.out]; rfl, HJ.out _ _ _ H0.out HB1.out⟩⟩
end Go.Proofs.YtmdcdhdjojimeaaGreatDoor
end
section
set_option linter.unusedVariables false
set_option linter.unusedSimpArgs false
namespace Go.Proofs.YtmdcdhdjojimeaaGreatDoor
open Go.RowKit Go.Shelf
attribute [local go_sem] Oper.semAt_some

theorem wpListIn_own1 {F : Fence} {nF : Nat} {T E : TypeId} {z : Value} {size : Nat} (hT : ElT T E z size) {ops : Array Oper} {rest : List Oper} {o : Oper} {a : Act} {w : World} {Q : Exit → Act → World → Prop} (hgd : o.guard = none) (sl x : Operand)
    (ho : o.op = .call { callee := .builtin .append, args := #[sl, x], argTypes := #[T, T] })
    {base : Nat} {v : Value} {n : Nat} {xs : List Value} (hown : w.ownsRow base E size v n xs) (hbase : base ≤ w.heap.size) (he : a.eval sl = v)
    (g : Nat) {news : Array Value} {fr : Nat × Nat} (hx : a.eval x = .slice (some ⟨g, 0, none⟩) 1 1) (hg : w.heap[g]? = some (.cells news E fr)) (hl : news.size = size) (h1 : ∀ u ∈ news.toList, u.oneCell' = true) (hlen : n + 1 ≤ 2000000)
    (h : ∀ v' w', w'.ownsRow base E size v' (n + 1) (xs ++ news.toList) → w.grownBy w' v.ownBlock → (v'.ownBlock = v.ownBlock ∨ v'.ownBlock = some w.heap.size) → wpListIn F nF Tryz.prog ops Q rest (a.put o.dst v') w') : wpListIn F nF Tryz.prog ops Q (o :: rest) a w := by
  obtain ⟨i, hi, hz, hsz, hby⟩ := hT.info
  have hnews : ∀ j u, news.toList[j]? = some u → w.cell? ((⟨g, 0, none⟩ : Addr).add j) = some u := by
    intro j u hj
    have e : (⟨g, 0, none⟩ : Addr).add j = ⟨g, j, none⟩ := by unfold Addr.add; split <;> simp_all
    rw [e]
    exact cell_of_row hg (by simpa using hj)
  exact wpListIn_append_own_at w hgd sl x T ho base E i z size i.bytes hT.sl hi hz hsz rfl hT.zs hT.pos v n xs he hown ⟨g, 0, none⟩ 1 1 news.toList hx (by simpa using hl) hnews h1 (by unfold maxLen; omega)
    (by have h9 : (n + 1) * i.bytes ≤ 2000000 * 200 := Nat.mul_le_mul hlen hby
        omega) hbase (fun v' w' h2 h3 _ h5 => h v' w' h2 h3 h5)
theorem info_fn9 : (Tryz.prog.info? 64).map (fun i => (i.zero, i.size, i.bytes)) = some (some (.agg #[.string ⟨#[]⟩, .string ⟨#[]⟩, .int .i64 0, .int .i64 0, .int .i64 0]), 5, 56) := by kernel_rfl
theorem elt_fn : ElT 39 64 (.agg #[.string ⟨#[]⟩, .string ⟨#[]⟩, .int .i64 0, .int .i64 0, .int .i64 0]) 5 := elt_of Tryz.underlying39 info_fn9 (by decide) rfl (by decide)
def fnCells (f : Fn9) : List Value := [.string f.1, .string f.2.1, .int .i64 f.2.2, .int .i64 0, .int .i64 0]
def flatF (L : List Fn9) : List Value := L.flatMap fnCells
theorem flatF_at : ∀ {L : List Fn9} {i : Nat} {x : Fn9} (_ : L[i]? = some x) (j : Nat) (_ : j < 5), (flatF L)[i * 5 + j]? = (fnCells x)[j]?
 | y :: L, 0, z, h, j, hj => by
  simp at h; subst h
  rw [flatF, List.flatMap_cons, List.getElem?_append_left (by show _ < 5; omega)]
  simp
 | y :: L, i + 1, z, h, j, hj => by
  have ih := flatF_at (L := L) (i := i) (x := z) (by simpa using h) j hj
  rw [flatF, List.flatMap_cons, List.getElem?_append_right (by show 5 ≤ _; omega), show (i + 1) * 5 + j - (fnCells y).length = i * 5 + j by show _ - 5 = _; omega]
  exact ih
def FnRow (V : World) (v : Value) (L : List Fn9) : Prop := ∃ A c, v = .slice A L.length c ∧ ∀ (i : Nat) (f : Fn9), L[i]? = some f → ∃ g, A = some ⟨g, 0, none⟩ ∧ g < V.heap.size ∧
 V.cell? ⟨g, i * 5, none⟩ = some (.string f.1) ∧ V.cell? ⟨g, i * 5 + 1, none⟩ = some (.string f.2.1) ∧ V.cell? ⟨g, i * 5 + 2, none⟩ = some (.int .i64 f.2.2) ∧ V.cell? ⟨g, i * 5 + 3, none⟩ = some (.int .i64 0) ∧ V.cell? ⟨g, i * 5 + 4, none⟩ = some (.int .i64 0)
theorem FnRow.under {V V' : World} {v : Value} {L : List Fn9} (h : FnRow V v L) (b : Below V.heap.size V V') : FnRow V' v L := by
 obtain ⟨A, c, h1, h2⟩ := h
 refine ⟨A, c, h1, fun i f hi => ?_⟩
 obtain ⟨g, e, hg, c0, c1, c2, c3, c4⟩ := h2 i f hi
 exact ⟨g, e, Nat.lt_of_lt_of_le hg b.size, (b.cell hg).trans c0, (b.cell hg).trans c1, (b.cell hg).trans c2, (b.cell hg).trans c3, (b.cell hg).trans c4⟩
theorem fnRow_of_own {V : World} {base : Nat} {v : Value} {L : List Fn9} (h : V.ownsRow base 64 5 v L.length (flatF L)) : FnRow V v L := by
 obtain ⟨A, c, rfl, _⟩ := own_slice h
 refine ⟨A, c, rfl, fun i f hi => ?_⟩
 have hlt := (List.getElem?_eq_some_iff.1 hi).1
 rcases h.2 with ⟨e1, e2⟩ | ⟨g, cap, cur, e1, _, hc, _⟩
 ·omega
 ·simp only [Value.slice.injEq] at e1
  obtain ⟨rfl, -, rfl⟩ := e1
  have at_ : ∀ j, j < 5 → V.cell? ⟨g, i * 5 + j, none⟩ = (fnCells f)[j]? := fun j hj => by rw [h.cellAt _ (by omega), flatF_at hi j hj]
  exact ⟨g, rfl, heap_lt hc, at_ 0 (by decide), at_ 1 (by decide), at_ 2 (by decide), at_ 3 (by decide), at_ 4 (by decide)⟩
theorem own_ne {w : World} {base : Nat} {e T : TypeId} {size : Nat} {v : Value} {n : Nat} {xs : List Value} {k : Nat} {c : Array Value} {z : Nat × Nat} (h : w.ownsRow base e size v n xs) (hk : w.heap[k]? = some (.cells c T z)) (hT : e ≠ T) : v.ownBlock ≠ some k := fun hv => by
 obtain ⟨_, cur, hc⟩ := own_blk h hv
 rw [hk] at hc
 injection hc with hc
 injection hc with _ h2 _
 exact hT h2.symm
theorem functions_in (v : Array Value) (n : Nat) (w : World) :
  CallsIn Fence.wide n Tryz.prog 28 #[.agg v] w fun e w' => e = .returned (.func (.func 48) #[] #[.pointer (some ⟨w.heap.size, 0, none⟩)]) ∧ w' = w.alloc (.cells v 25) := by
 refine callsIn_of_wp Tryz.func28 rfl trivial ?_ rfl
 simp only [Tryz.ntmps28, List.size_toArray, List.length_cons, List.length_nil, Nat.reduceAdd, Nat.reduceSub, Array.replicate_succ, Array.replicate_zero, List.push_toArray, List.append_toArray, List.nil_append, List.cons_append]
 gi_wp2
 go_ret
 exact ⟨rfl, rfl⟩
structure FnsI (w w2 : World) (bl : Nat) (pre : List FnI) (W : World) : Prop where
 below : Below w.heap.size w W
 size : w2.heap.size ≤ W.heap.size
 row : ∃ v, W.heap[bl]? = some (.cells #[v] 39 (0, 0)) ∧ W.ownsRow w.heap.size 64 5 v pre.length (flatF (pre.map (·.1)))
theorem FnsI.soft {w w2 A C : World} {bl : Nat} {pre : List FnI} (h : FnsI w w2 bl pre A) (hs : Soft w2.heap.size A C) (hw : w.heap.size ≤ w2.heap.size) : FnsI w w2 bl pre C := by
 obtain ⟨v, h1, h2⟩ := h.row
 exact ⟨h.below.trans (hs.below.mono hw), Nat.le_trans h.size hs.below.size, v, hs.same _ _ h1 (.inl rfl), own_keep h2 (fun b hb => by obtain ⟨_, cur, hc⟩ := own_blk h2 hb; exact (hs.same _ _ hc (.inl rfl)).trans hc.symm)⟩
theorem row_store {W V1 : World} {base bl size n n' : Nat} {e T : TypeId} {v v' : Value} {xs xs' : List Value} (hb : W.heap[bl]? = some (.cells #[v] T (0, 0))) (ho : W.ownsRow base e size v n xs) (hT : e ≠ T) (hl : base ≤ bl) (hw : base ≤ W.heap.size)
  (g : W.grownBy V1 v.ownBlock) (h1 : V1.ownsRow base e size v' n' xs') :
  (V1.setCell ⟨bl, 0, none⟩ v').heap[bl]? = some (.cells #[v'] T (0, 0)) ∧ (V1.setCell ⟨bl, 0, none⟩ v').ownsRow base e size v' n' xs' ∧ Below base W (V1.setCell ⟨bl, 0, none⟩ v') ∧ W.heap.size ≤ (V1.setCell ⟨bl, 0, none⟩ v').heap.size ∧
  (∀ (k : Nat) (o : Obj), W.heap[k]? = some o → k ≠ bl → (∀ c z, o ≠ .cells c e z) → (V1.setCell ⟨bl, 0, none⟩ v').heap[k]? = some o) := by
 have hb1 : V1.heap[bl]? = _ := (g.block _ (heap_lt hb) (fun e' => own_ne ho hb hT e'.symm)).trans hb
 have m1 : Mod (fun k => v.ownBlock = some k) W V1 := Mod.grown g (fun k _ e => e)
 have m2 : Mod (fun k => k = bl) V1 (V1.setCell ⟨bl, 0, none⟩ v') := Mod.setCell _ _ _ (.inl rfl)
 have mm : Mod (fun k => k = bl ∨ v.ownBlock = some k) W (V1.setCell ⟨bl, 0, none⟩ v') := (m1.mono (fun _ _ h => .inr h)).trans m2 (fun _ _ h => .inl h)
 refine ⟨set_row (i := 0) v' hb1, own_keep h1 (fun b hv => m2.block b (by obtain ⟨_, cur, h2⟩ := own_blk h1 hv; exact heap_lt h2) (fun e' => own_ne h1 hb1 hT (by rw [hv, e']))), mm.below hw (fun k hk => ?_), mm.size, fun k o hk hne hc => (mm.block k (heap_lt hk) ?_).trans hk⟩
 ·rcases hk with rfl | hk
  ·exact hl
  ·exact (own_blk ho hk).1
 ·rintro (rfl | hv)
  ·exact hne rfl
  ·obtain ⟨_, cur, h2⟩ := own_blk ho hv
   rw [hk] at h2
   exact hc _ _ (Option.some.inj h2)
theorem flatF_snoc (L : List Fn9) (f : Fn9) : flatF (L ++ [f]) = flatF L ++ fnCells f := by simp [flatF]
set_option maxHeartbeats 8000000 in
set_option maxRecDepth 100000 in
theorem Functions_any (x : Tm) (nv : Value) (w : World) (hT : TmAt (· < w.heap.size) w x nv) (hN : x.nodes ≤ 8200) (hE : Env7 w) (hL : (fns9T x).length ≤ 100000) :
  Calls Tryz.prog 17 #[nv] w fun e w' => ∃ v, e = .returned v ∧ FnRow w' v ((fns9T x).map (·.1)) ∧ Below w.heap.size w w' := by
 obtain ⟨k, n, s, t, L, A, cap, hx, rfl⟩ : ∃ k' n' s' t' L' A' cap', x = Tm.mk k' n' s' t' L' ∧ nv = .agg #[.int .i8 k', .int .i64 n', .string s', .string t', .slice A' L'.length cap'] := by
  cases hT; exact ⟨_, _, _, _, _, _, _, rfl, rfl⟩
 obtain ⟨w3, hw3⟩ : ∃ w3, w3 = ((w.alloc (.cells #[.int .i8 k, .int .i64 n, .string s, .string t, .slice A L.length cap] 25)).alloc (.cells #[.slice none 0 0] 39)).alloc (.cells #[.int .i8 k, .int .i64 n, .string s, .string t, .slice A L.length cap] 25) := ⟨_, rfl⟩
 obtain ⟨g0, g1, g2, b3, z3⟩ := three_at w (.cells #[.int .i8 k, .int .i64 n, .string s, .string t, .slice A L.length cap] 25) (.cells #[.slice none 0 0] 39) (.cells #[.int .i8 k, .int .i64 n, .string s, .string t, .slice A L.length cap] 25)
 have a0 := block_alloc w (.cells #[.int .i8 k, .int .i64 n, .string s, .string t, .slice A L.length cap] 25)
 have a0' := (Below.heap_alloc (w.alloc (.cells #[.int .i8 k, .int .i64 n, .string s, .string t, .slice A L.length cap] 25)) (.cells #[.slice none 0 0] 39) _ (heap_lt a0)).trans a0
 have d0 := cell_of_row (i := 0) a0' rfl
 have d1 := cell_of_row (i := 1) a0' rfl
 have d2 := cell_of_row (i := 2) a0' rfl
 have d3 := cell_of_row (i := 3) a0' rfl
 have d4 := cell_of_row (i := 4) a0' rfl
 rw [← hw3] at g0 g1 g2 b3 z3
 have hst := fns1_seq w.heap.size (w.heap.size + 2) x _ (3 - 1) w3 (hT.under b3 (Nat.le_refl _)) (by omega) (hE.under b3) hN g2
 have HST := Lib.hid hst
 have HZ3 := Lib.hid z3
 have HB3 := Lib.hid b3
 have HG1 := Lib.hid g1
 have HL := Lib.hid hL
 clear hst z3 b3 g0 g1 g2 hT hN hE hL a0 a0' hx
 refine (callsIn_wide (n := 3)).1 ?_
 refine callsIn_of_wp_marks Tryz.func17 rfl trivial ?_ rfl
 simp only [Tryz.ntmps17, List.size_toArray, List.length_cons, List.length_nil, Nat.reduceAdd, Nat.reduceSub, Array.replicate_succ, Array.replicate_zero, List.push_toArray, List.append_toArray, List.nil_append, List.cons_append]
 gi_wp2_with (refine ⟨trivial, ?_⟩; gi_at_call 28; refine (functions_in _ _ _).mono ?_; rintro e w' ⟨rfl, rfl⟩)
 rw [← hw3]
 clear hw3 d0 d1 d2 d3 d4
 simp only [Nat.add_assoc, Nat.reduceAdd]
 refine range_E (α := FnI) (gf := 48) (lb := #[.pointer (some ⟨w.heap.size + 2, 0, none⟩)]) rfl (enters_of Tryz.func48 (by kernel_rfl) rfl) (fun _ => rfl) HST.out
  KpN.trans (fun W l o o' hl h ho => KpN.put (by have := HZ3.out; omega) h ho) (fun A C h => KpN.of_below h)
  (FnsI w w3 (w.heap.size + 1)) (fun _ _ _ => False) (fun s A C h hs _ => h.soft hs (by have := HZ3.out; omega)) (fun c s A C h _ _ => h)
  ⟨HB3.out, Nat.le_refl _, _, HG1.out, World.ownsRow_nil _ _ _ _⟩
  (fun q a' W => a'.defers = [] ∧ ∃ g, a'.tmps = #[.agg #[.int .i8 k, .int .i64 n, .string s, .string t, .slice A L.length cap], .pointer (some ⟨w.heap.size, 0, none⟩), .slice none 0 0, .pointer (some ⟨w.heap.size + 1, 0, none⟩), .pointer (some ⟨g, 0, none⟩), .agg #[.int .i8 k, .int .i64 n, .string s, .string t, .slice A L.length cap],
   .func (.func 48) #[] #[.pointer (some ⟨w.heap.size + 2, 0, none⟩)], fnV q.1, q.2.2, undef, undef, undef, undef, undef] ∧ W.heap[g]? = some (.cells (fnCells q.1).toArray 64 (0, 0))) (fun q a' X Y h hs => ⟨h.1, by obtain ⟨g, e, hg⟩ := h.2; exact ⟨g, e, hs.same _ _ hg (.inl rfl)⟩⟩) ?assign ?body ?done ?stop (by decide)
 case assign =>
  rintro l' pre q W K hi hE hz hK
  have HK := Lib.hid hK
  simp only [encF, fnV]
  clear hK hi hE
  gi_wp2_with fail
  exact HK.out _ _ ((Below.refl _ _).alloc (Nat.le_refl _) _) ⟨rfl, _, rfl, block_alloc _ _⟩
 case body =>
  rintro l' pre q ⟨tm, df⟩ W hi ⟨j, hpre, hq, hqT⟩ ⟨hdf, g, htm, hg⟩ hz ⟨r, hr⟩ ⟨d, hd⟩
  dsimp only at hdf htm
  subst hdf htm
  obtain ⟨v0, hl1, hrow⟩ := hi.row
  obtain ⟨A0, cap0, hv0, -⟩ := own_slice hrow
  subst hv0
  have c1 : W.cell? ⟨w.heap.size + 1, 0, none⟩ = some (.slice A0 pre.length cap0) := cell_of_row hl1 rfl
  have e0 : W.cell? ⟨g, 0, none⟩ = some (.string q.1.1) := cell_of_row hg rfl
  have e1 : W.cell? ⟨g, 1, none⟩ = some (.string q.1.2.1) := cell_of_row (i := 1) hg rfl
  have e2 : W.cell? ⟨g, 2, none⟩ = some (.int .i64 q.1.2.2) := cell_of_row (i := 2) hg rfl
  have e3 : W.cell? ⟨g, 3, none⟩ = some (.int .i64 0) := cell_of_row (i := 3) hg rfl
  have e4 : W.cell? ⟨g, 4, none⟩ = some (.int .i64 0) := cell_of_row (i := 4) hg rfl
  have hpl : pre.length = j := by
   have h9 := congrArg List.length hpre
   rw [List.length_map, List.length_take] at h9
   have := (List.getElem?_eq_some_iff.1 hq).1
   omega
  have hjl := (List.getElem?_eq_some_iff.1 hq).1
  obtain ⟨X, hX⟩ : ∃ X, X = W.alloc (.cells #[.string q.1.1, .string q.1.2.1, .int .i64 q.1.2.2, .int .i64 0, .int .i64 0] 64) := ⟨_, rfl⟩
  have hnw : w.heap.size ≤ W.heap.size := by have := HZ3.out; omega
  have hXo : X.ownsRow w.heap.size 64 5 (.slice A0 pre.length cap0) pre.length (flatF (pre.map (·.1))) := by rw [hX]; exact own_keep hrow (fun b hb => by obtain ⟨_, cur, hc⟩ := own_blk hrow hb; exact Below.heap_alloc _ _ _ (heap_lt hc))
  have hXg : X.heap[W.heap.size]? = some (.cells #[.string q.1.1, .string q.1.2.1, .int .i64 q.1.2.2, .int .i64 0, .int .i64 0] 64 (0, 0)) := by rw [hX]; exact block_alloc _ _
  have hXz : X.heap.size = W.heap.size + 1 := by rw [hX]; exact World.size_alloc _ _
  have hXv : X.heap[w.heap.size + 1]? = some (.cells #[.slice A0 pre.length cap0] 39 (0, 0)) := by rw [hX]; exact (Below.heap_alloc _ _ _ (heap_lt hl1)).trans hl1
  have hXs : Soft w3.heap.size W X := by rw [hX]; exact Soft.of_below ((Below.refl _ _).alloc (Nat.le_refl _) _) (by omega)
  have HI := Lib.hid hi
  have HQ := Lib.hid hq
  have HPRE := Lib.hid hpre
  have HXO := Lib.hid hXo
  have HXG := Lib.hid hXg
  have HXV := Lib.hid hXv
  have HXZ := Lib.hid hXz
  have HXS := Lib.hid hXs
  have HR := Lib.hid hr
  have HD := Lib.hid hd
  have HZ := Lib.hid hz
  have HB5 : Hid (w.heap.size ≤ X.heap.size) := by show _ ≤ _; omega
  have HLEN : Hid (pre.length + 1 ≤ 2000000) := by show _ ≤ _; have := HL.out; omega
  clear hi hq hpre hl1 hrow hr hd hqT hXo hXg hXz hXv hpl hjl hnw hXs hz
  gi_wp2_with (rw [← hX]; refine wpListIn_own1 elt_fn rfl _ _ rfl HXO.out HB5.out rfl _ rfl HXG.out rfl ?ones HLEN.out ?_; (case ones => intro u hu; simp at hu; rcases hu with rfl | rfl | rfl | rfl <;> rfl); intro v' w5 h5 g5 a5; obtain ⟨A5, c5, hv5, -⟩ := own_slice h5; subst hv5; have hL5 := (g5.block _ (heap_lt HXV.out) (fun e => own_ne HXO.out HXV.out (by decide) e.symm)).trans HXV.out; have cv5 := cell_of_row (i := 0) hL5 rfl; have fv5 := free_of_row (i := 0) hL5; have HR5 := Lib.hid (And.intro h5 (And.intro g5 a5)); clear h5 g5 a5 hL5)
  obtain ⟨h5, g5, -⟩ := HR5.out
  clear HR5 cv5 fv5 c1 e0 e1 e2 e3 e4
  obtain ⟨s1, s2, s3, s4, s5⟩ := row_store HXV.out HXO.out (by decide) (Nat.le_succ _) HB5.out g5 h5
  have hnw : w.heap.size ≤ W.heap.size := by have := HZ3.out; have := HZ.out; omega
  have other : ∀ (k : Nat) (o : Obj), W.heap[k]? = some o → k ≠ w.heap.size + 1 → (∀ c z, o ≠ .cells c 64 z) → (w5.setCell ⟨w.heap.size + 1, 0, none⟩ (.slice A5 (pre.length + 1) c5)).heap[k]? = some o := fun k o hk hne hc => by
   have hx : X.heap[k]? = some o := by rw [hX]; exact (Below.heap_alloc _ _ _ (heap_lt hk)).trans hk
   exact s5 k o hx hne hc
  have hbx : Below w.heap.size W X := by rw [hX]; exact (Below.refl _ _).alloc hnw _
  have hbw := hbx.trans s3
  refine ⟨⟨by have := HXZ.out; omega, ?_, ?_⟩, ⟨by have := HXZ.out; omega, fun k hk _ => hbw.block k hk, fun k c z hk => other k _ hk (fun e => ?_) (fun c' z' e => by injection e with _ e2 _; exact absurd e2 (by decide))⟩, ⟨HI.out.below.trans hbw, by have := HXZ.out; have := HI.out.size; omega, _, s1, ?_⟩⟩
  ·rw [HR.out]; exact other _ _ HR.out (by have := HZ3.out; omega) (fun _ _ e => by cases e)
  ·rw [HD.out]; exact other _ _ HD.out (by have := HZ3.out; omega) (fun _ _ e => by cases e)
  ·obtain ⟨v9, h9, _⟩ := HI.out.row
   rw [e, h9] at hk
   injection hk with hk
   injection hk with _ e2 _
   exact absurd e2 (by decide)
  ·rw [List.length_append, List.map_append, List.map_singleton, flatF_snoc]
   exact s2
 case done =>
  rintro xs W hxs hi hd
  obtain ⟨v0, hl1, hrow⟩ := hi.row
  have c1 := cell_of_row (i := 0) hl1 rfl
  have HI := Lib.hid hi
  have HXS := Lib.hid hxs
  have HROW := Lib.hid hrow
  have HD := Lib.hid hd
  clear hi hxs hl1 hrow hd
  gi_wp2
  refine ⟨by simp, .inl ⟨_, _, rfl, run_takeDeferred HD.out, ?_⟩⟩
  have hs := Soft.put0 (o' := .deferred none) HD.out rfl
  have hi2 := HI.out.soft hs (by have := HZ3.out; omega)
  refine ⟨v0, by simp [results, Tryz.f17, go_sem], v0, rfl, ?_, hi2.below⟩
  have e9 : xs.map (·.1) = (fns9T x).map (·.1) := by rw [← HXS.out, List.map_map]; rfl
  have h10 : (W.putObj w3.heap.size (.deferred none)).ownsRow w.heap.size 64 5 v0 xs.length (flatF (xs.map (·.1))) := own_keep HROW.out (fun b hb => by obtain ⟨_, cur, hc⟩ := own_blk HROW.out hb; exact (hs.same _ _ hc (.inl rfl)).trans hc.symm)
  rw [← e9]
  rw [show xs.length = (xs.map (·.1)).length from (List.length_map _).symm] at h10
  exact fnRow_of_own h10
 case stop =>
  rintro c pre W - h
  exact h.elim
end Go.Proofs.YtmdcdhdjojimeaaGreatDoor
end
