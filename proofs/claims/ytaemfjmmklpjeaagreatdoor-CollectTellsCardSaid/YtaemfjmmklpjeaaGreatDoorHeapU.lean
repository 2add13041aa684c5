/- package heap: the closure of Take. package heap: Take. -/
import Derived.Test.YtaemfjmmklpjeaaGreatDoorHeapV
import Derived.Test.YtaemfjmmklpjeaaGreatDoorStT
import Derived.Deep.QuietTactic
import Derived.BigQuiet
import Derived.LoopTactic
import Derived.LoopNIn
import Derived.Deep.RegionHeld
import Derived.OrdersHeld
set_option linter.unusedVariables false
namespace Go.Proofs.YtaemfjmmklpjeaaGreatDoor
open Go.RowKit

def wt (cs : List HC) : Nat → HW → Tm
  | _, .leaf x => .mk x.k x.n x.s x.t []
  | 0, .ref _ => .mk 0 0 ⟨#[]⟩ ⟨#[]⟩ []
  | f + 1, .ref a => match cs[a]? with | some c => .mk c.k 0 ⟨#[]⟩ ⟨#[]⟩ (c.L.map (wt cs f)) | none => .mk 0 0 ⟨#[]⟩ ⟨#[]⟩ []
theorem wt_ref {cs : List HC} {f a : Nat} {c : HC} (h : cs[a]? = some c) : wt cs (f + 1) (.ref a) = .mk c.k 0 ⟨#[]⟩ ⟨#[]⟩ (c.L.map (wt cs f)) := by
  rw [wt, h]
theorem leaf_bounds {x : Tm} (h : leafE x = 0) : x.l = [] ∧ (-128 ≤ x.k ∧ x.k ≤ 127) ∧ (-9223372036854775808 ≤ x.n ∧ x.n ≤ 9223372036854775807) ∧ x.s.size ≤ maxLen ∧ x.t.size ≤ maxLen := by
  unfold leafE at h
  have h30 : checkN x ≠ 30 := fun e => by rw [if_pos e] at h; cases h
  rw [if_neg h30] at h
  have hk : ¬ ((x.k == 5 || x.k == 7) = true) := fun e => by rw [if_pos e] at h; cases h
  have h5 : x.k ≠ 5 := fun e => hk (by rw [e]; rfl)
  have h7 : x.k ≠ 7 := fun e => hk (by rw [e]; rfl)
  obtain ⟨hok, hl, hs, ht⟩ := leaf_case h30 h5 h7
  have hm : (32 : Nat) ≤ maxLen := by decide
  refine ⟨hl, ?_, ?_, Nat.le_trans hs hm, Nat.le_trans ht hm⟩
  all_goals
    obtain ⟨k, n, s, t, l⟩ := x
    have hok : okB (.mk k n s t l) = true := hok
    rcases valid_cases hok with hc | hc | hc | hc | hc | hc | hc | hc
  case refine_1.inl => obtain ⟨rfl, -⟩ := hc; simp only [Tm.k]; omega
  case refine_1.inr.inl => obtain ⟨rfl, -⟩ := hc; simp only [Tm.k]; omega
  case refine_1.inr.inr.inl => obtain ⟨rfl, -⟩ := hc; simp only [Tm.k]; omega
  case refine_1.inr.inr.inr.inl => obtain ⟨rfl, -⟩ := hc; simp only [Tm.k]; omega
  case refine_1.inr.inr.inr.inr.inl => obtain ⟨rfl, -⟩ := hc; simp only [Tm.k]; omega
  case refine_1.inr.inr.inr.inr.inr.inl => obtain ⟨rfl, -⟩ := hc; simp only [Tm.k]; omega
  case refine_1.inr.inr.inr.inr.inr.inr.inl => obtain ⟨rfl, -⟩ := hc; simp only [Tm.k]; omega
  case refine_1.inr.inr.inr.inr.inr.inr.inr => obtain ⟨rfl, -⟩ := hc; simp only [Tm.k]; omega
  case refine_2.inl =>
    obtain ⟨rfl, rfl, rfl, rfl⟩ := hc
    have hok := (show ok_integer n _ _ 0 = true from hok)
    simp [ok_integer] at hok
    have := may_bd hok.1.1
    show _ ≤ n ∧ n ≤ _; omega
  case refine_2.inr.inl => obtain ⟨_, rfl, -⟩ := hc; simp only [Tm.n]; omega
  case refine_2.inr.inr.inl =>
    obtain ⟨rfl, rfl, rfl, rfl⟩ := hc
    have hok := (show ok_ref n _ _ 0 = true from hok)
    simp [ok_ref, pidB] at hok
    show _ ≤ n ∧ n ≤ _; omega
  case refine_2.inr.inr.inr.inl =>
    obtain ⟨rfl, rfl⟩ := hc
    have hok := (show ok_fun n s t 0 = true from hok)
    simp [ok_fun, arB] at hok
    show _ ≤ n ∧ n ≤ _; omega
  case refine_2.inr.inr.inr.inr.inl =>
    obtain ⟨rfl, rfl, rfl, rfl⟩ := hc
    have hok := (show ok_pid n _ _ 0 = true from hok)
    simp [ok_pid, pidB] at hok
    show _ ≤ n ∧ n ≤ _; omega
  case refine_2.inr.inr.inr.inr.inr.inl => obtain ⟨_, rfl, -⟩ := hc; simp only [Tm.n]; omega
  case refine_2.inr.inr.inr.inr.inr.inr.inl => obtain ⟨_, rfl, -⟩ := hc; simp only [Tm.n]; omega
  case refine_2.inr.inr.inr.inr.inr.inr.inr => obtain ⟨_, rfl, -⟩ := hc; simp only [Tm.n]; omega

structure TkE (base hb : Nat) (s : HSt) (B F : Nat) (w : World) : Prop where
  heap : s.At base w hb
  hbox : w.heap[B]? = some (.cells #[.pointer (some ⟨hb, 0, none⟩)] 33 (0, 0))
  fbox : w.heap[F]? = some (.cells #[.func (.func 61) #[] #[.pointer (some ⟨B, 0, none⟩), .pointer (some ⟨F, 0, none⟩)]] 111 (0, 0))
theorem TkE.under {base hb B F : Nat} {s : HSt} {w w' : World} (h : TkE base hb s B F w) (b : Below w.heap.size w w') : TkE base hb s B F w' :=
  ⟨h.heap.under b, (b.block _ (heap_lt h.hbox)).trans h.hbox, (b.block _ (heap_lt h.fbox)).trans h.fbox⟩

def NewT (x : Tm) (w : World) (e : Ending) (w' : World) : Prop := ∃ v, e = .returned v ∧ TmAt (fun b => w.heap.size ≤ b ∧ b < w'.heap.size) w' x v ∧ Below w.heap.size w w'

structure TkS (s : HSt) (w : World) (g5 : Nat) (c : HC) (A : Option Addr) (f : Nat) (j : Nat) (lv : Value) (V : World) : Prop where
  res : V.heap[w.heap.size + 1]? = some (.cells #[(.int .i8 0), (.int .i64 0), (.string ⟨#[]⟩), (.string ⟨#[]⟩), (.slice none 0 0)] 27 (0, 0))
  cell : V.heap[g5]? = some (.cells #[.int .i8 c.k, .int .i64 c.size, .slice A c.L.length c.L.length] 62 (0, 0))
  own : OwnT (g5 + 1) (fun b => g5 < b ∧ b < V.heap.size ∧ lv.ownBlock ≠ some b) V lv ((c.L.take j).map (wt s.cs f))
  mod : Below w.heap.size w V

theorem HW.shape (y : HW) : ∃ bb aa kk nn ss tt, y.cells = [.bool bb, .int .i64 aa, .int .i8 kk, .int .i64 nn, .string ss, .string tt, .slice none 0 0] := by
  cases y <;> exact ⟨_, _, _, _, _, _, rfl⟩

theorem set_three {w : World} {b : Nat} {T : TypeId} {a0 a1 a2 : Value} (c0 c1 c2 : Value) (h : w.heap[b]? = some (.cells #[a0, a1, a2] T (0, 0))) :
    (((w.setCell ⟨b, 0, none⟩ c0).setCell ⟨b, 1, none⟩ c1).setCell ⟨b, 2, none⟩ c2).heap[b]? = some (.cells #[c0, c1, c2] T (0, 0)) ∧ Mod (fun k => k = b) w (((w.setCell ⟨b, 0, none⟩ c0).setCell ⟨b, 1, none⟩ c1).setCell ⟨b, 2, none⟩ c2) := by
  have s0 := set_row c0 (i := 0) h
  have s1 := set_row c1 (i := 1) s0
  have s2 := set_row c2 (i := 2) s1
  refine ⟨s2, ?_⟩
  have m : ∀ (W : World) (i : Nat) (c : Value), Mod (fun k => k = b) W (W.setCell ⟨b, i, none⟩ c) := fun W i c => Mod.setCell _ _ _ (.inl rfl)
  exact ((m _ 0 _).trans (m _ 1 _) (fun _ _ h => h)).trans (m _ 2 _) (fun _ _ h => h)

set_option maxHeartbeats 4000000 in
set_option maxRecDepth 100000 in
theorem take1_leaf (P Q : Value) (x : Tm) (hx : leafE x = 0) (w : World) : Calls Tryz.prog 61 #[.agg #[(.bool false), (.int .i64 0), (.int .i8 x.k), (.int .i64 x.n), (.string x.s), (.string x.t), (.slice none 0 0)], P, Q] w (NewT (.mk x.k x.n x.s x.t []) w) := by
  have HX := Lib.hid hx
  clear hx
  go_enter Tryz.func61, Tryz.ntmps61
  go_wp2_with fail
  refine bodyPost_ret (v := .agg #[(.int .i8 x.k), (.int .i64 x.n), (.string x.s), (.string x.t), (.slice none 0 0)]) (by simp [results, Tryz.f61, go_sem]) rfl ?_
  obtain ⟨-, hk, hn, hs, ht⟩ := leaf_bounds HX.out
  exact ⟨_, rfl, leaf_at _ _ hk hn hs ht, ((Below.refl _ w).alloc (Nat.le_refl _) _).alloc (by simp) _⟩

set_option maxHeartbeats 8000000 in
set_option maxRecDepth 100000 in
theorem take1_any {base hb : Nat} {s : HSt} {B F : Nat} (hg : HGood s.cs) : ∀ (f : Nat) (x : HW), wgood f x → f ≤ s.cs.length → ∀ w : World, TkE base hb s B F w →
    Calls Tryz.prog 61 #[.agg x.cells.toArray, .pointer (some ⟨B, 0, none⟩), .pointer (some ⟨F, 0, none⟩)] w (NewT (wt s.cs f x) w) := by
  intro f
  induction f with
  | zero =>
    intro x hx _ w hE
    cases x with
    | ref a => exact absurd hx (Nat.not_lt_zero _)
    | leaf x => exact take1_leaf _ _ x hx w
  | succ f ih =>
    intro x hx hf w hE
    cases x with
    | leaf x => exact take1_leaf _ _ x hx w
    | ref a =>
    have hac : a < s.cs.length := Nat.lt_of_lt_of_le hx hf
    obtain ⟨c, hc⟩ : ∃ c, s.cs[a]? = some c := ⟨s.cs[a], List.getElem?_eq_getElem hac⟩
    have hsz : c.L.length + 1 ≤ 256 := by
      have h1 := hg.size a c hc
      have h2 := hg.most a c hc
      have h3 : ∀ L : List HW, (∀ y ∈ L, 1 ≤ wsize s.cs y) → L.length + 1 ≤ wsum s.cs L := by
        intro L
        induction L with
        | nil => intro _; simp [wsum]
        | cons y L ih => intro h; have := h y (by simp); have := ih (fun z hz => h z (by simp [hz])); simp [wsum]; omega
      have h4 := h3 c.L (fun y hy => by
        cases y with
        | leaf x => exact Nat.le_refl 1
        | ref b =>
          unfold wsize
          cases hb : s.cs[b]? with
          | none => simp only [hb]; omega
          | some d =>
            simp only [hb]
            have := hg.size b d hb
            have h5 : ∀ L : List HW, 1 ≤ wsum s.cs L := by intro L; induction L with | nil => simp [wsum] | cons y L ih => simp [wsum]; omega
            have := h5 d.L
            omega)
      omega
    have hpl : ∀ y ∈ c.L, wgood f y := fun y hy => by
      have h1 := hg.low a c hc y hy
      cases y with
      | leaf x => exact h1
      | ref b => exact Nat.lt_of_lt_of_le h1 (by have : a < f + 1 := hx; omega)
    have HWT := Lib.hid (wt_ref (f := f) hc)
    obtain ⟨w1, hw1⟩ : ∃ w1, w1 = (w.alloc (.cells #[(.bool true), (.int .i64 a), (.int .i8 0), (.int .i64 0), (.string ⟨#[]⟩), (.string ⟨#[]⟩), (.slice none 0 0)] 51)).alloc (.cells #[(.int .i8 0), (.int .i64 0), (.string ⟨#[]⟩), (.string ⟨#[]⟩), (.slice none 0 0)] 27) := ⟨_, rfl⟩
    have z1 : (w.alloc (.cells #[(.bool true), (.int .i64 a), (.int .i8 0), (.int .i64 0), (.string ⟨#[]⟩), (.string ⟨#[]⟩), (.slice none 0 0)] 51)).heap.size = w.heap.size + 1 := World.size_alloc _ _
    have B1 : Below w.heap.size w w1 := by rw [hw1]; exact ((Below.refl _ w).alloc (Nat.le_refl _) _).alloc (by omega) _
    have zw1 : w1.heap.size = w.heap.size + 2 := by rw [hw1, World.size_alloc, z1]
    have g0 : w1.heap[w.heap.size]? = some (.cells #[(.bool true), (.int .i64 a), (.int .i8 0), (.int .i64 0), (.string ⟨#[]⟩), (.string ⟨#[]⟩), (.slice none 0 0)] 51 (0, 0)) := by rw [hw1, Below.heap_alloc _ _ _ (by omega)]; exact block_alloc _ _
    have g1 : w1.heap[w.heap.size + 1]? = some (.cells #[(.int .i8 0), (.int .i64 0), (.string ⟨#[]⟩), (.string ⟨#[]⟩), (.slice none 0 0)] 27 (0, 0)) := by rw [hw1, ← z1]; exact block_alloc _ _
    have e1 := hE.under B1
    obtain ⟨gc, ccap, A, hCS, k0', k1', k2', hWA⟩ := HeapAt.cell hE.heap hc
    have hgc : gc < w.heap.size := World.block_lt_of_cell? w _ k0'
    have k0 := (World.cell?_of_block (w := w) (w' := w1) (a := ⟨gc, a * 3, none⟩) (B1.block gc hgc)).trans k0'
    have k1 := (World.cell?_of_block (w := w) (w' := w1) (a := ⟨gc, a * 3 + 1, none⟩) (B1.block gc hgc)).trans k1'
    have k2 := (World.cell?_of_block (w := w) (w' := w1) (a := ⟨gc, a * 3 + 2, none⟩) (B1.block gc hgc)).trans k2'
    clear k0' k1' k2' hgc
    have i0 : (0 : Int) ≤ (a : Int) := by omega
    have i1 : (a : Int) < (s.cs.length : Int) := by omega
    have ad3 : (⟨gc, 0, none⟩ : Addr).add (a * 3) = ⟨gc, a * 3, none⟩ := by unfold Addr.add; split <;> simp_all
    have HIH := Lib.hid (fun y hy => ih y (hpl y hy) (by omega))
    have HE1 := Lib.hid e1
    have HG0 := Lib.hid g0
    have HG1 := Lib.hid g1
    have HB1 := Lib.hid B1
    have HK := Lib.hid (And.intro k0 (And.intro k1 k2))
    have HWA := Lib.hid hWA
    have HE := Lib.hid hE
    have hkk := hg.kind a c hc
    have HKK := Lib.hid hkk
    have HSZ : Hid (c.L.length + 1 ≤ 256) := hsz
    have HCS := Lib.hid hCS
    have HZ1 := Lib.hid zw1
    have x0 : w1.cell? ⟨w.heap.size, 0, none⟩ = some (.bool true) := cell_of_row g0 rfl
    clear ih hE e1 g0 g1 B1 k0 k1 k2 hWA hCS zw1 z1 hpl hc hx hf hkk
    show Calls _ _ #[.agg #[(.bool true), (.int .i64 a), (.int .i8 0), (.int .i64 0), (.string ⟨#[]⟩), (.string ⟨#[]⟩), (.slice none 0 0)], .pointer (some ⟨B, 0, none⟩), .pointer (some ⟨F, 0, none⟩)] w _
    go_enter Tryz.func61, Tryz.ntmps61
    go_wp2_with fail
    rw [← hw1]
    clear hw1
    go_wp2_with fail
    clear x0
    have hS0 : TkE base hb s B F w1.drew ∧ w1.drew.heap[w.heap.size]? = some (.cells #[(.bool true), (.int .i64 a), (.int .i8 0), (.int .i64 0), (.string ⟨#[]⟩), (.string ⟨#[]⟩), (.slice none 0 0)] 51 (0, 0)) ∧ (w1.drew.cell? ⟨gc, a * 3, none⟩ = some (.int .i8 c.k) ∧ w1.drew.cell? ⟨gc, a * 3 + 1, none⟩ = some (.int .i64 c.size) ∧ w1.drew.cell? ⟨gc, a * 3 + 2, none⟩ = some (.slice A c.L.length c.L.length)) :=
      ⟨HE1.out.under ⟨rfl, rfl, rfl, Nat.le_refl _, fun _ _ => rfl⟩, HG0.out, HK.out⟩
    refine wp_region_held (S := fun V => TkE base hb s B F V ∧ V.heap[w.heap.size]? = some (.cells #[(.bool true), (.int .i64 a), (.int .i8 0), (.int .i64 0), (.string ⟨#[]⟩), (.string ⟨#[]⟩), (.slice none 0 0)] 51 (0, 0)) ∧ (V.cell? ⟨gc, a * 3, none⟩ = some (.int .i8 c.k) ∧ V.cell? ⟨gc, a * 3 + 1, none⟩ = some (.int .i64 c.size) ∧ V.cell? ⟨gc, a * 3 + 2, none⟩ = some (.slice A c.L.length c.L.length))) (by kernel_rfl) ?_
    show wpAnyH _ _ _ _ _ _ _ _ w1.drew
    have HBD : Hid (Below w.heap.size w w1.drew ∧ w1.drew.heap[w.heap.size + 1]? = some (.cells #[(.int .i8 0), (.int .i64 0), (.string ⟨#[]⟩), (.string ⟨#[]⟩), (.slice none 0 0)] 27 (0, 0)) ∧ w1.drew.heap.size = w.heap.size + 2) := ⟨HB1.out.trans ⟨rfl, rfl, rfl, Nat.le_refl _, fun _ _ => rfl⟩, HG1.out, HZ1.out⟩
    generalize w1.drew = D at hS0 HBD ⊢
    refine wpAnyH_take (i := 0) (oi := ⟨some 14, _, _, _, _, _⟩) (v := ?_) rfl (by kernel_rfl) (by kernel_rfl) (by kernel_rfl) (fun _ _ _ h => h) (Or.inl ⟨by kernel_rfl, ?_⟩) (by assumption) ?_; rotate_left; (intro w hSw; (try dsimp only at hSw); have q0 := cell_of_row (i := 0) hSw.1.hbox rfl; have q1 := cell_of_row (i := 0) hSw.1.heap.bx rfl; rw [HCS.out] at q1; have q2 := cell_of_row (i := 1) hSw.2.1 rfl; obtain ⟨r0, r1, r2⟩ := hSw.2.2; go_simp; first | done | with_reducible rfl); (try simp only [Act.put, List.setIfInBounds_toArray, List.set_cons_zero, List.set_cons_succ])
    refine wpAnyH_take (i := 1) (oi := ⟨some 15, _, _, _, _, _⟩) (v := ?_) rfl (by kernel_rfl) (by kernel_rfl) (by kernel_rfl) (fun _ _ _ h => h) (Or.inl ⟨by kernel_rfl, ?_⟩) (by assumption) ?_; rotate_left; (intro w hSw; (try dsimp only at hSw); have q0 := cell_of_row (i := 0) hSw.1.hbox rfl; have q1 := cell_of_row (i := 0) hSw.1.heap.bx rfl; rw [HCS.out] at q1; have q2 := cell_of_row (i := 1) hSw.2.1 rfl; obtain ⟨r0, r1, r2⟩ := hSw.2.2; go_simp; first | done | with_reducible rfl); (try simp only [Act.put, List.setIfInBounds_toArray, List.set_cons_zero, List.set_cons_succ])
    refine wpAnyH_take (i := 2) (oi := ⟨some 16, _, _, _, _, _⟩) (v := ?_) rfl (by kernel_rfl) (by kernel_rfl) (by kernel_rfl) (fun _ _ _ h => h) (Or.inl ⟨by kernel_rfl, ?_⟩) (by assumption) ?_; rotate_left; (intro w hSw; (try dsimp only at hSw); have q0 := cell_of_row (i := 0) hSw.1.hbox rfl; have q1 := cell_of_row (i := 0) hSw.1.heap.bx rfl; rw [HCS.out] at q1; have q2 := cell_of_row (i := 1) hSw.2.1 rfl; obtain ⟨r0, r1, r2⟩ := hSw.2.2; go_simp; first | done | with_reducible rfl); (try simp only [Act.put, List.setIfInBounds_toArray, List.set_cons_zero, List.set_cons_succ])
    refine wpAnyH_take (i := 3) (oi := ⟨some 17, _, _, _, _, _⟩) (v := ?_) rfl (by kernel_rfl) (by kernel_rfl) (by kernel_rfl) (fun _ _ _ h => h) (Or.inl ⟨by kernel_rfl, ?_⟩) (by assumption) ?_; rotate_left; (intro w hSw; (try dsimp only at hSw); have q0 := cell_of_row (i := 0) hSw.1.hbox rfl; have q1 := cell_of_row (i := 0) hSw.1.heap.bx rfl; rw [HCS.out] at q1; have q2 := cell_of_row (i := 1) hSw.2.1 rfl; obtain ⟨r0, r1, r2⟩ := hSw.2.2; go_simp; first | done | with_reducible rfl); (try simp only [Act.put, List.setIfInBounds_toArray, List.set_cons_zero, List.set_cons_succ])
    refine wpAnyH_take (i := 4) (oi := ⟨some 18, _, _, _, _, _⟩) (v := ?_) rfl (by kernel_rfl) (by kernel_rfl) (by kernel_rfl) (fun _ _ _ h => h) (Or.inl ⟨by kernel_rfl, ?_⟩) (by assumption) ?_; rotate_left; (intro w hSw; (try dsimp only at hSw); have q0 := cell_of_row (i := 0) hSw.1.hbox rfl; have q1 := cell_of_row (i := 0) hSw.1.heap.bx rfl; rw [HCS.out] at q1; have q2 := cell_of_row (i := 1) hSw.2.1 rfl; obtain ⟨r0, r1, r2⟩ := hSw.2.2; go_simp; first | done | with_reducible rfl); (try simp only [Act.put, List.setIfInBounds_toArray, List.set_cons_zero, List.set_cons_succ])
    refine wpAnyH_take (i := 5) (oi := ⟨some 19, _, _, _, _, _⟩) (v := ?_) rfl (by kernel_rfl) (by kernel_rfl) (by kernel_rfl) (fun _ _ _ h => h) (Or.inl ⟨by kernel_rfl, ?_⟩) (by assumption) ?_; rotate_left; (intro w hSw; (try dsimp only at hSw); have q0 := cell_of_row (i := 0) hSw.1.hbox rfl; have q1 := cell_of_row (i := 0) hSw.1.heap.bx rfl; rw [HCS.out] at q1; have q2 := cell_of_row (i := 1) hSw.2.1 rfl; obtain ⟨r0, r1, r2⟩ := hSw.2.2; go_simp; first | done | with_reducible rfl); (try simp only [Act.put, List.setIfInBounds_toArray, List.set_cons_zero, List.set_cons_succ])
    refine wpAnyH_take (i := 6) (oi := ⟨some 20, _, _, _, _, _⟩) (v := ?_) rfl (by kernel_rfl) (by kernel_rfl) (by kernel_rfl) (fun _ _ _ h => h) (Or.inl ⟨by kernel_rfl, ?_⟩) (by assumption) ?_; rotate_left; (intro w hSw; (try dsimp only at hSw); have q0 := cell_of_row (i := 0) hSw.1.hbox rfl; have q1 := cell_of_row (i := 0) hSw.1.heap.bx rfl; rw [HCS.out] at q1; have q2 := cell_of_row (i := 1) hSw.2.1 rfl; obtain ⟨r0, r1, r2⟩ := hSw.2.2; (try rw [ad3]); go_simp; first | done | with_reducible rfl); (try simp only [Act.put, List.setIfInBounds_toArray, List.set_cons_zero, List.set_cons_succ])
    refine wpAnyH_take (i := 7) (oi := ⟨some 21, _, _, _, _, _⟩) (v := ?_) rfl (by kernel_rfl) (by kernel_rfl) (by kernel_rfl) (fun _ _ _ h => h) (Or.inl ⟨by kernel_rfl, ?_⟩) (by assumption) ?_; rotate_left; (intro w hSw; (try dsimp only at hSw); have q0 := cell_of_row (i := 0) hSw.1.hbox rfl; have q1 := cell_of_row (i := 0) hSw.1.heap.bx rfl; rw [HCS.out] at q1; have q2 := cell_of_row (i := 1) hSw.2.1 rfl; obtain ⟨r0, r1, r2⟩ := hSw.2.2; (try rw [ad3]); go_simp; first | done | with_reducible rfl); (try simp only [Act.put, List.setIfInBounds_toArray, List.set_cons_zero, List.set_cons_succ])
    refine wpAnyH_ready (rs := [8]) (by kernel_rfl) (by simp) ?_
    refine AllReadyH.cons (o := ⟨some 5, _, _, _, _, _⟩) rfl (fun K hK => ?_) AllReadyH.nil
    rw [if_pos (by rfl)]
    go_simp
    have gD := block_alloc D (.cells #[(.int .i8 0), (.int .i64 0), (.slice none 0 0)] 62)
    obtain ⟨D2, hD2⟩ : ∃ D2, D2 = D.alloc (.cells #[(.int .i8 0), (.int .i64 0), (.slice none 0 0)] 62) := ⟨_, rfl⟩
    have bD : Below D.heap.size D D2 := by rw [hD2]; exact (Below.refl _ _).alloc (Nat.le_refl _) _
    have hsD : D2.heap.size = D.heap.size + 1 := by rw [hD2]; exact World.size_alloc _ _
    rw [← hD2] at gD ⊢
    have hS2 := And.intro (hS0.1.under bD) (And.intro ((bD.block _ (heap_lt hS0.2.1)).trans hS0.2.1) (And.intro ((World.cell?_of_block (w := D) (a := ⟨gc, a * 3, none⟩) (bD.block gc (World.block_lt_of_cell? D _ hS0.2.2.1))).trans hS0.2.2.1) (And.intro ((World.cell?_of_block (w := D) (a := ⟨gc, a * 3 + 1, none⟩) (bD.block gc (World.block_lt_of_cell? D _ hS0.2.2.1))).trans hS0.2.2.2.1) ((World.cell?_of_block (w := D) (a := ⟨gc, a * 3 + 2, none⟩) (bD.block gc (World.block_lt_of_cell? D _ hS0.2.2.1))).trans hS0.2.2.2.2))))
    have HD := Lib.hid (And.intro bD hsD)
    clear bD hsD hD2
    refine hK.out _ _ hS2 (fun hSn => ?_)
    clear hK K; (try simp only [Act.put, List.setIfInBounds_toArray, List.set_cons_zero, List.set_cons_succ])
    have y0 : D2.cell? ⟨D.heap.size, 0, none⟩ = some (.int .i8 0) := cell_of_row gD rfl
    have y1 : D2.cell? ⟨D.heap.size, 1, none⟩ = some (.int .i64 0) := cell_of_row gD rfl
    have y2 : D2.cell? ⟨D.heap.size, 2, none⟩ = some (.slice none 0 0) := cell_of_row gD rfl
    have fz0 : D2.frozen? ⟨D.heap.size, 0, none⟩ = false := free_of_row gD
    have fz1 : D2.frozen? ⟨D.heap.size, 1, none⟩ = false := free_of_row gD
    have fz2 : D2.frozen? ⟨D.heap.size, 2, none⟩ = false := free_of_row gD
    have SV := Lib.hid (set_three (.int .i8 c.k) (.int .i64 c.size) (.slice A c.L.length c.L.length) gD)
    clear gD
    refine wpAnyH_ready (rs := [9]) (by kernel_rfl) (by simp) ?_
    refine AllReadyH.cons (o := ⟨none, _, _, _, _, _⟩) rfl (fun K hK => ?_) AllReadyH.nil
    rw [if_pos (by rfl)]
    go_simp
    obtain ⟨s3, m3⟩ := SV.out
    generalize ((D2.setCell ⟨D.heap.size, 0, none⟩ (.int .i8 c.k)).setCell ⟨D.heap.size, 1, none⟩ (.int .i64 c.size)).setCell ⟨D.heap.size, 2, none⟩ (.slice A c.L.length c.L.length) = X at s3 m3 ⊢
    have hd1 := HBD.out.2.2
    have bX : Below D.heap.size D2 X := m3.below (by rw [HD.out.2]; omega) (fun k (e : k = D.heap.size) => by omega)
    have bDX : Below D.heap.size D X := HD.out.1.trans bX
    have hS3 := And.intro (hS0.1.under bDX) (And.intro ((bDX.block _ (heap_lt hS0.2.1)).trans hS0.2.1) (And.intro ((World.cell?_of_block (w := D) (a := ⟨gc, a * 3, none⟩) (bDX.block gc (World.block_lt_of_cell? D _ hS0.2.2.1))).trans hS0.2.2.1) (And.intro ((World.cell?_of_block (w := D) (a := ⟨gc, a * 3 + 1, none⟩) (bDX.block gc (World.block_lt_of_cell? D _ hS0.2.2.1))).trans hS0.2.2.2.1) ((World.cell?_of_block (w := D) (a := ⟨gc, a * 3 + 2, none⟩) (bDX.block gc (World.block_lt_of_cell? D _ hS0.2.2.1))).trans hS0.2.2.2.2))))
    refine hK.out _ _ hS3 (fun hSn => ?_)
    clear hK K; (try simp only [Act.put, List.setIfInBounds_toArray, List.set_cons_zero, List.set_cons_succ])
    refine wpAnyH_done (by kernel_rfl) ?_ _
    have hXs : D.heap.size + 1 ≤ X.heap.size := by have h8 := m3.size; have h9 := HD.out.2; omega
    have hgw : w.heap.size + 1 < D.heap.size := by omega
    obtain ⟨g5, hg5⟩ : ∃ g5, g5 = D.heap.size := ⟨_, rfl⟩
    rw [← hg5] at s3 hXs hgw ⊢
    have H0 : Hid (TkS s w g5 c A f 0 (.slice none 0 0) X) := ⟨(bDX.block _ (heap_lt HBD.out.2.1)).trans HBD.out.2.1, s3, OwnT.nil _ _ _, HBD.out.1.trans (bDX.mono HBD.out.1.size)⟩
    have HGW := Lib.hid hgw
    have HGL : Hid (g5 < X.heap.size) := by exact (by omega : g5 < X.heap.size)
    have y2 : X.cell? ⟨g5, 2, none⟩ = some (.slice A c.L.length c.L.length) := cell_of_row s3 rfl
    clear hS0 hS2 hS3 hXs s3 m3 bX bDX hd1 SV ad3 i0 i1 hg5 hgw
    go_wp2_with fail
    clear y2
    go_loopw [6, 25] (fun r i wr => ∃ (j : Nat) (A2 : Option Addr) (cap2 : Nat), j ≤ c.L.length ∧ i = .int .i64 j ∧ r = .slice A2 j cap2 ∧ TkS s w g5 c A f j (.slice A2 j cap2) wr) (fun _ i _ => c.L.length - (intOf i).toNat)
    case atStart => exact ⟨0, none, 0, Nat.zero_le _, rfl, rfl, H0.out⟩
    case round =>
      obtain ⟨j, A2, cap2, hj, rfl, rfl, hT⟩ := hrel
      have HT := Lib.hid hT
      clear hT
      by_cases hlt : j < c.L.length
      · obtain ⟨y, hy⟩ : ∃ y, c.L[j]? = some y := ⟨c.L[j], List.getElem?_eq_getElem hlt⟩
        obtain ⟨gw, ow, hAe, hcw⟩ := HWA.out j y hy
        obtain ⟨bb, aa, kk, nn, ss, tt, hcc⟩ := HW.shape y
        have hgw : gw < w.heap.size := World.block_lt_of_cell? w _ (hcw 0 _ (by rw [hcc]; rfl))
        have hwk : wr.heap[gw]? = w.heap[gw]? := HT.out.mod.block gw hgw
        have e0 : wr.cell? ⟨gw, ow + j * 7, none⟩ = some (.bool bb) := (World.cell?_of_block (w := w) (a := ⟨gw, ow + j * 7, none⟩) hwk).trans (hcw 0 _ (by rw [hcc]; rfl))
        have e1 : wr.cell? ⟨gw, ow + j * 7 + 1, none⟩ = some (.int .i64 aa) := (World.cell?_of_block (w := w) (a := ⟨gw, ow + j * 7 + 1, none⟩) hwk).trans (hcw 1 _ (by rw [hcc]; rfl))
        have e2 : wr.cell? ⟨gw, ow + j * 7 + 2, none⟩ = some (.int .i8 kk) := (World.cell?_of_block (w := w) (a := ⟨gw, ow + j * 7 + 2, none⟩) hwk).trans (hcw 2 _ (by rw [hcc]; rfl))
        have e3 : wr.cell? ⟨gw, ow + j * 7 + 3, none⟩ = some (.int .i64 nn) := (World.cell?_of_block (w := w) (a := ⟨gw, ow + j * 7 + 3, none⟩) hwk).trans (hcw 3 _ (by rw [hcc]; rfl))
        have e4 : wr.cell? ⟨gw, ow + j * 7 + 4, none⟩ = some (.string ss) := (World.cell?_of_block (w := w) (a := ⟨gw, ow + j * 7 + 4, none⟩) hwk).trans (hcw 4 _ (by rw [hcc]; rfl))
        have e5 : wr.cell? ⟨gw, ow + j * 7 + 5, none⟩ = some (.string tt) := (World.cell?_of_block (w := w) (a := ⟨gw, ow + j * 7 + 5, none⟩) hwk).trans (hcw 5 _ (by rw [hcc]; rfl))
        have e6 : wr.cell? ⟨gw, ow + j * 7 + 6, none⟩ = some (.slice none 0 0) := (World.cell?_of_block (w := w) (a := ⟨gw, ow + j * 7 + 6, none⟩) hwk).trans (hcw 6 _ (by rw [hcc]; rfl))
        obtain ⟨wz, hwz⟩ : ∃ wz, wz = wr.alloc (.cells #[(.bool bb), (.int .i64 aa), (.int .i8 kk), (.int .i64 nn), (.string ss), (.string tt), (.slice none 0 0)] 51) := ⟨_, rfl⟩
        have bz : Below wr.heap.size wr wz := by rw [hwz]; exact (Below.refl _ _).alloc (Nat.le_refl _) _
        have gz : wz.heap[wr.heap.size]? = some (.cells #[(.bool bb), (.int .i64 aa), (.int .i8 kk), (.int .i64 nn), (.string ss), (.string tt), (.slice none 0 0)] 51 (0, 0)) := by rw [hwz]; exact block_alloc _ _
        have bwz : Below w.heap.size w wz := HT.out.mod.trans (bz.mono HT.out.mod.size)
        have HC : Hid (Calls Tryz.prog 61 #[.agg #[(.bool bb), (.int .i64 aa), (.int .i8 kk), (.int .i64 nn), (.string ss), (.string tt), (.slice none 0 0)], .pointer (some ⟨B, 0, none⟩), .pointer (some ⟨F, 0, none⟩)] wz (NewT (wt s.cs f y) wz)) := by
          have h := HIH.out y (List.mem_of_getElem? hy) wz (HE.out.under bwz)
          rw [hcc] at h
          exact h
        have cF : wz.cell? ⟨F, 0, none⟩ = some (.func (.func 61) #[] #[.pointer (some ⟨B, 0, none⟩), .pointer (some ⟨F, 0, none⟩)]) := cell_of_row (HE.out.under bwz).fbox rfl
        have z0 : wz.cell? ⟨wr.heap.size, 0, none⟩ = some (.bool bb) := cell_of_row gz rfl
        have z1 : wz.cell? ⟨wr.heap.size, 1, none⟩ = some (.int .i64 aa) := cell_of_row gz rfl
        have z2 : wz.cell? ⟨wr.heap.size, 2, none⟩ = some (.int .i8 kk) := cell_of_row gz rfl
        have z3 : wz.cell? ⟨wr.heap.size, 3, none⟩ = some (.int .i64 nn) := cell_of_row gz rfl
        have z4 : wz.cell? ⟨wr.heap.size, 4, none⟩ = some (.string ss) := cell_of_row gz rfl
        have z5 : wz.cell? ⟨wr.heap.size, 5, none⟩ = some (.string tt) := cell_of_row gz rfl
        have z6 : wz.cell? ⟨wr.heap.size, 6, none⟩ = some (.slice none 0 0) := cell_of_row gz rfl
        have HBZ := Lib.hid bz
        have HBWZ := Lib.hid bwz
        have HY := Lib.hid hy
        have HAE := Lib.hid hAe
        have i0 : (0 : Int) ≤ (j : Int) := by omega
        have i1 : (j : Int) < (c.L.length : Int) := by omega
        subst hAe
        clear hcw hcc hgw hwk bz gz bwz hy
        subst hwz
        go_wp2_with fail
        clear e0 e1 e2 e3 e4 e5 e6
        refine HC.out.mono ?_
        rintro e W1 ⟨tv, rfl, hTm, b1⟩
        obtain ⟨k', n', s', t', L', A', cap', hy', rfl⟩ : ∃ k' n' s' t' L' A' cap', wt s.cs f y = Tm.mk k' n' s' t' L' ∧ tv = .agg #[.int .i8 k', .int .i64 n', .string s', .string t', .slice A' L'.length cap'] := by
          generalize wt s.cs f y = q at hTm
          cases hTm; exact ⟨_, _, _, _, _, _, _, rfl, rfl⟩
        clear hy'
        obtain ⟨W3, hW3⟩ : ∃ W3, W3 = W1.alloc (.cells #[.int .i8 k', .int .i64 n', .string s', .string t', .slice A' L'.length cap'] 27) := ⟨_, rfl⟩
        have zw3 : W3.heap.size = W1.heap.size + 1 := by rw [hW3]; exact World.size_alloc _ _
        have g3 : W3.heap[W1.heap.size]? = some (.cells #[.int .i8 k', .int .i64 n', .string s', .string t', .slice A' L'.length cap'] 27 (0, 0)) := by rw [hW3]; exact block_alloc _ _
        have m13 : Below W1.heap.size W1 W3 := by rw [hW3]; exact (Below.refl _ _).alloc (Nat.le_refl _) _
        have bwr3 : Below wr.heap.size wr W3 := HBZ.out.trans ((b1.trans (m13.mono b1.size)).mono HBZ.out.size)
        have s1 := HBZ.out.size
        have s2 := b1.size
        have hg5r : g5 < wr.heap.size := heap_lt HT.out.cell
        have hob : ∀ g, (Value.slice A2 j cap2).ownBlock = some g → g5 + 1 ≤ g ∧ g < wr.heap.size := fun g hg => HT.out.own.own g hg
        obtain ⟨PQ, hPQ⟩ : ∃ PQ : Nat → Prop, ∀ b, PQ b ↔ (g5 < b ∧ b < W3.heap.size ∧ (Value.slice A2 j cap2).ownBlock ≠ some b) := ⟨_, fun _ => Iff.rfl⟩
        obtain ⟨hs, hhs⟩ : ∃ hs, hs = (c.L.take j).map (wt s.cs f) := ⟨_, rfl⟩
        obtain ⟨yt, hyt⟩ : ∃ yt, yt = wt s.cs f y := ⟨_, rfl⟩
        have ow3 : OwnT (g5 + 1) PQ W3 (.slice A2 j cap2) hs := by
          rw [hhs]
          exact HT.out.own.keep (Mod.of_below (F := fun _ => False) bwr3) (fun _ _ f => f) (fun b hb => ⟨hb.2.1, fun f => f⟩) (fun b hb => (hPQ b).2 ⟨hb.1, by have := bwr3.size; have := hb.2.1; omega, hb.2.2⟩)
        have t3 : TmAt PQ W3 yt (.agg #[.int .i8 k', .int .i64 n', .string s', .string t', .slice A' L'.length cap']) :=
          hyt ▸ hTm.keep (fun b hb => m13.block b hb.2) (fun b hb => (hPQ b).2 ⟨by have := hb.1; omega, by have := hb.2; omega, fun e => by have := (hob b e).2; have := hb.1; omega⟩)
        have hml : hs.length + 1 ≤ 1000000 := by have := HSZ.out; rw [hhs]; simp; omega
        have HPQ := Lib.hid hPQ
        have HHS := Lib.hid hhs
        have HYT := Lib.hid hyt
        have HOW3 := Lib.hid ow3
        have HT3 := Lib.hid t3
        have HG3 := Lib.hid g3
        have HZ3 := Lib.hid zw3
        have HOB := Lib.hid hob
        have HML := Lib.hid hml
        have HB3 : Hid (g5 + 1 ≤ W3.heap.size) := by exact (by omega : g5 + 1 ≤ W3.heap.size)
        have HBW3 := Lib.hid bwr3
        have HW3 := Lib.hid hW3
        clear hTm b1 zw3 g3 m13 bwr3 s1 s2 hg5r hob ow3 t3 hml hPQ hhs hyt z0 z1 z2 z3 z4 z5 z6 cF
        go_wp2_with (rw [← hW3]; refine wpList_own_term rfl (.tmp 29) (.tmp 33) rfl HOW3.out HB3.out (fun b hb => ((HPQ.out b).1 hb).2) rfl W1.heap.size rfl HG3.out HT3.out HML.out ?_)
        intro v' w' O' hg hwh
        (try rw [← HW3.out] at hg); (try rw [← HW3.out] at hwh)
        have hsz3 : W3.heap.size ≤ w'.heap.size := hg.size
        have hg5r : g5 < wr.heap.size := heap_lt HT.out.cell
        have m' : Mod (fun g => g5 + 1 ≤ g) wr w' := (Mod.of_below HBW3.out).trans (Mod.grown (F := fun g => g5 + 1 ≤ g) hg (fun g _ e => (HOB.out g e).1)) (fun _ _ h => h)
        have hlm : hs ++ [yt] = (c.L.take (j + 1)).map (wt s.cs f) := by rw [HHS.out, HYT.out, List.take_add_one, HY.out]; simp
        rw [hlm] at O'
        obtain ⟨A5, cap5, rfl⟩ := O'.shape
        have hl1 : ((c.L.take (j + 1)).map (wt s.cs f)).length = j + 1 := by simp; omega
        rw [hl1] at O' hwh
        have own' : OwnT (g5 + 1) (fun b => g5 < b ∧ b < w'.heap.size ∧ (Value.slice A5 (j + 1) cap5).ownBlock ≠ some b) w' (.slice A5 (j + 1) cap5) ((c.L.take (j + 1)).map (wt s.cs f)) :=
          O'.keep (Mod.refl (fun _ => False) w') (fun _ _ h => h) (fun b hb => ⟨by have h1 := ((HPQ.out b).1 hb).2.1; omega, fun h => h⟩) (fun b hb => ⟨((HPQ.out b).1 hb).1, by have h1 := ((HPQ.out b).1 hb).2.1; omega, fun e => by
            rcases hwh with h1 | h1
            · exact ((HPQ.out b).1 hb).2.2 (h1.trans e)
            · rw [h1] at e; injection e with e; have h1 := ((HPQ.out b).1 hb).2.1; have h2 := HZ3.out; omega⟩)
        have H2 : Hid (TkS s w g5 c (some ⟨gw, ow, none⟩) f (j + 1) (.slice A5 (j + 1) cap5) w') := ⟨(m'.block _ (by have := HGW.out; omega) (by have := HGW.out; omega)).trans HT.out.res, (m'.block _ hg5r (by omega)).trans HT.out.cell, own', HT.out.mod.trans (m'.below HT.out.mod.size (fun k (e : g5 + 1 ≤ k) => by have := HGW.out; omega))⟩
        rw [hl1]
        clear hg hwh O' m' own' hsz3 hg5r hlm hl1 hW3
        go_wp2_with fail
        go_roundw
        case rel => exact ⟨j + 1, A5, cap5, by omega, by go_num, rfl, H2.out⟩
        case measure => simp [intOf]; omega
      · obtain rfl : j = c.L.length := by omega
        have x0 : wr.cell? ⟨g5, 0, none⟩ = some (.int .i8 c.k) := cell_of_row HT.out.cell rfl
        have gB := HT.out.res
        have SV := Lib.hid (set_five (.int .i8 c.k) (.int .i64 0) (.string ⟨#[]⟩) (.string ⟨#[]⟩) (.slice A2 c.L.length cap2) gB)
        have y0 : wr.cell? ⟨(w.heap.size + 1), 0, none⟩ = some (.int .i8 0) := cell_of_row gB rfl
        have y1 : wr.cell? ⟨(w.heap.size + 1), 1, none⟩ = some (.int .i64 0) := cell_of_row gB rfl
        have y2 : wr.cell? ⟨(w.heap.size + 1), 2, none⟩ = some (.string ⟨#[]⟩) := cell_of_row gB rfl
        have y3 : wr.cell? ⟨(w.heap.size + 1), 3, none⟩ = some (.string ⟨#[]⟩) := cell_of_row gB rfl
        have y4 : wr.cell? ⟨(w.heap.size + 1), 4, none⟩ = some (.slice none 0 0) := cell_of_row gB rfl
        have fz0 : wr.frozen? ⟨(w.heap.size + 1), 0, none⟩ = false := free_of_row gB
        have fz1 : wr.frozen? ⟨(w.heap.size + 1), 1, none⟩ = false := free_of_row gB
        have fz2 : wr.frozen? ⟨(w.heap.size + 1), 2, none⟩ = false := free_of_row gB
        have fz3 : wr.frozen? ⟨(w.heap.size + 1), 3, none⟩ = false := free_of_row gB
        have fz4 : wr.frozen? ⟨(w.heap.size + 1), 4, none⟩ = false := free_of_row gB
        clear gB
        go_wp2_with fail
        obtain ⟨s5, m5⟩ := SV.out
        generalize ((((wr.setCell ⟨w.heap.size + 1, 0, none⟩ (.int .i8 c.k)).setCell ⟨w.heap.size + 1, 1, none⟩ (.int .i64 0)).setCell ⟨w.heap.size + 1, 2, none⟩ (.string ⟨#[]⟩)).setCell ⟨w.heap.size + 1, 3, none⟩ (.string ⟨#[]⟩)).setCell ⟨w.heap.size + 1, 4, none⟩ (.slice A2 c.L.length cap2) = VX at s5 m5 ⊢
        have v0 := cell_of_row (i := 0) s5 rfl
        have v1 := cell_of_row (i := 1) s5 rfl
        have v2 := cell_of_row (i := 2) s5 rfl
        have v3 := cell_of_row (i := 3) s5 rfl
        have v4 := cell_of_row (i := 4) s5 rfl
        refine bodyPost_ret (v := .agg #[(.int .i8 c.k), (.int .i64 0), (.string ⟨#[]⟩), (.string ⟨#[]⟩), (.slice A2 c.L.length cap2)]) (by simp [results, Tryz.f61, go_sem, v0, v1, v2, v3, v4]) rfl ?_
        have hO := HT.out.own.keep (Q := fun b => g5 < b ∧ b < VX.heap.size) m5 (fun g hg (e : g = w.heap.size + 1) => by have := (HT.out.own.own g hg).1; have := HGW.out; omega) (fun b hb => ⟨hb.2.1, fun (e : b = w.heap.size + 1) => by have := hb.1; have := HGW.out; omega⟩) (fun b hb => ⟨hb.1, by have := hb.2.1; have := m5.size; omega⟩)
        rw [List.take_of_length_le (Nat.le_refl _)] at hO
        have hRr := (hO.trow (Q := fun b => w.heap.size ≤ b ∧ b < VX.heap.size) (fun b hb => ⟨by have := hb.1; have := HGW.out; omega, hb.2⟩) (fun b h1 h2 _ => ⟨by have := HGW.out; omega, h2⟩)).2
        have hlen : c.L.length = (c.L.map (wt s.cs f)).length := by simp
        refine ⟨_, rfl, ?_, HT.out.mod.trans (m5.below HT.out.mod.size (fun k (e : k = w.heap.size + 1) => by omega))⟩
        rw [HWT.out, hlen]
        rw [hlen] at hRr
        exact TmAt.of_row hRr (by rcases HKK.out with h | ⟨h, _⟩ <;> rw [h] <;> decide) (by decide) (by show 0 ≤ maxLen; omega) (by show 0 ≤ maxLen; omega)
end Go.Proofs.YtaemfjmmklpjeaaGreatDoor
set_option linter.unusedVariables false
namespace Go.Proofs.YtaemfjmmklpjeaaGreatDoor
open Go.RowKit

def TakeP (s : HSt) (q : AW) (w : World) (e : Ending) (w' : World) : Prop :=
  (mayW s.cs.length q.c q.a q.x = false ∧ e = .returned (.tuple #[term0, .int .i64 2]) ∧ Below w.heap.size w w') ∨
  (mayW s.cs.length q.c q.a q.x = true ∧ ∃ v, e = .returned (.tuple #[v, .int .i64 0]) ∧ TmAt (fun b => w.heap.size ≤ b ∧ b < w'.heap.size) w' (wt s.cs s.cs.length q.hw) v ∧ Below w.heap.size w w')

set_option maxHeartbeats 8000000 in
set_option maxRecDepth 100000 in
theorem Take_any {base hb : Nat} {s : HSt} (hg : HGood s.cs) (c : Bool) (a k n : Int) (sx tx : ByteArray) (l : List Tm) (A : Option Addr) (cap : Nat) (w : World) (h : s.At base w hb) (hx : TmAt (· < w.heap.size) w (.mk k n sx tx l) (.agg #[(.int .i8 k), (.int .i64 n), (.string sx), (.string tx), (.slice A l.length cap)])) (hS : Spans w) :
    Calls Tryz.prog 38 #[.pointer (some ⟨hb, 0, none⟩), .agg #[(.bool c), (.int .i64 a), (.int .i8 k), (.int .i64 n), (.string sx), (.string tx), (.slice A l.length cap)]] w (TakeP s ⟨c, a, .mk k n sx tx l⟩ w) := by
  have hmf : ∀ (fn : Fn) (first cap : Array Value) (w : World), (Instr.makeFunc fn first cap).run Tryz.prog w = .ok (.func fn first cap) w := fun _ _ _ _ => rfl
  obtain ⟨wa, hwa⟩ : ∃ wa, wa = w.alloc (.cells #[.pointer (some ⟨hb, 0, none⟩)] 33) := ⟨_, rfl⟩
  obtain ⟨wb, hwb⟩ : ∃ wb, wb = wa.alloc (.cells #[(.bool c), (.int .i64 a), (.int .i8 k), (.int .i64 n), (.string sx), (.string tx), (.slice A l.length cap)] 51) := ⟨_, rfl⟩
  obtain ⟨w1, hw1⟩ : ∃ w1, w1 = wb.alloc (.cells #[(.int .i8 0), (.int .i64 0), (.string ⟨#[]⟩), (.string ⟨#[]⟩), (.slice none 0 0)] 27) := ⟨_, rfl⟩
  have za : wa.heap.size = w.heap.size + 1 := by rw [hwa]; exact World.size_alloc _ _
  have zb : wb.heap.size = w.heap.size + 1 + 1 := by rw [hwb, World.size_alloc, za]
  have B1 : Below w.heap.size w w1 := by rw [hw1, hwb, hwa]; exact (((Below.refl _ w).alloc (Nat.le_refl _) _).alloc (by simp) _).alloc (by simp; omega) _
  have gH : w1.heap[w.heap.size]? = some (.cells #[.pointer (some ⟨hb, 0, none⟩)] 33 (0, 0)) := by
    rw [hw1, Below.heap_alloc _ _ _ (by omega), hwb, Below.heap_alloc _ _ _ (by omega), hwa]; exact block_alloc _ _
  have gW : w1.heap[w.heap.size + 1]? = some (.cells #[(.bool c), (.int .i64 a), (.int .i8 k), (.int .i64 n), (.string sx), (.string tx), (.slice A l.length cap)] 51 (0, 0)) := by
    rw [hw1, Below.heap_alloc _ _ _ (by omega), hwb, ← za]; exact block_alloc _ _
  have gT : w1.heap[w.heap.size + 1 + 1]? = some (.cells #[(.int .i8 0), (.int .i64 0), (.string ⟨#[]⟩), (.string ⟨#[]⟩), (.slice none 0 0)] 27 (0, 0)) := by
    rw [hw1, ← zb]; exact block_alloc _ _
  have HM := Lib.hid (HMay_any c a k n sx tx l A cap w1 (HeapAt.under h B1) (hx.later B1) (hS.below B1 hS.lt))
  have HH := Lib.hid h
  have HB1 := Lib.hid B1
  have HGH := Lib.hid gH
  have HGW := Lib.hid gW
  have HGT := Lib.hid gT
  clear h hx hS B1 gH gW gT za zb
  subst hwb
  subst hwa
  go_enter Tryz.func38, Tryz.ntmps38
  go_wp2_with fail
  rw [← hw1]
  clear hw1
  refine HM.out.mono ?_
  rintro e V1 ⟨rfl, b1⟩
  have HB2 := Lib.hid (HB1.out.trans (b1.mono HB1.out.size))
  have gH := (b1.block _ (heap_lt HGH.out)).trans HGH.out
  have gW := (b1.block _ (heap_lt HGW.out)).trans HGW.out
  have gT := (b1.block _ (heap_lt HGT.out)).trans HGT.out
  have HH2 := Lib.hid (HH.out.under HB2.out)
  clear b1 HGH HGW HGT
  cases hm : mayW s.cs.length c a (.mk k n sx tx l)
  · have HQ := Lib.hid hm
    clear hm
    have y0 : V1.cell? ⟨(w.heap.size + 1 + 1), 0, none⟩ = some (.int .i8 0) := cell_of_row gT rfl
    have y1 : V1.cell? ⟨(w.heap.size + 1 + 1), 1, none⟩ = some (.int .i64 0) := cell_of_row gT rfl
    have y2 : V1.cell? ⟨(w.heap.size + 1 + 1), 2, none⟩ = some (.string ⟨#[]⟩) := cell_of_row gT rfl
    have y3 : V1.cell? ⟨(w.heap.size + 1 + 1), 3, none⟩ = some (.string ⟨#[]⟩) := cell_of_row gT rfl
    have y4 : V1.cell? ⟨(w.heap.size + 1 + 1), 4, none⟩ = some (.slice none 0 0) := cell_of_row gT rfl
    have fz0 : V1.frozen? ⟨(w.heap.size + 1 + 1), 0, none⟩ = false := free_of_row gT
    have fz1 : V1.frozen? ⟨(w.heap.size + 1 + 1), 1, none⟩ = false := free_of_row gT
    have fz2 : V1.frozen? ⟨(w.heap.size + 1 + 1), 2, none⟩ = false := free_of_row gT
    have fz3 : V1.frozen? ⟨(w.heap.size + 1 + 1), 3, none⟩ = false := free_of_row gT
    have fz4 : V1.frozen? ⟨(w.heap.size + 1 + 1), 4, none⟩ = false := free_of_row gT
    have SV := Lib.hid (set_five (.int .i8 0) (.int .i64 0) (.string ⟨#[]⟩) (.string ⟨#[]⟩) (.slice none 0 0) gT)
    clear gH gW gT
    go_wp2_with fail
    obtain ⟨s5, m5⟩ := SV.out
    generalize ((((V1.setCell ⟨w.heap.size + 1 + 1, 0, none⟩ (.int .i8 0)).setCell ⟨w.heap.size + 1 + 1, 1, none⟩ (.int .i64 0)).setCell ⟨w.heap.size + 1 + 1, 2, none⟩ (.string ⟨#[]⟩)).setCell ⟨w.heap.size + 1 + 1, 3, none⟩ (.string ⟨#[]⟩)).setCell ⟨w.heap.size + 1 + 1, 4, none⟩ (.slice none 0 0) = VX at s5 m5 ⊢
    have v0 := cell_of_row (i := 0) s5 rfl
    have v1 := cell_of_row (i := 1) s5 rfl
    have v2 := cell_of_row (i := 2) s5 rfl
    have v3 := cell_of_row (i := 3) s5 rfl
    have v4 := cell_of_row (i := 4) s5 rfl
    refine bodyPost_ret (v := .tuple #[term0, .int .i64 2]) (by simp [results, Tryz.f38, go_sem, term0, v0, v1, v2, v3, v4]) rfl (.inl ⟨HQ.out, rfl, ?_⟩)
    exact HB2.out.trans (m5.below HB2.out.size (fun k (e : k = w.heap.size + 1 + 1) => by omega))
  · have HQ := Lib.hid hm
    clear hm
    have HGH := Lib.hid gH
    have HGW := Lib.hid gW
    have HGT := Lib.hid gT
    obtain ⟨hcells, hs32, ht32, hgood⟩ := own_hw (q := ⟨c, a, .mk k n sx tx l⟩) HQ.out rfl
    have OW := Lib.hid (fun V => own_any c a k n sx tx A l.length cap (Nat.le_trans hs32 (by decide)) (Nat.le_trans ht32 (by decide)) V)
    have HCE := Lib.hid hcells
    have HGO := Lib.hid hgood
    clear gH gW gT hcells hs32 ht32 hgood
    go_wp2_with fail
    clear hmf
    obtain ⟨W2, hW2⟩ : ∃ W2, W2 = V1.alloc (.cells #[(.func (.func 61) #[] #[.pointer (some ⟨w.heap.size, 0, none⟩), .pointer (some ⟨V1.heap.size, 0, none⟩)])] 111) := ⟨_, rfl⟩
    have bW2 : Below V1.heap.size V1 W2 := by rw [hW2]; exact (Below.refl _ _).alloc (Nat.le_refl _) _
    have gF : W2.heap[V1.heap.size]? = some (.cells #[(.func (.func 61) #[] #[.pointer (some ⟨w.heap.size, 0, none⟩), .pointer (some ⟨V1.heap.size, 0, none⟩)])] 111 (0, 0)) := by rw [hW2]; exact block_alloc _ _
    rw [← hW2]
    have BW : Below w.heap.size w W2 := HB2.out.trans (bW2.mono HB2.out.size)
    have hS0 : TkE base hb s w.heap.size V1.heap.size W2.drew ∧ W2.drew.heap[w.heap.size + 1]? = some (.cells #[(.bool c), (.int .i64 a), (.int .i8 k), (.int .i64 n), (.string sx), (.string tx), (.slice A l.length cap)] 51 (0, 0)) := ⟨⟨(HH.out.under BW).under ⟨rfl, rfl, rfl, Nat.le_refl _, fun _ _ => rfl⟩, (bW2.block _ (heap_lt HGH.out)).trans HGH.out, gF⟩, (bW2.block _ (heap_lt HGW.out)).trans HGW.out⟩
    have hT0 : W2.drew.heap[w.heap.size + 1 + 1]? = some (.cells #[(.int .i8 0), (.int .i64 0), (.string ⟨#[]⟩), (.string ⟨#[]⟩), (.slice none 0 0)] 27 (0, 0)) := (bW2.block _ (heap_lt HGT.out)).trans HGT.out
    have hB0 : Below w.heap.size w W2.drew := BW.trans ⟨rfl, rfl, rfl, Nat.le_refl _, fun _ _ => rfl⟩
    have HC : Hid (∀ V, TkE base hb s w.heap.size V1.heap.size V → Calls Tryz.prog 61 #[.agg #[(.bool c), (.int .i64 a), (.int .i8 k), (.int .i64 n), (.string sx), (.string tx), (.slice none 0 0)], .pointer (some ⟨w.heap.size, 0, none⟩), .pointer (some ⟨V1.heap.size, 0, none⟩)] V (NewT (wt s.cs s.cs.length (AW.hw ⟨c, a, .mk k n sx tx l⟩)) V)) := by
      intro V hV
      have h := take1_any hg s.cs.length _ HGO.out (Nat.le_refl _) V hV
      rw [HCE.out] at h
      exact h
    clear bW2 gF BW hW2
    refine wp_region_held (S := fun V => TkE base hb s w.heap.size V1.heap.size V ∧ V.heap[w.heap.size + 1]? = some (.cells #[(.bool c), (.int .i64 a), (.int .i8 k), (.int .i64 n), (.string sx), (.string tx), (.slice A l.length cap)] 51 (0, 0))) (by kernel_rfl) ?_
    show wpAnyH _ _ _ _ _ _ _ _ W2.drew
    generalize W2.drew = D at hS0 hT0 hB0 ⊢
    refine wpAnyH_take (i := 0) (oi := ⟨some 16, _, _, _, _, _⟩) (v := ?_) rfl (by kernel_rfl) (by kernel_rfl) (by kernel_rfl) (fun _ _ _ h => h) (Or.inl ⟨by kernel_rfl, ?_⟩) (by assumption) ?_; rotate_left; (intro w hSw; (try dsimp only at hSw); have q0 := cell_of_row (i := 0) hSw.1.fbox rfl; have z0 := cell_of_row (i := 0) hSw.2 rfl; have z1 := cell_of_row (i := 1) hSw.2 rfl; have z2 := cell_of_row (i := 2) hSw.2 rfl; have z3 := cell_of_row (i := 3) hSw.2 rfl; have z4 := cell_of_row (i := 4) hSw.2 rfl; have z5 := cell_of_row (i := 5) hSw.2 rfl; have z6 := cell_of_row (i := 6) hSw.2 rfl; go_simp; first | done | with_reducible rfl); (try simp only [Act.put, List.setIfInBounds_toArray, List.set_cons_zero, List.set_cons_succ])
    refine wpAnyH_take (i := 1) (oi := ⟨some 17, _, _, _, _, _⟩) (v := ?_) rfl (by kernel_rfl) (by kernel_rfl) (by kernel_rfl) (fun _ _ _ h => h) (Or.inl ⟨by kernel_rfl, ?_⟩) (by assumption) ?_; rotate_left; (intro w hSw; (try dsimp only at hSw); have q0 := cell_of_row (i := 0) hSw.1.fbox rfl; have z0 := cell_of_row (i := 0) hSw.2 rfl; have z1 := cell_of_row (i := 1) hSw.2 rfl; have z2 := cell_of_row (i := 2) hSw.2 rfl; have z3 := cell_of_row (i := 3) hSw.2 rfl; have z4 := cell_of_row (i := 4) hSw.2 rfl; have z5 := cell_of_row (i := 5) hSw.2 rfl; have z6 := cell_of_row (i := 6) hSw.2 rfl; go_simp; first | done | with_reducible rfl); (try simp only [Act.put, List.setIfInBounds_toArray, List.set_cons_zero, List.set_cons_succ])
    refine wpAnyH_ready (rs := [2]) (by kernel_rfl) (by simp) ?_
    refine AllReadyH.cons (o := ⟨some 18, _, _, _, _, _⟩) rfl (fun K hK => ?_) AllReadyH.nil
    rw [if_pos (by rfl)]
    go_simp
    refine (OW.out _).mono ?_
    rintro e V3 ⟨rfl, b3⟩
    have hS1 := And.intro (hS0.1.under b3) ((b3.block _ (heap_lt hS0.2)).trans hS0.2)
    have hT1 := (b3.block _ (heap_lt hT0)).trans hT0
    have hB1 := hB0.trans (b3.mono hB0.size)
    clear b3
    refine hK.out _ _ hS1 (fun hSn => ?_)
    clear hK K; (try simp only [Act.put, List.setIfInBounds_toArray, List.set_cons_zero, List.set_cons_succ])
    refine wpAnyH_ready (rs := [3]) (by kernel_rfl) (by simp) ?_
    refine AllReadyH.cons (o := ⟨some 19, _, _, _, _, _⟩) rfl (fun K hK => ?_) AllReadyH.nil
    rw [if_pos (by rfl)]
    go_simp
    refine (HC.out _ hS1.1).mono ?_
    rintro e V4 ⟨tv, rfl, hTm, b4⟩
    generalize hq : wt s.cs s.cs.length (AW.hw ⟨c, a, .mk k n sx tx l⟩) = Q at hTm
    obtain ⟨k', n', s', t', L', A', cap', hy', rfl⟩ : ∃ k' n' s' t' L' A' cap', Q = Tm.mk k' n' s' t' L' ∧ tv = .agg #[.int .i8 k', .int .i64 n', .string s', .string t', .slice A' L'.length cap'] := by
      cases hTm; exact ⟨_, _, _, _, _, _, _, rfl, rfl⟩
    have hS2 := And.intro (hS1.1.under b4) ((b4.block _ (heap_lt hS1.2)).trans hS1.2)
    have hT2 := (b4.block _ (heap_lt hT1)).trans hT1
    have hB2 := hB1.trans (b4.mono hB1.size)
    have HTM := Lib.hid hTm
    have HQE := Lib.hid hq
    have HSZ : Hid (w.heap.size + 1 + 1 < V3.heap.size) := heap_lt hT1
    clear b4 hy' hTm hq
    refine hK.out _ _ hS2 (fun hSn => ?_)
    clear hK K; (try simp only [Act.put, List.setIfInBounds_toArray, List.set_cons_zero, List.set_cons_succ])
    have y0 : V4.cell? ⟨(w.heap.size + 1 + 1), 0, none⟩ = some (.int .i8 0) := cell_of_row hT2 rfl
    have y1 : V4.cell? ⟨(w.heap.size + 1 + 1), 1, none⟩ = some (.int .i64 0) := cell_of_row hT2 rfl
    have y2 : V4.cell? ⟨(w.heap.size + 1 + 1), 2, none⟩ = some (.string ⟨#[]⟩) := cell_of_row hT2 rfl
    have y3 : V4.cell? ⟨(w.heap.size + 1 + 1), 3, none⟩ = some (.string ⟨#[]⟩) := cell_of_row hT2 rfl
    have y4 : V4.cell? ⟨(w.heap.size + 1 + 1), 4, none⟩ = some (.slice none 0 0) := cell_of_row hT2 rfl
    have fz0 : V4.frozen? ⟨(w.heap.size + 1 + 1), 0, none⟩ = false := free_of_row hT2
    have fz1 : V4.frozen? ⟨(w.heap.size + 1 + 1), 1, none⟩ = false := free_of_row hT2
    have fz2 : V4.frozen? ⟨(w.heap.size + 1 + 1), 2, none⟩ = false := free_of_row hT2
    have fz3 : V4.frozen? ⟨(w.heap.size + 1 + 1), 3, none⟩ = false := free_of_row hT2
    have fz4 : V4.frozen? ⟨(w.heap.size + 1 + 1), 4, none⟩ = false := free_of_row hT2
    have SV := Lib.hid (set_five (.int .i8 k') (.int .i64 n') (.string s') (.string t') (.slice A' L'.length cap') hT2)
    refine wpAnyH_ready (rs := [4]) (by kernel_rfl) (by simp) ?_
    refine AllReadyH.cons (o := ⟨none, _, _, _, _, _⟩) rfl (fun K hK => ?_) AllReadyH.nil
    rw [if_pos (by rfl)]
    go_simp
    obtain ⟨s5, m5⟩ := SV.out
    generalize ((((V4.setCell ⟨w.heap.size + 1 + 1, 0, none⟩ (.int .i8 k')).setCell ⟨w.heap.size + 1 + 1, 1, none⟩ (.int .i64 n')).setCell ⟨w.heap.size + 1 + 1, 2, none⟩ (.string s')).setCell ⟨w.heap.size + 1 + 1, 3, none⟩ (.string t')).setCell ⟨w.heap.size + 1 + 1, 4, none⟩ (.slice A' L'.length cap') = VX at s5 m5 ⊢
    have bX : Below (w.heap.size + 1 + 1) V4 VX := m5.below (Nat.le_of_lt (heap_lt hT2)) (fun k (e : k = w.heap.size + 1 + 1) => by omega)
    have hBX : Below w.heap.size w VX := hB2.trans (m5.below hB2.size (fun k (e : k = w.heap.size + 1 + 1) => by omega))
    have hFl := heap_lt hS0.1.fbox
    have hne : V1.heap.size ≠ w.heap.size + 1 + 1 := fun e => by
      have h1 := hS2.1.fbox
      rw [e, hT2] at h1
      simp at h1
    have hS3 : TkE base hb s w.heap.size V1.heap.size VX ∧ VX.heap[w.heap.size + 1]? = some (.cells #[(.bool c), (.int .i64 a), (.int .i8 k), (.int .i64 n), (.string sx), (.string tx), (.slice A l.length cap)] 51 (0, 0)) := ⟨⟨HH.out.under hBX, (bX.block _ (by omega)).trans hS2.1.hbox, (m5.block _ (heap_lt hS2.1.fbox) hne).trans hS2.1.fbox⟩, (bX.block _ (by omega)).trans hS2.2⟩
    refine hK.out _ _ hS3 (fun hSn => ?_)
    clear hK K; (try simp only [Act.put, List.setIfInBounds_toArray, List.set_cons_zero, List.set_cons_succ])
    refine wpAnyH_take (i := 5) (oi := ⟨some 5, _, _, _, _, _⟩) (v := ?_) rfl (by kernel_rfl) (by kernel_rfl) (by kernel_rfl) (fun _ _ _ h => h) (Or.inl ⟨by kernel_rfl, ?_⟩) (by assumption) ?_; rotate_left; (intro w hSw; (try dsimp only at hSw); go_simp; first | done | with_reducible rfl); (try simp only [Act.put, List.setIfInBounds_toArray, List.set_cons_zero, List.set_cons_succ])
    refine wpAnyH_done (by kernel_rfl) ?_ _
    have HBX := Lib.hid hBX
    have HM5 := Lib.hid m5
    have v0 := cell_of_row (i := 0) s5 rfl
    have v1 := cell_of_row (i := 1) s5 rfl
    have v2 := cell_of_row (i := 2) s5 rfl
    have v3 := cell_of_row (i := 3) s5 rfl
    have v4 := cell_of_row (i := 4) s5 rfl
    clear hS0 hS1 hS2 hS3 hT0 hT1 hT2 hB0 hB1 hB2 bX hBX hFl hne s5 m5 y0 y1 y2 y3 y4 fz0 fz1 fz2 fz3 fz4 SV
    go_wp2_with fail
    refine bodyPost_ret (v := .tuple #[.agg #[(.int .i8 k'), (.int .i64 n'), (.string s'), (.string t'), (.slice A' L'.length cap')], .int .i64 0]) (by simp [results, Tryz.f38, go_sem, v0, v1, v2, v3, v4]) rfl (.inr ⟨HQ.out, _, rfl, ?_, HBX.out⟩)
    show TmAt _ _ (wt s.cs s.cs.length (AW.hw ⟨c, a, .mk k n sx tx l⟩)) _
    rw [HQE.out]
    exact HTM.out.keep (fun b hb => HM5.out.block b hb.2 (fun (e : b = w.heap.size + 1 + 1) => by have := HSZ.out; have := hb.1; omega)) (fun b hb => ⟨by have := HSZ.out; have := hb.1; omega, by have := HM5.out.size; have := hb.2; omega⟩)
end Go.Proofs.YtaemfjmmklpjeaaGreatDoor
