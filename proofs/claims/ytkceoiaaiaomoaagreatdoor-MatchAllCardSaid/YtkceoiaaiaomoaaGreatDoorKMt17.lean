/- Layer 10: what a filler's parts come to (plain). -/
import Derived.Test.YtkceoiaaiaomoaaGreatDoorKGd7
import Derived.WalkMore
section
set_option linter.unusedVariables false
set_option linter.unusedSimpArgs false
namespace Go.Proofs.YtkceoiaaiaomoaaGreatDoor
open Go.RowKit

def FilG (l : List Bd) (x : Tm) : Prop := ∀ (n0 : Nat) (W0 : World) (X mb : Nat), ∃ (F : Nat) (B : Array Value) (j : Nat), x.k = (j : Int) ∧ j < 11 ∧ (fRow mb X)[1 + j]? = some (.func (.func F) B #[]) ∧ (∀ args w, (callFunc F args).run Tryz.prog w = .ok (.enter F args) w) ∧
  ∀ (W : World) (v : Value), FAt n0 W0 X mb l W → TmAt (· < W.heap.size) W x v → Calls Tryz.prog F (B.push v) W (FilP l x n0 W)
def parE (l : List Bd) (ps : List Tm) : Int := if ps.any (fun y => filE l y == 2) = true then 2 else if ps.any (fun y => filE l y == 11) = true then 11 else 0
theorem fil_val (l : List Bd) (x : Tm) : filE l x = 0 ∨ filE l x = 11 ∨ filE l x = 2 := by
  unfold filE
  split
  · exact .inl rfl
  · split
    · exact .inr (.inl rfl)
    · exact .inr (.inr rfl)
theorem fil_no {l : List Bd} {x : Tm} (h : gvT l x = none) : filE l x ≠ 0 := by
  unfold filE
  rw [h]
  dsimp only
  split <;> decide
theorem par_app (l : List Bd) (a : List Tm) (y : Tm) (h : parE l a ≠ 2) : parE l (a ++ [y]) = if filE l y = 2 then 2 else if filE l y = 11 then 11 else parE l a := by
  have ha : a.any (fun y => filE l y == 2) = false := by
    cases hq : a.any (fun y => filE l y == 2) with
    | false => rfl
    | true => exact absurd (by unfold parE; rw [hq]; rfl) h
  unfold parE
  rw [List.any_append, List.any_append, ha]
  rcases fil_val l y with e | e | e
  · simp [e]
  · simp [e]
  · simp [e]
theorem par_two {l : List Bd} {ps : List Tm} {y : Tm} (hy : y ∈ ps) (h : filE l y = 2) : parE l ps = 2 := by
  unfold parE
  rw [if_pos]
  rw [List.any_eq_true]
  exact ⟨y, hy, by rw [h]; rfl⟩
theorem gvTsO_app (f : Tm → Option Tm) : ∀ (a : List Tm) (y : Tm), gvTsO f (a ++ [y]) = match gvTsO f a, f y with | some vs, some v => some (vs ++ [v]) | _, _ => none
  | [], y => by
    show gvTsO f [y] = _
    rw [gvTsO, gvTsO]
    cases f y <;> rfl
  | x :: a, y => by
    show gvTsO f (x :: (a ++ [y])) = _
    rw [gvTsO, gvTsO, gvTsO_app f a y]
    cases f x with
    | none => rfl
    | some v =>
      cases gvTsO f a with
      | none => rfl
      | some vs => cases f y <;> rfl
theorem gvTsO_none {f : Tm → Option Tm} : ∀ {ps : List Tm} {y : Tm}, y ∈ ps → f y = none → gvTsO f ps = none
  | x :: ps, y, hy, h => by
    rw [gvTsO]
    rcases List.mem_cons.1 hy with rfl | hy
    · rw [h]
    · rw [gvTsO_none hy h]
      cases f x <;> rfl
def PartsP (l : List Bd) (ps : List Tm) (n0 : Nat) (w : World) (e : Ending) (w' : World) : Prop :=
  ∃ (A : Option Addr) (m c : Nat), e = .returned (.tuple #[.slice A m c, .int .i64 (parE l ps)]) ∧ (∀ vs, gvTsO (gvT l) ps = some vs → TRow (fun b => b < n0 ∨ (w.heap.size ≤ b ∧ b < w'.heap.size)) w' A m c vs) ∧ Below w.heap.size w w'
set_option maxHeartbeats 8000000 in
set_option maxRecDepth 100000 in
theorem parts_any (l : List Bd) (nk nn : Int) (ns nt : ByteArray) (ps : List Tm) (hG : ∀ y ∈ ps, FilG l y) (hpl : ps.length ≤ 100000) (n0 : Nat) (W0 : World) (X mb : Nat) (A : Option Addr) (cap : Nat) (W : World) (hF : FAt n0 W0 X mb l W) (hR : TRow (· < W.heap.size) W A ps.length cap ps) :
    Calls Tryz.prog 204 #[.pointer (some ⟨X, 0, none⟩), .agg #[.int .i8 nk, .int .i64 nn, .string ns, .string nt, .slice A ps.length cap]] W (PartsP l ps n0 W) := by
  obtain ⟨W2, hW2⟩ : ∃ w1, w1 = W.alloc (.cells #[.int .i8 nk, .int .i64 nn, .string ns, .string nt, .slice A ps.length cap] 25) := ⟨_, rfl⟩
  have g0 := block_alloc W (.cells #[.int .i8 nk, .int .i64 nn, .string ns, .string nt, .slice A ps.length cap] 25)
  have b2 : Below W.heap.size W W2 := by rw [hW2]; exact (Below.refl _ W).alloc (Nat.le_refl _) _
  have z2 : W2.heap.size = W.heap.size + 1 := by rw [hW2, World.size_alloc]
  rw [← hW2] at g0
  have HZ2 := Lib.hid z2
  have HB2 := Lib.hid b2
  have HG0 := Lib.hid g0
  have HU := Lib.hid (hF.under b2)
  have HN0 : Hid (n0 ≤ W.heap.size) := Nat.le_trans hF.size hF.below.size
  have HR := Lib.hid hR
  have HGY := Lib.hid hG
  have hml := hR.max
  unfold maxLen at hml
  obtain ⟨x0, x1, x2, x3, x4⟩ := five_of g0
  clear hF hR hG g0 b2 z2
  go_enter Tryz.func204, Tryz.ntmps204
  go_wp2_with fail
  rw [← hW2]
  clear hW2
  go_step3
  go_wp2_with fail
  go_step3
  go_wp2_with fail
  clear x0 x1 x2 x3 x4
  go_loopw [4, 5, 13] (fun lv ev iv wr => ∃ (i : Nat) (RA : Option Addr) (rc : Nat) (vs : List Tm) (pe : Int), i ≤ ps.length ∧ iv = .int .i64 (i : Int) ∧ lv = .slice RA vs.length rc ∧ ev = .int .i64 pe ∧ Hid (pe = parE l (ps.take i)) ∧ Hid (pe ≠ 2) ∧ Hid (vs.length ≤ i) ∧ Hid (∀ us, gvTsO (gvT l) (ps.take i) = some us → vs = us) ∧ Hid (OwnT W2.heap.size (PB n0 W2.heap.size wr (.slice RA vs.length rc)) wr (.slice RA vs.length rc) vs) ∧ Hid (Below W2.heap.size W2 wr)) (fun _ _ iv _ => ps.length - (intOf iv).toNat)
  case atStart => exact ⟨0, none, 0, [], 0, Nat.zero_le _, rfl, rfl, rfl, Lib.hid rfl, Lib.hid (by decide), Lib.hid (Nat.le_refl _), Lib.hid (fun us h => by simpa [gvTsO] using h), Lib.hid (OwnT.nil _ _ _), Lib.hid (Below.refl _ _)⟩
  case round =>
    obtain ⟨i, RA, rc, vs, pe, hi, rfl, rfl, rfl, HPE, HP2, HVL, HVS, HO, HB⟩ := hrel
    by_cases hlt : i < ps.length
    case neg =>
      obtain rfl : i = ps.length := by omega
      have HPA : Hid (pe = parE l ps) := by show _ = _; rw [HPE.out, List.take_length]
      have HBW := Lib.hid (HB2.out.trans (HB.out.mono HB2.out.size))
      go_wp2_with fail
      refine bodyPost_ret (v := .tuple #[.slice RA vs.length rc, .int .i64 pe]) (by simp [results, Tryz.f204, go_sem]) rfl ?_
      refine ⟨_, _, _, by rw [HPA.out], fun us hus => ?_, HBW.out⟩
      have hv := HVS.out us (by rw [List.take_length]; exact hus)
      subst hv
      exact (HO.out.trow (Q := fun b => b < n0 ∨ (W.heap.size ≤ b ∧ b < wr.heap.size)) (fun b hb => by have := HZ2.out; rcases hb.1 with h | h; (exact .inl h); (exact .inr ⟨by omega, h.2⟩)) (fun b h1 h2 _ => .inr ⟨by have := HZ2.out; omega, h2⟩)).2
    obtain ⟨y, hy⟩ : ∃ y, ps[i]? = some y := ⟨ps[i], List.getElem?_eq_getElem hlt⟩
    obtain ⟨ad, u, hA, had, hE, hTy⟩ := HR.out.at_ i y hy
    subst hA
    have hEr : ElemAt wr ad i u := hE.keep ((HB.out.block ad.block (by have := HZ2.out; omega)).trans (HB2.out.block ad.block had))
    have HTK : Hid (ps.take (i + 1) = ps.take i ++ [y]) := by show _ = _; rw [List.take_add_one, hy]; rfl
    have HMEM := Lib.hid (List.mem_of_getElem? hy)
    obtain ⟨F, B, j, hkj, hj, hcell, hent, hcon⟩ := HGY.out y HMEM.out n0 W0 X mb
    obtain ⟨fy, hfy⟩ : ∃ fy, fy = gvT l y := ⟨_, rfl⟩
    obtain ⟨ec, hec⟩ : ∃ ec, ec = filE l y := ⟨_, rfl⟩
    unfold FilP at hcon
    rw [← hfy, ← hec] at hcon
    have hsome : ∀ v, fy = some v → ec = 0 := fun v h => by rw [hec]; exact fil_ok (hfy.symm.trans h)
    have hnone : fy = none → ec ≠ 0 := fun h => by rw [hec]; exact fil_no (hfy.symm.trans h)
    have hval : ec = 0 ∨ ec = 11 ∨ ec = 2 := by rw [hec]; exact fil_val l y
    obtain ⟨k', n', s', t', L', A', cap', rfl, rfl⟩ : ∃ k' n' s' t' L' A' cap', y = Tm.mk k' n' s' t' L' ∧ u = .agg #[.int .i8 k', .int .i64 n', .string s', .string t', .slice A' L'.length cap'] := by
      cases hTy; exact ⟨_, _, _, _, _, _, _, rfl, rfl⟩
    obtain rfl : k' = (j : Int) := hkj
    obtain ⟨q0, q1, q2, q3, q4, hc, e0, e1, e2, e3, e4⟩ := hEr
    simp only [Value.agg.injEq, Array.mk.injEq, List.cons.injEq, and_true] at hc
    obtain ⟨rfl, rfl, rfl, rfl, rfl⟩ := hc
    have i0 : (0 : Int) ≤ (i : Int) := by omega
    have i1 : (i : Int) < (ps.length : Int) := by omega
    obtain ⟨W3, hW3⟩ : ∃ W3, W3 = wr.alloc (.cells #[.int .i8 (j : Int), .int .i64 n', .string s', .string t', .slice A' L'.length cap'] 25) := ⟨_, rfl⟩
    obtain ⟨g7, hg7⟩ : ∃ g7, g7 = wr.heap.size := ⟨_, rfl⟩
    have b3 : Below wr.heap.size wr W3 := by rw [hW3]; exact (Below.refl _ _).alloc (Nat.le_refl _) _
    have r7 : W3.heap[g7]? = some (.cells #[.int .i8 (j : Int), .int .i64 n', .string s', .string t', .slice A' L'.length cap'] 25 (0, 0)) := by rw [hW3, hg7]; exact block_alloc _ _
    have hn2 : n0 ≤ wr.heap.size := by have := HB.out.size; have := HZ2.out; have := HN0.out; omega
    have HU3 := Lib.hid (HU.out.under (HB.out.trans (b3.mono HB.out.size)))
    have HR7 := Lib.hid r7
    have HB3 := Lib.hid (HB.out.trans (b3.mono HB.out.size))
    have HO3 := Lib.hid (own_later HO.out b3 hn2)
    have HTY := Lib.hid (hTy.keep (Q := (· < W3.heap.size)) (w' := W3) (fun q hq => (HB3.out.block q (by have := HZ2.out; omega)).trans (HB2.out.block q hq)) (fun q hq => by have := HB3.out.size; have := HZ2.out; omega))
    have HN3 : Hid (n0 ≤ W3.heap.size) := Nat.le_trans hn2 b3.size
    have HZ3 : Hid (wr.heap.size ≤ W3.heap.size) := b3.size
    have HCON := Lib.hid hcon
    have HEN := Lib.hid hent
    have HCELL := Lib.hid hcell
    have HSOME := Lib.hid hsome
    have HNONE := Lib.hid hnone
    have HVAL := Lib.hid hval
    have HFY := Lib.hid hfy
    have HEC := Lib.hid hec
    have hj0 : (0 : Int) ≤ (j : Int) := by omega
    have hj1 : (j : Int) < 11 := by omega
    clear hE hTy hy had hj hcell hent hcon hsome hnone hval hfy hec b3 r7 hn2
    go_upto_region 4 with fail
    rw [← hW3, ← hg7]
    clear hW3 hg7 e0 e1 e2 e3 e4
    go_cut [8, 9] (fun p q wx => ∃ g9, p = .pointer (some ⟨g9, 0, none⟩) ∧ q = .int .i64 ec ∧ Hid (PR fy n0 W3.heap.size W3 wx g9 ec))
    case first =>
      refine wp_region_held (S := fun V => Below W3.heap.size W3 V) (by kernel_rfl) ?_
      show wpAnyH _ _ _ _ _ _ _ _ W3.drew
      have hS : Below W3.heap.size W3 W3.drew := ⟨rfl, rfl, rfl, Nat.le_refl _, fun _ _ => rfl⟩
      generalize W3.drew = V0 at hS ⊢
      refine wpAnyH_take (i := 0) (oi := ⟨some 18, _, _, _, _, _⟩) (v := ?_) rfl (by kernel_rfl) (by kernel_rfl) (by kernel_rfl) (fun _ _ _ h => h) (Or.inl ⟨by kernel_rfl, ?_⟩) (by assumption) ?_; rotate_left; (intro VV hSw; (try dsimp only at hSw); go_simp; first | done | with_reducible rfl); (try simp only [Act.put, sI, sZ, sS])
      refine wpAnyH_take (i := 1) (oi := ⟨some 19, _, _, _, _, _⟩) (v := ?_) rfl (by kernel_rfl) (by kernel_rfl) (by kernel_rfl) (fun _ _ _ h => h) (Or.inl ⟨by kernel_rfl, ?_⟩) (by assumption) ?_; rotate_left; (intro VV hSw; (try dsimp only at hSw); go_simp; first | done | with_reducible rfl); (try simp only [Act.put, sI, sZ, sS])
      refine wpAnyH_take (i := 2) (oi := ⟨some 20, _, _, _, _, _⟩) (v := ?_) rfl (by kernel_rfl) (by kernel_rfl) (by kernel_rfl) (fun _ _ _ h => h) (Or.inl ⟨by kernel_rfl, ?_⟩) (by assumption) ?_; rotate_left; (intro VV hSw; (try dsimp only at hSw); have hr := (hSw.block _ (heap_lt HR7.out)).trans HR7.out; obtain ⟨y0, y1, y2, y3, y4⟩ := five_of hr; go_simp; first | done | with_reducible rfl); (try simp only [Act.put, sI, sZ, sS])
      refine wpAnyH_take (i := 3) (oi := ⟨some 21, _, _, _, _, _⟩) (v := ?_) rfl (by kernel_rfl) (by kernel_rfl) (by kernel_rfl) (fun _ _ _ h => h) (Or.inl ⟨by kernel_rfl, ?_⟩) (by assumption) ?_; rotate_left; (intro VV hSw; (try dsimp only at hSw); go_simp; first | done | with_reducible rfl); (try simp only [Act.put, sI, sZ, sS])
      refine wpAnyH_take (i := 4) (oi := ⟨some 22, _, _, _, _, _⟩) (v := ?_) rfl (by kernel_rfl) (by kernel_rfl) (by kernel_rfl) (fun _ _ _ h => h) (Or.inl ⟨by kernel_rfl, ?_⟩) (by assumption) ?_; rotate_left; (intro VV hSw; (try dsimp only at hSw); go_simp; first | done | with_reducible rfl); (try simp only [Act.put, sI, sZ, sS])
      refine wpAnyH_take (i := 5) (oi := ⟨some 23, _, _, _, _, _⟩) (v := ?_) rfl (by kernel_rfl) (by kernel_rfl) (by kernel_rfl) (fun _ _ _ h => h) (Or.inl ⟨by kernel_rfl, ?_⟩) (by assumption) ?_; rotate_left; (intro VV hSw; (try dsimp only at hSw); go_simp; first | done | with_reducible rfl); (try simp only [Act.put, sI, sZ, sS])
      refine wpAnyH_take (i := 6) (oi := ⟨some 24, _, _, _, _, _⟩) (v := ?_) rfl (by kernel_rfl) (by kernel_rfl) (by kernel_rfl) (fun _ _ _ h => h) (Or.inl ⟨by kernel_rfl, ?_⟩) (by assumption) ?_; rotate_left; (intro VV hSw; (try dsimp only at hSw); have hr := (hSw.block _ (heap_lt HU3.out.box)).trans HU3.out.box; have hp := cell_of_row (i := 1 + j) hr HCELL.out; go_simp; first | done | with_reducible rfl); (try simp only [Act.put, sI, sZ, sS])
      refine wpAnyH_take (i := 7) (oi := ⟨some 25, _, _, _, _, _⟩) (v := ?_) rfl (by kernel_rfl) (by kernel_rfl) (by kernel_rfl) (fun _ _ _ h => h) (Or.inl ⟨by kernel_rfl, ?_⟩) (by assumption) ?_; rotate_left; (intro VV hSw; (try dsimp only at hSw); have hr := (hSw.block _ (heap_lt HR7.out)).trans HR7.out; obtain ⟨y0, y1, y2, y3, y4⟩ := five_of hr; go_simp; first | done | with_reducible rfl); (try simp only [Act.put, sI, sZ, sS])
      refine wpAnyH_ready (rs := [8, 12]) (by kernel_rfl) (by simp) ?_
      refine AllReadyH.cons (o := ⟨some 26, _, _, _, _, _⟩) rfl (fun K hK => ?_) (AllReadyH.cons (o := ⟨some 8, _, _, _, _, _⟩) rfl (fun K hK => ?_) AllReadyH.nil)
      · rw [if_pos (by rfl)]
        have hen := HEN.out (B.push (.agg #[.int .i8 (j : Int), .int .i64 n', .string s', .string t', .slice A' L'.length cap'])) V0
        go_simp
        refine (HCON.out V0 _ (HU3.out.under hS) (HTY.out.later hS)).mono ?_
        rintro e V1 ⟨k9, n9, s9, t9, A9, m9, c9, rfl, hv0, hno0, b5⟩
        have hv : ∀ y, fy = some y → ec = 0 ∧ TmAt (fun b => b < n0 ∨ (V0.heap.size ≤ b ∧ b < V1.heap.size)) V1 y (.agg #[.int .i8 k9, .int .i64 n9, .string s9, .string t9, .slice A9 m9 c9]) := fun y hy => ⟨HSOME.out y hy, hv0 y hy⟩
        have hS1 := hS.trans (b5.mono hS.size)
        have zS := hS.size
        clear hv0 hno0
        refine hK.out _ _ hS1 (fun hSn => ?_)
        clear hK K hSn; (try simp only [Act.put, sI, sZ, sS])
        clear hS
        have hS := hS1
        clear hS1
        refine wpAnyH_take (i := 9) (oi := ⟨some 17, _, _, _, _, _⟩) (v := ?_) rfl (by kernel_rfl) (by kernel_rfl) (by kernel_rfl) (fun _ _ _ h => h) (Or.inl ⟨by kernel_rfl, ?_⟩) (by assumption) ?_; rotate_left; (intro VV hSw; (try dsimp only at hSw); go_simp; first | done | with_reducible rfl); (try simp only [Act.put, sI, sZ, sS])
        refine wpAnyH_take (i := 10) (oi := ⟨some 27, _, _, _, _, _⟩) (v := ?_) rfl (by kernel_rfl) (by kernel_rfl) (by kernel_rfl) (fun _ _ _ h => h) (Or.inl ⟨by kernel_rfl, ?_⟩) (by assumption) ?_; rotate_left; (intro VV hSw; (try dsimp only at hSw); go_simp; first | done | with_reducible rfl); (try simp only [Act.put, sI, sZ, sS])
        refine wpAnyH_take (i := 11) (oi := ⟨some 28, _, _, _, _, _⟩) (v := ?_) rfl (by kernel_rfl) (by kernel_rfl) (by kernel_rfl) (fun _ _ _ h => h) (Or.inl ⟨by kernel_rfl, ?_⟩) (by assumption) ?_; rotate_left; (intro VV hSw; (try dsimp only at hSw); go_simp; first | done | with_reducible rfl); (try simp only [Act.put, sI, sZ, sS])
        refine wpAnyH_ready (rs := [12]) (by kernel_rfl) (by simp) ?_
        refine AllReadyH.cons (o := ⟨some 8, _, _, _, _, _⟩) rfl (fun K hK => ?_) AllReadyH.nil
        · rw [if_pos (by rfl)]
          go_simp
          have hga := block_alloc V1 (.cells #[.int .i8 0, .int .i64 0, .string ⟨#[]⟩, .string ⟨#[]⟩, .slice none 0 0] 44)
          have hS1 := hS.alloc hS.size (.cells #[.int .i8 0, .int .i64 0, .string ⟨#[]⟩, .string ⟨#[]⟩, .slice none 0 0] 44)
          have hge : W3.heap.size ≤ V1.heap.size := hS.size
          have ba := Below.heap_alloc V1 (.cells #[.int .i8 0, .int .i64 0, .string ⟨#[]⟩, .string ⟨#[]⟩, .slice none 0 0] 44)
          have hv2 : ∀ y, fy = some y → ec = 0 ∧ TmAt (fun b => (b < n0 ∨ (W3.heap.size ≤ b ∧ b < (V1.alloc (.cells #[.int .i8 0, .int .i64 0, .string ⟨#[]⟩, .string ⟨#[]⟩, .slice none 0 0] 44)).heap.size)) ∧ b ≠ V1.heap.size) (V1.alloc (.cells #[.int .i8 0, .int .i64 0, .string ⟨#[]⟩, .string ⟨#[]⟩, .slice none 0 0] 44)) y (.agg #[.int .i8 k9, .int .i64 n9, .string s9, .string t9, .slice A9 m9 c9]) := fun y hy => ⟨(hv y hy).1, (hv y hy).2.keep (fun q hq => ba q (by have := HN3.out; have := hS.size; rcases hq with h | h <;> omega)) (fun q hq => by rw [World.size_alloc]; have := HN3.out; have := hS.size; have := HB3.out.size; rcases hq with h | h; (exact ⟨.inl h, by omega⟩); (exact ⟨.inr ⟨by omega, by omega⟩, by omega⟩))⟩
          obtain ⟨ga, hgae⟩ : ∃ ga, ga = V1.heap.size := ⟨_, rfl⟩
          rw [← hgae] at hga hge hv2
          refine hK.out _ _ hS1 (fun hSn => ?_)
          clear hK K hSn; (try simp only [Act.put, sI, sZ, sS])
          rw [← hgae]
          generalize V1.alloc (.cells #[.int .i8 0, .int .i64 0, .string ⟨#[]⟩, .string ⟨#[]⟩, .slice none 0 0] 44) = V2 at hga hS1 hv2 ⊢
          clear hgae hS hv ba
          have hS := hS1
          have hv := hv2
          clear hS1 hv2
          obtain ⟨⟨z0, z1, z2, z3, z4⟩, zf0, zf1, zf2, zf3, zf4⟩ := five_fr hga
          obtain ⟨s5, m5⟩ := set_five (.int .i8 k9) (.int .i64 n9) (.string s9) (.string t9) (.slice A9 m9 c9) hga
          have hpr := Lib.hid (pr_of HN3.out hS hga hge hv HNONE.out s5 m5)
          have hS9 := hpr.out.below
          refine wpAnyH_ready (rs := [13]) (by kernel_rfl) (by simp) ?_
          refine AllReadyH.cons (o := ⟨none, _, _, _, _, _⟩) rfl (fun K hK => ?_) AllReadyH.nil
          · rw [if_pos (by rfl)]
            go_simp
            refine hK.out _ _ hS9 (fun hSn => ?_)
            clear hK K hSn; (try simp only [Act.put, sI, sZ, sS])
            refine wpAnyH_take (i := 14) (oi := ⟨some 9, _, _, _, _, _⟩) (v := ?_) rfl (by kernel_rfl) (by kernel_rfl) (by kernel_rfl) (fun _ _ _ h => h) (Or.inl ⟨by kernel_rfl, ?_⟩) (by assumption) ?_; rotate_left; (intro VV hSw; (try dsimp only at hSw); go_simp; first | done | with_reducible rfl); (try simp only [Act.put, sI, sZ, sS])
            refine wpAnyH_done (by kernel_rfl) ?_ _
            clear z0 zf0 z1 zf1 z2 zf2 z3 zf3 z4 zf4
            go_wp2_with fail
            go_meet
            exact ⟨ga, rfl, rfl, hpr⟩
      · rw [if_pos (by rfl)]
        go_simp
        have hga := block_alloc V0 (.cells #[.int .i8 0, .int .i64 0, .string ⟨#[]⟩, .string ⟨#[]⟩, .slice none 0 0] 44)
        have hS1 := hS.alloc hS.size (.cells #[.int .i8 0, .int .i64 0, .string ⟨#[]⟩, .string ⟨#[]⟩, .slice none 0 0] 44)
        have hge : W3.heap.size ≤ V0.heap.size := hS.size
        obtain ⟨ga, hgae⟩ : ∃ ga, ga = V0.heap.size := ⟨_, rfl⟩
        rw [← hgae] at hga hge
        refine hK.out _ _ hS1 (fun hSn => ?_)
        clear hK K hSn; (try simp only [Act.put, sI, sZ, sS])
        rw [← hgae]
        generalize hV1 : V0.alloc (.cells #[.int .i8 0, .int .i64 0, .string ⟨#[]⟩, .string ⟨#[]⟩, .slice none 0 0] 44) = V1 at hga hS1 ⊢
        have hz1 : V1.heap.size = ga + 1 := by rw [← hV1, World.size_alloc, hgae]
        clear hgae hS hV1
        have hS := hS1
        clear hS1
        refine wpAnyH_ready (rs := [8]) (by kernel_rfl) (by simp) ?_
        refine AllReadyH.cons (o := ⟨some 26, _, _, _, _, _⟩) rfl (fun K hK => ?_) AllReadyH.nil
        · rw [if_pos (by rfl)]
          have hen := HEN.out (B.push (.agg #[.int .i8 (j : Int), .int .i64 n', .string s', .string t', .slice A' L'.length cap'])) V1
          go_simp
          refine (HCON.out V1 _ (HU3.out.under hS) (HTY.out.later hS)).mono ?_
          rintro e V2 ⟨k9, n9, s9, t9, A9, m9, c9, rfl, hv0, hno0, b5⟩
          have hv : ∀ y, fy = some y → ec = 0 ∧ TmAt (fun b => b < n0 ∨ (V1.heap.size ≤ b ∧ b < V2.heap.size)) V2 y (.agg #[.int .i8 k9, .int .i64 n9, .string s9, .string t9, .slice A9 m9 c9]) := fun y hy => ⟨HSOME.out y hy, hv0 y hy⟩
          have hS1 := hS.trans (b5.mono hS.size)
          have zS := hS.size
          clear hv0 hno0
          have hga2 := (b5.block _ (heap_lt hga)).trans hga
          have hv2 : ∀ y, fy = some y → ec = 0 ∧ TmAt (fun b => (b < n0 ∨ (W3.heap.size ≤ b ∧ b < V2.heap.size)) ∧ b ≠ ga) V2 y (.agg #[.int .i8 k9, .int .i64 n9, .string s9, .string t9, .slice A9 m9 c9]) := fun y hy => ⟨(hv y hy).1, (hv y hy).2.mono (fun q hq => by have := HN3.out; have := b5.size; have := HB3.out.size; rcases hq with h | h; (exact ⟨.inl h, by omega⟩); (exact ⟨.inr ⟨by omega, by omega⟩, by omega⟩))⟩
          refine hK.out _ _ hS1 (fun hSn => ?_)
          clear hK K hSn; (try simp only [Act.put, sI, sZ, sS])
          clear hS
          have hS := hS1
          clear hS1
          refine wpAnyH_take (i := 9) (oi := ⟨some 17, _, _, _, _, _⟩) (v := ?_) rfl (by kernel_rfl) (by kernel_rfl) (by kernel_rfl) (fun _ _ _ h => h) (Or.inl ⟨by kernel_rfl, ?_⟩) (by assumption) ?_; rotate_left; (intro VV hSw; (try dsimp only at hSw); go_simp; first | done | with_reducible rfl); (try simp only [Act.put, sI, sZ, sS])
          refine wpAnyH_take (i := 10) (oi := ⟨some 27, _, _, _, _, _⟩) (v := ?_) rfl (by kernel_rfl) (by kernel_rfl) (by kernel_rfl) (fun _ _ _ h => h) (Or.inl ⟨by kernel_rfl, ?_⟩) (by assumption) ?_; rotate_left; (intro VV hSw; (try dsimp only at hSw); go_simp; first | done | with_reducible rfl); (try simp only [Act.put, sI, sZ, sS])
          refine wpAnyH_take (i := 11) (oi := ⟨some 28, _, _, _, _, _⟩) (v := ?_) rfl (by kernel_rfl) (by kernel_rfl) (by kernel_rfl) (fun _ _ _ h => h) (Or.inl ⟨by kernel_rfl, ?_⟩) (by assumption) ?_; rotate_left; (intro VV hSw; (try dsimp only at hSw); go_simp; first | done | with_reducible rfl); (try simp only [Act.put, sI, sZ, sS])
          clear hga hv
          have hga := hga2
          have hv := hv2
          clear hga2 hv2
          obtain ⟨⟨z0, z1, z2, z3, z4⟩, zf0, zf1, zf2, zf3, zf4⟩ := five_fr hga
          obtain ⟨s5, m5⟩ := set_five (.int .i8 k9) (.int .i64 n9) (.string s9) (.string t9) (.slice A9 m9 c9) hga
          have hpr := Lib.hid (pr_of HN3.out hS hga hge hv HNONE.out s5 m5)
          have hS9 := hpr.out.below
          refine wpAnyH_ready (rs := [13]) (by kernel_rfl) (by simp) ?_
          refine AllReadyH.cons (o := ⟨none, _, _, _, _, _⟩) rfl (fun K hK => ?_) AllReadyH.nil
          · rw [if_pos (by rfl)]
            go_simp
            refine hK.out _ _ hS9 (fun hSn => ?_)
            clear hK K hSn; (try simp only [Act.put, sI, sZ, sS])
            refine wpAnyH_take (i := 14) (oi := ⟨some 9, _, _, _, _, _⟩) (v := ?_) rfl (by kernel_rfl) (by kernel_rfl) (by kernel_rfl) (fun _ _ _ h => h) (Or.inl ⟨by kernel_rfl, ?_⟩) (by assumption) ?_; rotate_left; (intro VV hSw; (try dsimp only at hSw); go_simp; first | done | with_reducible rfl); (try simp only [Act.put, sI, sZ, sS])
            refine wpAnyH_done (by kernel_rfl) ?_ _
            clear z0 zf0 z1 zf1 z2 zf2 z3 zf3 z4 zf4
            go_wp2_with fail
            go_meet
            exact ⟨ga, rfl, rfl, hpr⟩
    case rest =>
      obtain ⟨g9, rfl, rfl, hcut⟩ := hcut
      obtain ⟨W5, hW5⟩ : ∃ W5, W5 = wc := ⟨_, rfl⟩
      subst hW5
      have HPR := Lib.hid hcut.out
      have HB5 := Lib.hid (HB3.out.trans (hcut.out.below.mono HB3.out.size))
      obtain ⟨k9, n9, s9, t9, A9, m9, c9, hr9, hv⟩ := hcut.out.at_
      have HR9 := Lib.hid hr9
      have HV9 := Lib.hid hv
      have HO5 := Lib.hid (own_later HO3.out hcut.out.below HN3.out)
      clear hcut hr9 hv
      rcases HVAL.out with hz | hz | hz
      case inr.inr =>
        subst hz
        have HPA : Hid (parE l ps = 2) := par_two HMEM.out HEC.out.symm
        have HNO : Hid (gvTsO (gvT l) ps = none) := by
          refine gvTsO_none HMEM.out ?_
          cases hq : fy with
          | none => exact HFY.out.symm.trans hq
          | some v => exact absurd (HSOME.out v hq) (by decide)
        have HBW := Lib.hid (HB2.out.trans (HB5.out.mono HB2.out.size))
        go_wp2_with fail
        refine bodyPost_ret (v := .tuple #[.slice RA vs.length rc, .int .i64 2]) (by simp [results, Tryz.f204, go_sem]) rfl ?_
        exact ⟨_, _, _, by rw [HPA.out], (fun us hus => by rw [HNO.out] at hus; cases hus), HBW.out⟩
      case inr.inl =>
        subst hz
        have HPA : Hid ((11 : Int) = parE l (ps.take (i + 1))) := by
          show _ = _
          rw [HTK.out, par_app l _ _ (by rw [← HPE.out]; exact HP2.out), ← HEC.out]
          rfl
        have HNO : Hid (∀ us, gvTsO (gvT l) (ps.take (i + 1)) = some us → vs = us) := by
          intro us hus
          rw [HTK.out, gvTsO_app] at hus
          cases hq : fy with
          | none =>
            rw [HFY.out] at hq
            rw [hq] at hus
            cases hg : gvTsO (gvT l) (ps.take i) <;> rw [hg] at hus <;> cases hus
          | some v => exact absurd (HSOME.out v hq) (by decide)
        have HVL2 : Hid (vs.length ≤ i + 1) := Nat.le_succ_of_le HVL.out
        go_wp2_with fail
        go_roundw
        case rel => exact ⟨i + 1, RA, rc, vs, 11, by omega, by go_num, rfl, rfl, HPA, Lib.hid (by decide), HVL2, HNO, HO5, HB5⟩
        case measure => (simp [intOf] <;> omega)
      case inl =>
        subst hz
        have hfs : ∃ z, fy = some z := by
          cases hq : fy with
          | none => exact absurd rfl (HNONE.out hq)
          | some v => exact ⟨v, rfl⟩
        obtain ⟨z, hz⟩ := hfs
        have HZV := Lib.hid (HV9.out z hz).2
        have HPA : Hid (pe = parE l (ps.take (i + 1))) := by
          show _ = _
          rw [HTK.out, par_app l _ _ (by rw [← HPE.out]; exact HP2.out), ← HEC.out]
          exact HPE.out
        have HNO : Hid (∀ us, gvTsO (gvT l) (ps.take (i + 1)) = some us → vs ++ [z] = us) := by
          intro us hus
          rw [HTK.out, gvTsO_app, ← HFY.out, hz] at hus
          cases hg : gvTsO (gvT l) (ps.take i) with
          | none => rw [hg] at hus; cases hus
          | some vs0 =>
            rw [hg] at hus
            cases hus
            rw [HVS.out vs0 hg]
        have HVL2 : Hid ((vs ++ [z]).length ≤ i + 1) := by have := HVL.out; show _ ≤ _; simp; omega
        clear hz
        have r9 := HR9.out
        obtain ⟨t0, t1, t2, t3, t4⟩ := five_of r9
        clear r9
        obtain ⟨W6, hW6⟩ : ∃ W6, W6 = W5.alloc (.cells #[.int .i8 k9, .int .i64 n9, .string s9, .string t9, .slice A9 m9 c9] 44) := ⟨_, rfl⟩
        have b6 : Below W5.heap.size W5 W6 := by rw [hW6]; exact (Below.refl _ _).alloc (Nat.le_refl _) _
        have r6 : W6.heap[W5.heap.size]? = some (.cells #[.int .i8 k9, .int .i64 n9, .string s9, .string t9, .slice A9 m9 c9] 44 (0, 0)) := by rw [hW6]; exact block_alloc _ _
        have HR6 := Lib.hid r6
        have hn5 : n0 ≤ W5.heap.size := Nat.le_trans HN3.out HPR.out.below.size
        have HO6 := Lib.hid (own_later HO5.out b6 hn5)
        have HP6 : Hid (∀ b, PB n0 W2.heap.size W6 (.slice RA vs.length rc) b → b < W6.heap.size ∧ (Value.slice RA vs.length rc).ownBlock ≠ some b) := fun b hb => ⟨by have := b6.size; rcases hb.1 with h | h <;> omega, hb.2⟩
        have HZ6 : Hid (TmAt (PB n0 W2.heap.size W6 (.slice RA vs.length rc)) W6 z (.agg #[.int .i8 k9, .int .i64 n9, .string s9, .string t9, .slice A9 m9 c9])) := HZV.out.keep (fun q hq => b6.block q (by rcases hq with h | h <;> omega)) (fun q hq => ⟨by have := HB3.out.size; have := b6.size; rcases hq with h | h; (exact .inl h); (exact .inr ⟨by omega, by omega⟩), fun e => by
          have h1 := HO.out.own q e
          have h2 := HN0.out
          have h3 := HZ2.out
          have h4 := HZ3.out
          rcases hq with h | h <;> omega⟩)
        have HL6 : Hid (vs.length + 1 ≤ 1000000) := by
          have h1 := HVL.out
          show _ ≤ _
          omega
        have HB26 : Hid (W2.heap.size ≤ W6.heap.size) := Nat.le_trans HB5.out.size b6.size
        have HBW6 := Lib.hid (HB5.out.trans (b6.mono HB5.out.size))
        clear b6 r6 hn5
        go_wp2_with (at_builtin; rw [← hW6]; refine wpList_own_term rfl (.tmp 33) (.tmp 35) rfl HO6.out HB26.out HP6.out rfl W5.heap.size rfl HR6.out HZ6.out HL6.out ?_)
        intro v7 W7 O7 hg7 hb7
        have hz6 : W6.heap.size = W5.heap.size + 1 := by rw [hW6, World.size_alloc]
        rw [← hW6] at O7 hg7
        rw [← hz6] at hb7
        have m7 : Mod (fun g => (Value.slice RA vs.length rc).ownBlock = some g) W6 W7 := Mod.grown hg7 (fun _ _ e => e)
        have hB7 : Below W2.heap.size W2 W7 := HBW6.out.trans (m7.below HBW6.out.size (fun g e => ((HO6.out).own g e).1))
        have O8 : OwnT W2.heap.size (PB n0 W2.heap.size W7 v7) W7 v7 (vs ++ [z]) := O7.keep (.refl (fun _ => False) _) (fun _ _ f => f) (fun b hb => ⟨by have := (HP6.out b hb).1; have := m7.size; omega, fun f => f⟩) (fun b hb => ⟨by have := m7.size; rcases hb.1 with h | h; (exact .inl h); (exact .inr ⟨h.1, by omega⟩), fun e => by
          rcases hb7 with h | h
          · exact hb.2 (h.trans e)
          · rw [h] at e; injection e with e; have := (HP6.out b hb).1; omega⟩)
        obtain ⟨vs2, hvs2⟩ : ∃ a, a = vs ++ [z] := ⟨_, rfl⟩
        rw [← hvs2] at O8 HNO HVL2
        obtain ⟨A7, cap7, rfl⟩ := O8.shape
        have HO8 := Lib.hid O8
        have HB8 := Lib.hid hB7
        clear O7 hg7 hb7 m7 hB7 O8 t0 t1 t2 t3 t4 hW6 hvs2
        go_wp2_with fail
        go_roundw
        case rel => exact ⟨i + 1, A7, cap7, vs2, pe, by omega, by go_num, rfl, rfl, HPA, HP2, HVL2, HNO, HO8, HB8⟩
        case measure => (simp [intOf] <;> omega)
end Go.Proofs.YtkceoiaaiaomoaaGreatDoor
end
section
set_option linter.unusedVariables false
set_option linter.unusedSimpArgs false
namespace Go.Proofs.YtkceoiaaiaomoaaGreatDoor
open Go.RowKit

theorem pres_all (f : Tm → Bool) : ∀ ps : List Tm, (Tm.pres ps).all f = ps.all (fun y => y.pre.all f)
  | [] => by simp [Tm.pres]
  | x :: ps => by rw [Tm.pres, List.all_append, List.all_cons, pres_all f ps]
theorem bnd_mk (l : List Bd) (k n : Int) (s t : ByteArray) (ps : List Tm) : bndB l (.mk k n s t ps) = ((if k = 5 then (varT l s).isSome else true) && ps.all (bndB l)) := by
  unfold bndB
  rw [Tm.pre, List.all_cons, pres_all]
  rfl
theorem gvTsO_all {f : Tm → Option Tm} : ∀ {ps vs : List Tm}, gvTsO f ps = some vs → ∀ y ∈ ps, ∃ v, f y = some v
  | [], _, _, y, hy => by cases hy
  | x :: ps, vs, h, y, hy => by
    rw [gvTsO] at h
    cases hx : f x with
    | none => rw [hx] at h; cases h
    | some v =>
      cases hp : gvTsO f ps with
      | none => rw [hx, hp] at h; cases h
      | some vs0 =>
        rcases List.mem_cons.1 hy with rfl | hy
        · exact ⟨v, hx⟩
        · exact gvTsO_all hp y hy
theorem gvTsO_isnone {f : Tm → Option Tm} : ∀ {ps : List Tm}, gvTsO f ps = none → ∃ y ∈ ps, f y = none
  | [], h => by cases h
  | x :: ps, h => by
    rw [gvTsO] at h
    cases hx : f x with
    | none => exact ⟨x, by simp, hx⟩
    | some v =>
      cases hp : gvTsO f ps with
      | none =>
        obtain ⟨y, hy, h2⟩ := gvTsO_isnone hp
        exact ⟨y, by simp [hy], h2⟩
      | some vs0 => rw [hx, hp] at h; cases h
theorem gv_bnd (l : List Bd) (x : Tm) : ∀ v, gvT l x = some v → bndB l x = true := by
  induction x using Tm.ind with
  | h k n s t ps ih =>
    intro v h
    rw [gvT_mk] at h
    obtain ⟨vs, hvs, hp⟩ := Option.bind_eq_some_iff.1 h
    rw [bnd_mk, Bool.and_eq_true, List.all_eq_true]
    refine ⟨?_, fun y hy => ?_⟩
    · split
      · rename_i hk
        unfold putT at hp
        rw [if_pos hk] at hp
        rw [hp]; rfl
      · rfl
    · obtain ⟨v', hv'⟩ := gvTsO_all hvs y hy
      exact ih y hy v' hv'
theorem fil_two (l : List Bd) (x : Tm) : filE l x = 2 ↔ bndB l x = false := by
  unfold filE
  constructor
  · intro h
    cases hg : gvT l x with
    | some v => rw [hg] at h; exact absurd (show (0 : Int) = 2 from h) (by decide)
    | none =>
      rw [hg] at h
      cases hb : bndB l x with
      | false => rfl
      | true => rw [hb] at h; exact absurd (show (11 : Int) = 2 from h) (by decide)
  · intro h
    cases hg : gvT l x with
    | some v => rw [gv_bnd l x v hg] at h; cases h
    | none => rw [h]; rfl
theorem par_two_iff (l : List Bd) (ps : List Tm) : parE l ps = 2 ↔ ps.all (bndB l) = false := by
  constructor
  · intro h
    cases ha : ps.all (bndB l) with
    | false => rfl
    | true =>
      rw [List.all_eq_true] at ha
      exfalso
      unfold parE at h
      rw [if_neg] at h
      · split at h <;> exact absurd h (by decide)
      · intro hq
        obtain ⟨y, hy, h2⟩ := List.any_eq_true.1 hq
        have := (fil_two l y).1 (by simpa using h2)
        rw [ha y hy] at this; cases this
  · intro h
    rw [List.all_eq_false] at h
    obtain ⟨y, hy, hb⟩ := h
    exact par_two hy ((fil_two l y).2 (by simpa using hb))
theorem par_zero {l : List Bd} {ps vs : List Tm} (h : gvTsO (gvT l) ps = some vs) : parE l ps = 0 := by
  have h0 : ∀ y ∈ ps, filE l y = 0 := fun y hy => by obtain ⟨v, hv⟩ := gvTsO_all h y hy; exact fil_ok hv
  unfold parE
  rw [if_neg, if_neg]
  · intro hq
    obtain ⟨y, hy, h2⟩ := List.any_eq_true.1 hq
    rw [h0 y hy] at h2; exact absurd h2 (by decide)
  · intro hq
    obtain ⟨y, hy, h2⟩ := List.any_eq_true.1 hq
    rw [h0 y hy] at h2; exact absurd h2 (by decide)
theorem par_val (l : List Bd) (ps : List Tm) : parE l ps = 0 ∨ parE l ps = 11 ∨ parE l ps = 2 := by
  unfold parE
  split
  · exact .inr (.inr rfl)
  · split
    · exact .inr (.inl rfl)
    · exact .inl rfl
theorem par_no {l : List Bd} {ps : List Tm} (h : gvTsO (gvT l) ps = none) : parE l ps ≠ 0 := by
  obtain ⟨y, hy, h2⟩ := gvTsO_isnone h
  intro h0
  rcases fil_val l y with e | e | e
  · exact fil_no h2 e
  · unfold parE at h0
    split at h0
    · exact absurd h0 (by decide)
    · rw [if_pos] at h0
      · exact absurd h0 (by decide)
      · exact List.any_eq_true.2 ⟨y, hy, by rw [e]; rfl⟩
  · rw [par_two hy e] at h0; exact absurd h0 (by decide)
theorem fil_row {l : List Bd} {k n : Int} {s t : ByteArray} {ps : List Tm} (hk : ¬ k = 5) (h : gvTsO (gvT l) ps = none) : filE l (.mk k n s t ps) = parE l ps ∧ gvT l (.mk k n s t ps) = none := by
  have hg : gvT l (.mk k n s t ps) = none := by rw [gvT_mk, h]; rfl
  refine ⟨?_, hg⟩
  have hb := bnd_mk l k n s t ps
  rw [if_neg hk, Bool.true_and] at hb
  cases ha : ps.all (bndB l) with
  | false =>
    rw [(par_two_iff l ps).2 ha]
    exact (fil_two l _).2 (hb.trans ha)
  | true =>
    have h2 : parE l ps = 11 := by
      rcases par_val l ps with e | e | e
      · exact absurd e (par_no h)
      · exact e
      · rw [(par_two_iff l ps).1 e] at ha; cases ha
    rw [h2]
    unfold filE
    rw [hg, hb, ha]; rfl
theorem fil_put {l : List Bd} {k n : Int} {s t : ByteArray} {ps vs : List Tm} (hk : ¬ k = 5) (h : gvTsO (gvT l) ps = some vs) : gvT l (.mk k n s t ps) = putT l k n s vs ∧ (putT l k n s vs = none → filE l (.mk k n s t ps) = 11) := by
  have hg : gvT l (.mk k n s t ps) = putT l k n s vs := by rw [gvT_mk, h]; rfl
  refine ⟨hg, fun hp => ?_⟩
  have hb := bnd_mk l k n s t ps
  rw [if_neg hk, Bool.true_and] at hb
  have ha : ps.all (bndB l) = true := by
    rw [List.all_eq_true]
    intro y hy
    obtain ⟨v, hv⟩ := gvTsO_all h y hy
    exact gv_bnd l y v hv
  unfold filE
  rw [hg, hp, hb, ha]; rfl
theorem gvTsO_check {l : List Bd} (hm : mayL l = true) : ∀ {ps vs : List Tm}, gvTsO (gvT l) ps = some vs → (∀ y ∈ ps, guaB y = true) → ∀ v ∈ vs, checkN v = 0
  | [], vs, h, _, v, hv => by simp [gvTsO] at h; subst h; cases hv
  | x :: ps, vs, h, hg, v, hv => by
    rw [gvTsO] at h
    cases hx : gvT l x with
    | none => rw [hx] at h; cases h
    | some v0 =>
      cases hp : gvTsO (gvT l) ps with
      | none => rw [hx, hp] at h; cases h
      | some vs0 =>
        rw [hx, hp] at h
        cases h
        rcases List.mem_cons.1 hv with rfl | hv
        · exact gv_check hx hm (hg x (by simp))
        · exact gvTsO_check hm hp (fun y hy => hg y (by simp [hy])) v hv
theorem fitN_ok {vs : List Tm} (h : ∀ v ∈ vs, checkN v = 0) : fitN 1 vs = 0 ∨ fitN 1 vs = 11 := by
  unfold fitN
  rw [if_neg]
  · split
    · exact .inr rfl
    · exact .inl rfl
  · intro hq
    obtain ⟨y, hy, h2⟩ := List.any_eq_true.1 hq
    rw [h y hy] at h2; exact absurd h2 (by decide)
end Go.Proofs.YtkceoiaaiaomoaaGreatDoor
end
