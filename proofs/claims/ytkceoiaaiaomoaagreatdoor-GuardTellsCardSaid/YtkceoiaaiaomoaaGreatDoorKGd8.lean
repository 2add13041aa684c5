/- Layer 11: does a test hold, by its expressions' values (tester.is, tester.compares)? -/
import Derived.Test.YtkceoiaaiaomoaaGreatDoorKGd6
import Derived.Test.YtkceoiaaiaomoaaGreatDoorKOrd
import Derived.Test.YtkceoiaaiaomoaaGreatDoorKRef01
set_option linter.unusedVariables false
set_option linter.unusedSimpArgs false
namespace Go.Proofs.YtkceoiaaiaomoaaGreatDoor
open Go.RowKit

def kwL : List ByteArray := [⟨#[105, 115, 95, 105, 110, 116, 101, 103, 101, 114]⟩, ⟨#[105, 115, 95, 97, 116, 111, 109]⟩, ⟨#[105, 115, 95, 114, 101, 102, 101, 114, 101, 110, 99, 101]⟩, ⟨#[105, 115, 95, 102, 117, 110, 99, 116, 105, 111, 110]⟩, ⟨#[105, 115, 95, 112, 105, 100]⟩, ⟨#[105, 115, 95, 116, 117, 112, 108, 101]⟩, ⟨#[105, 115, 95, 108, 105, 115, 116]⟩, ⟨#[105, 115, 95, 108, 105, 115, 116]⟩]
def kw (k : Nat) : ByteArray := kwL.getD k ⟨#[]⟩
def kwRow : Array Value := (kwL.map Value.string).toArray
def WTab11 (w : World) : Prop := ∃ t fr, w.heap[1]? = some (.cells kwRow t fr)
theorem WTab11.under {w w' : World} (h : WTab11 w) (b : Below w.heap.size w w') : WTab11 w' := by
  obtain ⟨t, fr, h⟩ := h
  exact ⟨t, fr, (b.block _ (heap_lt h)).trans h⟩
theorem kw_cell {w : World} (h : WTab11 w) (k : Nat) (hk : k < 8) : w.cell? ⟨1, k, none⟩ = some (.string (kw k)) := by
  obtain ⟨t, fr, h⟩ := h
  refine cell_of_row (i := k) h ?_
  match k, hk with
  | 0, _ => rfl | 1, _ => rfl | 2, _ => rfl | 3, _ => rfl | 4, _ => rfl | 5, _ => rfl | 6, _ => rfl | 7, _ => rfl
  | k + 8, h => omega
theorem gv_kind {l : List Bd} {x y : Tm} (h : gvT l x = some y) (hm : mayL l = true) : ∃ j : Nat, y.k = (j : Int) ∧ j < 8 := by
  obtain ⟨k, n, s, t, ps⟩ := x
  rw [gvT_mk] at h
  obtain ⟨vs, hvs, h⟩ := Option.bind_eq_some_iff.1 h
  unfold putT at h
  split at h
  · unfold varT at h
    split at h
    · cases h
    · have hmem := findB_mem h
      have hc := List.all_eq_true.1 hm _ hmem
      have hc0 : checkN y = 0 := by simpa using hc
      have hv := (check_valid hc0).1 y (by cases y; rw [Tm.pre]; exact List.mem_cons_self)
      obtain ⟨yk, yn, ys, yt, yl⟩ := y
      rcases valid_cases hv with h | h | h | h | h | h | h | h
      · exact ⟨0, h.1, by decide⟩
      · exact ⟨1, h.1, by decide⟩
      · exact ⟨2, h.1, by decide⟩
      · exact ⟨3, h.1, by decide⟩
      · exact ⟨4, h.1, by decide⟩
      · exact ⟨5, h.1, by decide⟩
      · exact ⟨6, h.1, by decide⟩
      · exact ⟨7, h.1, by decide⟩
  · split at h
    · cases h; exact ⟨0, rfl, by decide⟩
    · split at h
      · cases h; exact ⟨1, rfl, by decide⟩
      · split at h
        · cases h; exact ⟨6, rfl, by decide⟩
        · split at h
          · unfold consR at h
            split at h
            · split at h
              · cases h; exact ⟨7, rfl, by decide⟩
              · cases h
            · cases h
          · split at h
            · unfold tupR at h
              split at h
              · cases h; exact ⟨5, rfl, by decide⟩
              · cases h
            · split at h
              · unfold opR at h
                split at h
                · split at h
                  · cases h; exact ⟨0, rfl, by decide⟩
                  · cases h
                · cases h
              · cases h
structure VR (r : Option Tm) (n0 : Nat) (W3 wx : World) (g : Nat) (ev : Value) : Prop where
  below : Below W3.heap.size W3 wx
  at_ : ∃ k9 n9 s9 t9 A9 m9 c9, wx.heap[g]? = some (.cells #[.int .i8 k9, .int .i64 n9, .string s9, .string t9, .slice A9 m9 c9] 44 (0, 0)) ∧ ∀ y, r = some y → ev = .nilIface ∧ TmAt (fun b => b < n0 ∨ (W3.heap.size ≤ b ∧ b < wx.heap.size)) wx y (.agg #[.int .i8 k9, .int .i64 n9, .string s9, .string t9, .slice A9 m9 c9])
  no : r = none → ∃ q, ev = .iface 69 (.pointer (some ⟨q, 0, none⟩))
  ge : W3.heap.size ≤ g
theorem vr_of {r : Option Tm} {n0 : Nat} {W3 V VX : World} {g : Nat} {ev : Value} {k9 n9 : Int} {s9 t9 : ByteArray} {A9 : Option Addr} {m9 c9 : Nat} {Zc : Array Value} (hn : n0 ≤ W3.heap.size) (hS : Below W3.heap.size W3 V) (hg : V.heap[g]? = some (.cells Zc 44 (0, 0))) (hge : W3.heap.size ≤ g)
    (hv : ∀ y, r = some y → ev = .nilIface ∧ TmAt (fun b => (b < n0 ∨ (W3.heap.size ≤ b ∧ b < V.heap.size)) ∧ b ≠ g) V y (.agg #[.int .i8 k9, .int .i64 n9, .string s9, .string t9, .slice A9 m9 c9])) (hno : r = none → ∃ q, ev = .iface 69 (.pointer (some ⟨q, 0, none⟩)))
    (s5 : VX.heap[g]? = some (.cells #[.int .i8 k9, .int .i64 n9, .string s9, .string t9, .slice A9 m9 c9] 44 (0, 0))) (m5 : Mod (fun k => k = g) V VX) : VR r n0 W3 VX g ev := by
  refine ⟨hS.trans (m5.below hS.size (fun k (e : k = g) => by omega)), ⟨_, _, _, _, _, _, _, s5, fun y hy => ?_⟩, hno, hge⟩
  obtain ⟨h1, h2⟩ := hv y hy
  refine ⟨h1, h2.keep (fun q hq => m5.block q ?_ hq.2) (fun q hq => ?_)⟩
  · have := hS.size; rcases hq.1 with h | h <;> omega
  · have := m5.size; rcases hq.1 with h | h; (exact .inl h); (exact .inr ⟨h.1, by omega⟩)
def isR (l : List Bd) (s : ByteArray) (a : Tm) : Bool := match gvT l a with | some y => (kw y.k.toNat).toList == s.toList | none => false
def cmpT (l : List Bd) (s : ByteArray) (a b : Tm) : Bool := match gvT l a, gvT l b with | some y, some z => (cmpR s (compN y z)).1 | _, _ => false
set_option maxHeartbeats 8000000 in
set_option maxRecDepth 100000 in
theorem isT_any (n0 : Nat) (w0 : World) (l : List Bd) (gv gp gm : Nat) (k n : Int) (s t : ByteArray) (a : Tm) (v : Value) (W : World) (hU : Und n0 w0 l gv gp gm W) (hM : mayL l = true) (hW : WTab11 W) (gua : guaB a = true) (na : a.nodes ≤ 100000) (hT : TmAt (· < W.heap.size) W (.mk k n s t [a]) v) :
    Calls Tryz.prog 161 #[.agg #[vf11 gv gp], v] W fun e w' => e = .returned (.bool (isR l s a)) ∧ Below W.heap.size W w' := by
  obtain ⟨A, cap, rfl, hR, -⟩ := hT.parts
  obtain ⟨ad, u0, rfl, had, hE0, hT0⟩ := hR.at_ 0 a rfl
  obtain ⟨ak0, an0, as0, at0, al0, hx0⟩ : ∃ k n s t l, a = Tm.mk k n s t l := by cases a; exact ⟨_, _, _, _, _, rfl⟩
  have hq0 := hT0
  rw [hx0] at hq0
  obtain ⟨aA0, ac0, rfl, -⟩ := hq0.parts
  obtain ⟨am0, hm0⟩ : ∃ m, m = al0.length := ⟨_, rfl⟩
  rw [← hm0] at hE0 hT0
  obtain ⟨pl, hpl⟩ : ∃ pl, pl = List.length (α := Tm) [a] := ⟨_, rfl⟩
  rw [← hpl]
  have g0 := there_of (.cells #[.int .i8 k, .int .i64 n, .string s, .string t, .slice (some ad) pl cap] 25) (block_alloc W (.cells #[.func (.func 160) #[] #[.pointer (some ⟨gv, 0, none⟩), .pointer (some ⟨gp, 0, none⟩)]] 137))
  have g1 := block_alloc (W.alloc (.cells #[.func (.func 160) #[] #[.pointer (some ⟨gv, 0, none⟩), .pointer (some ⟨gp, 0, none⟩)]] 137)) (.cells #[.int .i8 k, .int .i64 n, .string s, .string t, .slice (some ad) pl cap] 25)
  rw [World.size_alloc] at g1
  have b2 : Below W.heap.size W ((W.alloc (.cells #[.func (.func 160) #[] #[.pointer (some ⟨gv, 0, none⟩), .pointer (some ⟨gp, 0, none⟩)]] 137)).alloc (.cells #[.int .i8 k, .int .i64 n, .string s, .string t, .slice (some ad) pl cap] 25)) := ((Below.refl _ W).alloc (Nat.le_refl _) _).alloc (by simp) _
  obtain ⟨W2, hW2⟩ : ∃ W2, W2 = (W.alloc (.cells #[.func (.func 160) #[] #[.pointer (some ⟨gv, 0, none⟩), .pointer (some ⟨gp, 0, none⟩)]] 137)).alloc (.cells #[.int .i8 k, .int .i64 n, .string s, .string t, .slice (some ad) pl cap] 25) := ⟨_, rfl⟩
  rw [← hW2] at g0 g1 b2
  have HBW2 := Lib.hid b2
  have HG0W2 := Lib.hid g0
  have HG1W2 := Lib.hid g1
  have HU := Lib.hid (hU.under b2)
  have HM := Lib.hid hM
  have HW := Lib.hid hW
  have HT0 := Lib.hid hT0
  have HE0 : Hid (∀ V, Below W.heap.size W V → V.cell? ad = some (.int .i8 ak0) ∧ V.cell? ⟨ad.block, ad.off + 1, none⟩ = some (.int .i64 an0) ∧ V.cell? ⟨ad.block, ad.off + 2, none⟩ = some (.string as0) ∧ V.cell? ⟨ad.block, ad.off + 3, none⟩ = some (.string at0) ∧ V.cell? ⟨ad.block, ad.off + 4, none⟩ = some (.slice aA0 am0 ac0)) := fun V hb => by
    obtain ⟨d0, d1, d2, d3, d4, he, e0, e1, e2, e3, e4⟩ := hE0.keep (hb.block _ had)
    simp only [Value.agg.injEq, Array.mk.injEq, List.cons.injEq, and_true] at he
    obtain ⟨rfl, rfl, rfl, rfl, rfl⟩ := he
    rw [show ad.add (0 * 5) = ad from rfl] at e0 e1 e2 e3 e4
    exact ⟨e0, e1, e2, e3, e4⟩
  have HNW2 : Hid (n0 ≤ W2.heap.size) := Nat.le_trans hU.n0 (Nat.le_trans (by have := (hU.under b2).below.size; omega) (Nat.le_refl _))
  have HNPL : Hid (pl = 1) := by show _ = _; rw [hpl]; rfl
  clear hR hT hE0 hT0 hq0 hx0 hm0 hpl had hU hM hW b2 g0 g1
  unfold vf11
  go_enter Tryz.func161, Tryz.ntmps161
  go_upto_region 1 with fail
  rw [← hW2]
  clear hW2
  go_cut [5, 6] (fun p q wx => ∃ g9, p = .pointer (some ⟨g9, 0, none⟩) ∧ Hid (VR (gvT l a) n0 W2 wx g9 q))
  case first =>
    refine wp_region_held (S := fun V => Below W2.heap.size W2 V) (by kernel_rfl) ?_
    show wpAnyH _ _ _ _ _ _ _ _ W2.drew
    have hS : Below W2.heap.size W2 W2.drew := ⟨rfl, rfl, rfl, Nat.le_refl _, fun _ _ => rfl⟩
    generalize W2.drew = V0 at hS ⊢
    refine wpAnyH_take (i := 0) (oi := ⟨some 8, _, _, _, _, _⟩) (v := ?_) rfl (by kernel_rfl) (by kernel_rfl) (by kernel_rfl) (fun _ _ _ h => h) (Or.inl ⟨by kernel_rfl, ?_⟩) (by assumption) ?_; rotate_left; (intro VV hSw; (try dsimp only at hSw); go_simp; first | done | with_reducible rfl); (try simp only [Act.put, sI, sZ, sS])
    refine wpAnyH_take (i := 1) (oi := ⟨some 9, _, _, _, _, _⟩) (v := ?_) rfl (by kernel_rfl) (by kernel_rfl) (by kernel_rfl) (fun _ _ _ h => h) (Or.inl ⟨by kernel_rfl, ?_⟩) (by assumption) ?_; rotate_left; (intro VV hSw; (try dsimp only at hSw); have hr := (hSw.block _ (heap_lt HG0W2.out)).trans HG0W2.out; have x0 : VV.cell? ⟨W.heap.size, 0, none⟩ = some (.func (.func 160) #[] #[.pointer (some ⟨gv, 0, none⟩), .pointer (some ⟨gp, 0, none⟩)]) := cell_of_row (i := 0) hr rfl; go_simp; first | done | with_reducible rfl); (try simp only [Act.put, sI, sZ, sS])
    refine wpAnyH_take (i := 2) (oi := ⟨some 10, _, _, _, _, _⟩) (v := ?_) rfl (by kernel_rfl) (by kernel_rfl) (by kernel_rfl) (fun _ _ _ h => h) (Or.inl ⟨by kernel_rfl, ?_⟩) (by assumption) ?_; rotate_left; (intro VV hSw; (try dsimp only at hSw); go_simp; first | done | with_reducible rfl); (try simp only [Act.put, sI, sZ, sS])
    refine wpAnyH_take (i := 3) (oi := ⟨some 11, _, _, _, _, _⟩) (v := ?_) rfl (by kernel_rfl) (by kernel_rfl) (by kernel_rfl) (fun _ _ _ h => h) (Or.inl ⟨by kernel_rfl, ?_⟩) (by assumption) ?_; rotate_left; (intro VV hSw; (try dsimp only at hSw); have hr := (hSw.block _ (heap_lt HG1W2.out)).trans HG1W2.out; have y4 : VV.cell? ⟨W.heap.size + 1, 4, none⟩ = some (.slice (some ad) pl cap) := cell_of_row (i := 4) hr rfl; go_simp; first | done | with_reducible rfl); (try simp only [Act.put, sI, sZ, sS])
    refine wpAnyH_take (i := 4) (oi := ⟨some 12, _, _, _, _, _⟩) (v := ?_) rfl (by kernel_rfl) (by kernel_rfl) (by kernel_rfl) (fun _ _ _ h => h) (Or.inl ⟨by kernel_rfl, ?_⟩) (by assumption) ?_; rotate_left; (intro VV hSw; (try dsimp only at hSw); have hp0 := HNPL.out; have hp1 : (0 : Int) < (pl : Int) := (by omega); have hp3 : 0 < pl := (by omega); go_simp; first | done | with_reducible rfl); (try simp only [Act.put, sI, sZ, sS])
    refine wpAnyH_take (i := 5) (oi := ⟨some 13, _, _, _, _, _⟩) (v := ?_) rfl (by kernel_rfl) (by kernel_rfl) (by kernel_rfl) (fun _ _ _ h => h) (Or.inl ⟨by kernel_rfl, ?_⟩) (by assumption) ?_; rotate_left; (intro VV hSw; (try dsimp only at hSw); obtain ⟨e0, e1, e2, e3, e4⟩ := HE0.out VV (HBW2.out.trans (hSw.mono HBW2.out.size)); go_simp; first | done | with_reducible rfl); (try simp only [Act.put, sI, sZ, sS])
    refine wpAnyH_ready (rs := [6, 10]) (by kernel_rfl) (by simp) ?_
    refine AllReadyH.cons (o := ⟨some 14, _, _, _, _, _⟩) rfl (fun K hK => ?_) (AllReadyH.cons (o := ⟨some 5, _, _, _, _, _⟩) rfl (fun K hK => ?_) AllReadyH.nil)
    · rw [if_pos (by rfl)]
      go_simp
      refine (val_any n0 w0 l gv gp gm a gua na _ V0 (HU.out.under hS) (HT0.out.laterN (HBW2.out.trans (hS.mono HBW2.out.size)))).mono ?_
      rintro e V1 ⟨k9, n9, s9, t9, A9, m9, c9, ev, rfl, hv, hno0, b5⟩
      have hS1 := hS.trans (b5.mono hS.size)
      have zS := hS.size
      have hno : gvT l a = none → ∃ q, ev = .iface 69 (.pointer (some ⟨q, 0, none⟩)) := fun h => by obtain ⟨q, h1, _⟩ := hno0 h; exact ⟨q, h1⟩
      clear hno0
      refine hK.out _ _ hS1 (fun hSn => ?_)
      clear hK K hSn; (try simp only [Act.put, sI, sZ, sS])
      clear hS
      have hS := hS1
      clear hS1
      refine wpAnyH_take (i := 7) (oi := ⟨some 7, _, _, _, _, _⟩) (v := ?_) rfl (by kernel_rfl) (by kernel_rfl) (by kernel_rfl) (fun _ _ _ h => h) (Or.inl ⟨by kernel_rfl, ?_⟩) (by assumption) ?_; rotate_left; (intro VV hSw; (try dsimp only at hSw); go_simp; first | done | with_reducible rfl); (try simp only [Act.put, sI, sZ, sS])
      refine wpAnyH_take (i := 8) (oi := ⟨some 15, _, _, _, _, _⟩) (v := ?_) rfl (by kernel_rfl) (by kernel_rfl) (by kernel_rfl) (fun _ _ _ h => h) (Or.inl ⟨by kernel_rfl, ?_⟩) (by assumption) ?_; rotate_left; (intro VV hSw; (try dsimp only at hSw); go_simp; first | done | with_reducible rfl); (try simp only [Act.put, sI, sZ, sS])
      refine wpAnyH_take (i := 9) (oi := ⟨some 16, _, _, _, _, _⟩) (v := ?_) rfl (by kernel_rfl) (by kernel_rfl) (by kernel_rfl) (fun _ _ _ h => h) (Or.inl ⟨by kernel_rfl, ?_⟩) (by assumption) ?_; rotate_left; (intro VV hSw; (try dsimp only at hSw); go_simp; first | done | with_reducible rfl); (try simp only [Act.put, sI, sZ, sS])
      refine wpAnyH_ready (rs := [10]) (by kernel_rfl) (by simp) ?_
      refine AllReadyH.cons (o := ⟨some 5, _, _, _, _, _⟩) rfl (fun K hK => ?_) AllReadyH.nil
      · rw [if_pos (by rfl)]
        go_simp
        have hga := block_alloc V1 (.cells #[.int .i8 0, .int .i64 0, .string ⟨#[]⟩, .string ⟨#[]⟩, .slice none 0 0] 44)
        have hS1 := hS.alloc hS.size (.cells #[.int .i8 0, .int .i64 0, .string ⟨#[]⟩, .string ⟨#[]⟩, .slice none 0 0] 44)
        have hge : W2.heap.size ≤ V1.heap.size := hS.size
        have ba := Below.heap_alloc V1 (.cells #[.int .i8 0, .int .i64 0, .string ⟨#[]⟩, .string ⟨#[]⟩, .slice none 0 0] 44)
        have hv2 : ∀ y, gvT l a = some y → ev = .nilIface ∧ TmAt (fun b => (b < n0 ∨ (W2.heap.size ≤ b ∧ b < (V1.alloc (.cells #[.int .i8 0, .int .i64 0, .string ⟨#[]⟩, .string ⟨#[]⟩, .slice none 0 0] 44)).heap.size)) ∧ b ≠ V1.heap.size) (V1.alloc (.cells #[.int .i8 0, .int .i64 0, .string ⟨#[]⟩, .string ⟨#[]⟩, .slice none 0 0] 44)) y (.agg #[.int .i8 k9, .int .i64 n9, .string s9, .string t9, .slice A9 m9 c9]) := fun y hy => ⟨(hv y hy).1, (hv y hy).2.keep (fun q hq => ba q (by have := HNW2.out; have := hS.size; rcases hq with h | h <;> omega)) (fun q hq => by rw [World.size_alloc]; have := HNW2.out; have := hS.size; rcases hq with h | h; (exact ⟨.inl h, by omega⟩); (exact ⟨.inr ⟨by omega, by omega⟩, by omega⟩))⟩
        obtain ⟨ga, hgae⟩ : ∃ ga, ga = V1.heap.size := ⟨_, rfl⟩
        rw [← hgae] at hga hge hv2
        refine hK.out _ _ hS1 (fun hSn => ?_)
        clear hK K hSn; (try simp only [Act.put, sI, sZ, sS])
        rw [← hgae]
        generalize V1.alloc (.cells #[.int .i8 0, .int .i64 0, .string ⟨#[]⟩, .string ⟨#[]⟩, .slice none 0 0] 44) = V2 at hga hS1 hv2 ⊢
        clear hgae hS hv ba
        have hS := hS1
        have hv := hv2
        clear hS1 hv2
        obtain ⟨⟨z0, z1, z2, z3, z4⟩, zf0, zf1, zf2, zf3, zf4⟩ := five_fr hga
        obtain ⟨s5, m5⟩ := set_five (.int .i8 k9) (.int .i64 n9) (.string s9) (.string t9) (.slice A9 m9 c9) hga
        have hvr := Lib.hid (vr_of HNW2.out hS hga hge hv hno s5 m5)
        have hS9 := hvr.out.below
        refine wpAnyH_ready (rs := [11]) (by kernel_rfl) (by simp) ?_
        refine AllReadyH.cons (o := ⟨none, _, _, _, _, _⟩) rfl (fun K hK => ?_) AllReadyH.nil
        · rw [if_pos (by rfl)]
          go_simp
          refine hK.out _ _ hS9 (fun hSn => ?_)
          clear hK K hSn; (try simp only [Act.put, sI, sZ, sS])
          refine wpAnyH_take (i := 12) (oi := ⟨some 6, _, _, _, _, _⟩) (v := ?_) rfl (by kernel_rfl) (by kernel_rfl) (by kernel_rfl) (fun _ _ _ h => h) (Or.inl ⟨by kernel_rfl, ?_⟩) (by assumption) ?_; rotate_left; (intro VV hSw; (try dsimp only at hSw); go_simp; first | done | with_reducible rfl); (try simp only [Act.put, sI, sZ, sS])
          refine wpAnyH_done (by kernel_rfl) ?_ _
          clear z0 zf0 z1 zf1 z2 zf2 z3 zf3 z4 zf4
          go_wp2_with fail
          go_meet
          exact ⟨ga, rfl, hvr⟩
    · rw [if_pos (by rfl)]
      go_simp
      have hga := block_alloc V0 (.cells #[.int .i8 0, .int .i64 0, .string ⟨#[]⟩, .string ⟨#[]⟩, .slice none 0 0] 44)
      have hS1 := hS.alloc hS.size (.cells #[.int .i8 0, .int .i64 0, .string ⟨#[]⟩, .string ⟨#[]⟩, .slice none 0 0] 44)
      have hge : W2.heap.size ≤ V0.heap.size := hS.size
      obtain ⟨ga, hgae⟩ : ∃ ga, ga = V0.heap.size := ⟨_, rfl⟩
      rw [← hgae] at hga hge
      refine hK.out _ _ hS1 (fun hSn => ?_)
      clear hK K hSn; (try simp only [Act.put, sI, sZ, sS])
      rw [← hgae]
      generalize hV1 : V0.alloc (.cells #[.int .i8 0, .int .i64 0, .string ⟨#[]⟩, .string ⟨#[]⟩, .slice none 0 0] 44) = V1 at hga hS1 ⊢
      have hz1 : V1.heap.size = ga + 1 := by rw [← hV1, World.size_alloc, hgae]
      clear hgae hS hV1
      have hS := hS1
      clear hS1
      refine wpAnyH_ready (rs := [6]) (by kernel_rfl) (by simp) ?_
      refine AllReadyH.cons (o := ⟨some 14, _, _, _, _, _⟩) rfl (fun K hK => ?_) AllReadyH.nil
      · rw [if_pos (by rfl)]
        go_simp
        refine (val_any n0 w0 l gv gp gm a gua na _ V1 (HU.out.under hS) (HT0.out.laterN (HBW2.out.trans (hS.mono HBW2.out.size)))).mono ?_
        rintro e V2 ⟨k9, n9, s9, t9, A9, m9, c9, ev, rfl, hv, hno0, b5⟩
        have hS1 := hS.trans (b5.mono hS.size)
        have zS := hS.size
        have hno : gvT l a = none → ∃ q, ev = .iface 69 (.pointer (some ⟨q, 0, none⟩)) := fun h => by obtain ⟨q, h1, _⟩ := hno0 h; exact ⟨q, h1⟩
        clear hno0
        have hga2 := (b5.block _ (heap_lt hga)).trans hga
        have hv2 : ∀ y, gvT l a = some y → ev = .nilIface ∧ TmAt (fun b => (b < n0 ∨ (W2.heap.size ≤ b ∧ b < V2.heap.size)) ∧ b ≠ ga) V2 y (.agg #[.int .i8 k9, .int .i64 n9, .string s9, .string t9, .slice A9 m9 c9]) := fun y hy => ⟨(hv y hy).1, (hv y hy).2.mono (fun q hq => by have := HNW2.out; rcases hq with h | h; (exact ⟨.inl h, by omega⟩); (exact ⟨.inr ⟨by omega, by omega⟩, by omega⟩))⟩
        refine hK.out _ _ hS1 (fun hSn => ?_)
        clear hK K hSn; (try simp only [Act.put, sI, sZ, sS])
        clear hS
        have hS := hS1
        clear hS1
        refine wpAnyH_take (i := 7) (oi := ⟨some 7, _, _, _, _, _⟩) (v := ?_) rfl (by kernel_rfl) (by kernel_rfl) (by kernel_rfl) (fun _ _ _ h => h) (Or.inl ⟨by kernel_rfl, ?_⟩) (by assumption) ?_; rotate_left; (intro VV hSw; (try dsimp only at hSw); go_simp; first | done | with_reducible rfl); (try simp only [Act.put, sI, sZ, sS])
        refine wpAnyH_take (i := 8) (oi := ⟨some 15, _, _, _, _, _⟩) (v := ?_) rfl (by kernel_rfl) (by kernel_rfl) (by kernel_rfl) (fun _ _ _ h => h) (Or.inl ⟨by kernel_rfl, ?_⟩) (by assumption) ?_; rotate_left; (intro VV hSw; (try dsimp only at hSw); go_simp; first | done | with_reducible rfl); (try simp only [Act.put, sI, sZ, sS])
        refine wpAnyH_take (i := 9) (oi := ⟨some 16, _, _, _, _, _⟩) (v := ?_) rfl (by kernel_rfl) (by kernel_rfl) (by kernel_rfl) (fun _ _ _ h => h) (Or.inl ⟨by kernel_rfl, ?_⟩) (by assumption) ?_; rotate_left; (intro VV hSw; (try dsimp only at hSw); go_simp; first | done | with_reducible rfl); (try simp only [Act.put, sI, sZ, sS])
        clear hga hv
        have hga := hga2
        have hv := hv2
        clear hga2 hv2
        obtain ⟨⟨z0, z1, z2, z3, z4⟩, zf0, zf1, zf2, zf3, zf4⟩ := five_fr hga
        obtain ⟨s5, m5⟩ := set_five (.int .i8 k9) (.int .i64 n9) (.string s9) (.string t9) (.slice A9 m9 c9) hga
        have hvr := Lib.hid (vr_of HNW2.out hS hga hge hv hno s5 m5)
        have hS9 := hvr.out.below
        refine wpAnyH_ready (rs := [11]) (by kernel_rfl) (by simp) ?_
        refine AllReadyH.cons (o := ⟨none, _, _, _, _, _⟩) rfl (fun K hK => ?_) AllReadyH.nil
        · rw [if_pos (by rfl)]
          go_simp
          refine hK.out _ _ hS9 (fun hSn => ?_)
          clear hK K hSn; (try simp only [Act.put, sI, sZ, sS])
          refine wpAnyH_take (i := 12) (oi := ⟨some 6, _, _, _, _, _⟩) (v := ?_) rfl (by kernel_rfl) (by kernel_rfl) (by kernel_rfl) (fun _ _ _ h => h) (Or.inl ⟨by kernel_rfl, ?_⟩) (by assumption) ?_; rotate_left; (intro VV hSw; (try dsimp only at hSw); go_simp; first | done | with_reducible rfl); (try simp only [Act.put, sI, sZ, sS])
          refine wpAnyH_done (by kernel_rfl) ?_ _
          clear z0 zf0 z1 zf1 z2 zf2 z3 zf3 z4 zf4
          go_wp2_with fail
          go_meet
          exact ⟨ga, rfl, hvr⟩
  case rest =>
  obtain ⟨g4, rfl, hcut⟩ := hcut
  obtain ⟨W4, hW4⟩ : ∃ w, w = wc := ⟨_, rfl⟩
  subst hW4
  have HBW4 := Lib.hid (HBW2.out.trans (hcut.out.below.mono HBW2.out.size))
  have HB24 := Lib.hid hcut.out.below
  have HG0W4 := Lib.hid ((hcut.out.below.block _ (heap_lt HG0W2.out)).trans HG0W2.out)
  have HG1W4 := Lib.hid ((hcut.out.below.block _ (heap_lt HG1W2.out)).trans HG1W2.out)
  obtain ⟨k9, n9, s9, t9, A9, m9, c9, r4, hv⟩ := hcut.out.at_
  have hno := hcut.out.no
  clear hcut
  cases hgv : gvT l a with
  | none =>
    have HPO : Hid (isR l s a = false) := by show _ = _; unfold isR; rw [hgv]
    obtain ⟨q, rfl⟩ := hno hgv
    clear hv hno hgv
    go_upto_region 2 with fail
    refine wp_region_held (S := fun V => Below W4.heap.size W4 V) (by kernel_rfl) ?_
    show wpAnyH _ _ _ _ _ _ _ _ W4.drew
    have hS : Below W4.heap.size W4 W4.drew := ⟨rfl, rfl, rfl, Nat.le_refl _, fun _ _ => rfl⟩
    generalize W4.drew = V0 at hS ⊢
    refine wpAnyH_take (i := 0) (oi := ⟨some 17, _, _, _, _, _⟩) (v := ?_) rfl (by kernel_rfl) (by kernel_rfl) (by kernel_rfl) (fun _ _ _ h => h) (Or.inl ⟨by kernel_rfl, ?_⟩) (by assumption) ?_; rotate_left; (intro VV hSw; (try dsimp only at hSw); go_simp; first | done | with_reducible rfl); (try simp only [Act.put, sI, sZ, sS])
    refine wpAnyH_take (i := 1) (oi := ⟨some 18, _, _, _, _, _⟩) (v := ?_) rfl (by kernel_rfl) (by kernel_rfl) (by kernel_rfl) (fun _ _ _ h => h) (Or.inl ⟨by kernel_rfl, ?_⟩) (by assumption) ?_; rotate_left; (intro VV hSw; (try dsimp only at hSw); go_simp; first | done | with_reducible rfl); (try simp only [Act.put, sI, sZ, sS])
    refine wpAnyH_take (i := 2) (oi := ⟨some 19, _, _, _, _, _⟩) (v := ?_) rfl (by kernel_rfl) (by kernel_rfl) (by kernel_rfl) (fun _ _ _ h => h) (Or.inl ⟨by kernel_rfl, ?_⟩) (by assumption) ?_; rotate_left; (intro VV hSw; (try dsimp only at hSw); go_simp; first | done | with_reducible rfl); (try simp only [Act.put, sI, sZ, sS])
    refine wpAnyH_take (i := 3) (oi := ⟨some 20, _, _, _, _, _⟩) (v := undef) rfl (by kernel_rfl) (by kernel_rfl) (by kernel_rfl) (fun _ _ _ h => h) (Or.inr ⟨by kernel_rfl, rfl⟩) (by assumption) ?_; (try simp only [Act.put, sI, sZ, sS])
    refine wpAnyH_take (i := 4) (oi := ⟨some 21, _, _, _, _, _⟩) (v := undef) rfl (by kernel_rfl) (by kernel_rfl) (by kernel_rfl) (fun _ _ _ h => h) (Or.inr ⟨by kernel_rfl, rfl⟩) (by assumption) ?_; (try simp only [Act.put, sI, sZ, sS])
    refine wpAnyH_take (i := 5) (oi := ⟨some 22, _, _, _, _, _⟩) (v := undef) rfl (by kernel_rfl) (by kernel_rfl) (by kernel_rfl) (fun _ _ _ h => h) (Or.inr ⟨by kernel_rfl, rfl⟩) (by assumption) ?_; (try simp only [Act.put, sI, sZ, sS])
    refine wpAnyH_take (i := 6) (oi := ⟨some 23, _, _, _, _, _⟩) (v := undef) rfl (by kernel_rfl) (by kernel_rfl) (by kernel_rfl) (fun _ _ _ h => h) (Or.inr ⟨by kernel_rfl, rfl⟩) (by assumption) ?_; (try simp only [Act.put, sI, sZ, sS])
    refine wpAnyH_take (i := 7) (oi := ⟨some 24, _, _, _, _, _⟩) (v := undef) rfl (by kernel_rfl) (by kernel_rfl) (by kernel_rfl) (fun _ _ _ h => h) (Or.inr ⟨by kernel_rfl, rfl⟩) (by assumption) ?_; (try simp only [Act.put, sI, sZ, sS])
    refine wpAnyH_take (i := 8) (oi := ⟨some 25, _, _, _, _, _⟩) (v := undef) rfl (by kernel_rfl) (by kernel_rfl) (by kernel_rfl) (fun _ _ _ h => h) (Or.inr ⟨by kernel_rfl, rfl⟩) (by assumption) ?_; (try simp only [Act.put, sI, sZ, sS])
    refine wpAnyH_take (i := 9) (oi := ⟨some 26, _, _, _, _, _⟩) (v := undef) rfl (by kernel_rfl) (by kernel_rfl) (by kernel_rfl) (fun _ _ _ h => h) (Or.inr ⟨by kernel_rfl, rfl⟩) (by assumption) ?_; (try simp only [Act.put, sI, sZ, sS])
    refine wpAnyH_take (i := 10) (oi := ⟨some 27, _, _, _, _, _⟩) (v := ?_) rfl (by kernel_rfl) (by kernel_rfl) (by kernel_rfl) (fun _ _ _ h => h) (Or.inl ⟨by kernel_rfl, ?_⟩) (by assumption) ?_; rotate_left; (intro VV hSw; (try dsimp only at hSw); go_simp; first | done | with_reducible rfl); (try simp only [Act.put, sI, sZ, sS])
    refine wpAnyH_take (i := 11) (oi := ⟨some 4, _, _, _, _, _⟩) (v := ?_) rfl (by kernel_rfl) (by kernel_rfl) (by kernel_rfl) (fun _ _ _ h => h) (Or.inl ⟨by kernel_rfl, ?_⟩) (by assumption) ?_; rotate_left; (intro VV hSw; (try dsimp only at hSw); go_simp; first | done | with_reducible rfl); (try simp only [Act.put, sI, sZ, sS])
    refine wpAnyH_done (by kernel_rfl) ?_ _
    have HFIN := Lib.hid (HBW4.out.trans (hS.mono HBW4.out.size))
    go_wp2_with fail
    go_ret
    exact ⟨ret_bool HPO.out.symm, HFIN.out⟩
  | some y =>
    have HPO : Hid (isR l s a = ((kw y.k.toNat).toList == s.toList)) := by show _ = _; unfold isR; rw [hgv]
    obtain ⟨rfl, hy⟩ := hv y hgv
    obtain ⟨j, hj, hj8⟩ := gv_kind hgv HM.out
    have hk9 : k9 = (j : Int) := by rw [← hj]; cases y; obtain ⟨_, _, he, _⟩ := hy.parts; simp only [Value.agg.injEq, Array.mk.injEq, List.cons.injEq, Value.int.injEq, true_and] at he; exact he.1
    subst hk9
    rw [hj, show ((j : Int)).toNat = j from rfl] at HPO
    have HKC : Hid (∀ V, Below W4.heap.size W4 V → V.cell? ⟨1, j, none⟩ = some (.string (kw j))) := fun V hb => kw_cell ((HW.out.under HBW4.out).under hb) j hj8
    have HR4 := Lib.hid r4
    have hj0 : (0 : Int) ≤ (j : Int) := by omega
    have hj1 : (j : Int) < 8 := by omega
    clear hv hno hgv hy hj r4
    go_upto_region 2 with fail
    refine wp_region_held (S := fun V => Below W4.heap.size W4 V) (by kernel_rfl) ?_
    show wpAnyH _ _ _ _ _ _ _ _ W4.drew
    have hS : Below W4.heap.size W4 W4.drew := ⟨rfl, rfl, rfl, Nat.le_refl _, fun _ _ => rfl⟩
    generalize W4.drew = V0 at hS ⊢
    refine wpAnyH_take (i := 0) (oi := ⟨some 17, _, _, _, _, _⟩) (v := ?_) rfl (by kernel_rfl) (by kernel_rfl) (by kernel_rfl) (fun _ _ _ h => h) (Or.inl ⟨by kernel_rfl, ?_⟩) (by assumption) ?_; rotate_left; (intro VV hSw; (try dsimp only at hSw); go_simp; first | done | with_reducible rfl); (try simp only [Act.put, sI, sZ, sS])
    refine wpAnyH_take (i := 1) (oi := ⟨some 18, _, _, _, _, _⟩) (v := ?_) rfl (by kernel_rfl) (by kernel_rfl) (by kernel_rfl) (fun _ _ _ h => h) (Or.inl ⟨by kernel_rfl, ?_⟩) (by assumption) ?_; rotate_left; (intro VV hSw; (try dsimp only at hSw); go_simp; first | done | with_reducible rfl); (try simp only [Act.put, sI, sZ, sS])
    refine wpAnyH_take (i := 2) (oi := ⟨some 19, _, _, _, _, _⟩) (v := ?_) rfl (by kernel_rfl) (by kernel_rfl) (by kernel_rfl) (fun _ _ _ h => h) (Or.inl ⟨by kernel_rfl, ?_⟩) (by assumption) ?_; rotate_left; (intro VV hSw; (try dsimp only at hSw); go_simp; first | done | with_reducible rfl); (try simp only [Act.put, sI, sZ, sS])
    refine wpAnyH_take (i := 3) (oi := ⟨some 20, _, _, _, _, _⟩) (v := ?_) rfl (by kernel_rfl) (by kernel_rfl) (by kernel_rfl) (fun _ _ _ h => h) (Or.inl ⟨by kernel_rfl, ?_⟩) (by assumption) ?_; rotate_left; (intro VV hSw; (try dsimp only at hSw); go_simp; first | done | with_reducible rfl); (try simp only [Act.put, sI, sZ, sS])
    refine wpAnyH_take (i := 4) (oi := ⟨some 21, _, _, _, _, _⟩) (v := ?_) rfl (by kernel_rfl) (by kernel_rfl) (by kernel_rfl) (fun _ _ _ h => h) (Or.inl ⟨by kernel_rfl, ?_⟩) (by assumption) ?_; rotate_left; (intro VV hSw; (try dsimp only at hSw); have hr := (hSw.block _ (heap_lt HR4.out)).trans HR4.out; have r0 : VV.cell? ⟨g4, 0, none⟩ = some (.int .i8 (j : Int)) := cell_of_row (i := 0) hr rfl; go_simp; first | done | with_reducible rfl); (try simp only [Act.put, sI, sZ, sS])
    refine wpAnyH_take (i := 5) (oi := ⟨some 22, _, _, _, _, _⟩) (v := ?_) rfl (by kernel_rfl) (by kernel_rfl) (by kernel_rfl) (fun _ _ _ h => h) (Or.inl ⟨by kernel_rfl, ?_⟩) (by assumption) ?_; rotate_left; (intro VV hSw; (try dsimp only at hSw); go_simp; first | done | with_reducible rfl); (try simp only [Act.put, sI, sZ, sS])
    refine wpAnyH_take (i := 6) (oi := ⟨some 23, _, _, _, _, _⟩) (v := ?_) rfl (by kernel_rfl) (by kernel_rfl) (by kernel_rfl) (fun _ _ _ h => h) (Or.inl ⟨by kernel_rfl, ?_⟩) (by assumption) ?_; rotate_left; (intro VV hSw; (try dsimp only at hSw); have kc := HKC.out VV hSw; go_simp; first | done | with_reducible rfl); (try simp only [Act.put, sI, sZ, sS])
    refine wpAnyH_take (i := 7) (oi := ⟨some 24, _, _, _, _, _⟩) (v := ?_) rfl (by kernel_rfl) (by kernel_rfl) (by kernel_rfl) (fun _ _ _ h => h) (Or.inl ⟨by kernel_rfl, ?_⟩) (by assumption) ?_; rotate_left; (intro VV hSw; (try dsimp only at hSw); go_simp; first | done | with_reducible rfl); (try simp only [Act.put, sI, sZ, sS])
    refine wpAnyH_take (i := 8) (oi := ⟨some 25, _, _, _, _, _⟩) (v := ?_) rfl (by kernel_rfl) (by kernel_rfl) (by kernel_rfl) (fun _ _ _ h => h) (Or.inl ⟨by kernel_rfl, ?_⟩) (by assumption) ?_; rotate_left; (intro VV hSw; (try dsimp only at hSw); have hr := (hSw.block _ (heap_lt HG1W4.out)).trans HG1W4.out; have y2 : VV.cell? ⟨W.heap.size + 1, 2, none⟩ = some (.string s) := cell_of_row (i := 2) hr rfl; go_simp; first | done | with_reducible rfl); (try simp only [Act.put, sI, sZ, sS])
    refine wpAnyH_take (i := 9) (oi := ⟨some 26, _, _, _, _, _⟩) (v := ?_) rfl (by kernel_rfl) (by kernel_rfl) (by kernel_rfl) (fun _ _ _ h => h) (Or.inl ⟨by kernel_rfl, ?_⟩) (by assumption) ?_; rotate_left; (intro VV hSw; (try dsimp only at hSw); go_simp; first | done | with_reducible rfl); (try simp only [Act.put, sI, sZ, sS])
    refine wpAnyH_take (i := 10) (oi := ⟨some 27, _, _, _, _, _⟩) (v := ?_) rfl (by kernel_rfl) (by kernel_rfl) (by kernel_rfl) (fun _ _ _ h => h) (Or.inl ⟨by kernel_rfl, ?_⟩) (by assumption) ?_; rotate_left; (intro VV hSw; (try dsimp only at hSw); go_simp; first | done | with_reducible rfl); (try simp only [Act.put, sI, sZ, sS])
    refine wpAnyH_take (i := 11) (oi := ⟨some 4, _, _, _, _, _⟩) (v := ?_) rfl (by kernel_rfl) (by kernel_rfl) (by kernel_rfl) (fun _ _ _ h => h) (Or.inl ⟨by kernel_rfl, ?_⟩) (by assumption) ?_; rotate_left; (intro VV hSw; (try dsimp only at hSw); go_simp; first | done | with_reducible rfl); (try simp only [Act.put, sI, sZ, sS])
    refine wpAnyH_done (by kernel_rfl) ?_ _
    have HFIN := Lib.hid (HBW4.out.trans (hS.mono HBW4.out.size))
    go_wp2_with fail
    go_ret
    exact ⟨ret_bool HPO.out.symm, HFIN.out⟩
set_option maxHeartbeats 8000000 in
set_option maxRecDepth 100000 in
theorem cmpT_any (n0 : Nat) (w0 : World) (l : List Bd) (gv gp gm : Nat) (k n : Int) (s t : ByteArray) (a b : Tm) (v : Value) (W : World) (hU : Und n0 w0 l gv gp gm W) (hM : mayL l = true) (hW : WTab11 W) (gua : guaB a = true) (na : a.nodes ≤ 100000) (gub : guaB b = true) (nb : b.nodes ≤ 100000) (hT : TmAt (· < W.heap.size) W (.mk k n s t [a, b]) v) :
    Calls Tryz.prog 162 #[.agg #[vf11 gv gp], v] W fun e w' => e = .returned (.bool (cmpT l s a b)) ∧ Below W.heap.size W w' := by
  obtain ⟨A, cap, rfl, hR, -⟩ := hT.parts
  obtain ⟨ad, u0, rfl, had, hE0, hT0⟩ := hR.at_ 0 a rfl
  obtain ⟨ak0, an0, as0, at0, al0, hx0⟩ : ∃ k n s t l, a = Tm.mk k n s t l := by cases a; exact ⟨_, _, _, _, _, rfl⟩
  have hq0 := hT0
  rw [hx0] at hq0
  obtain ⟨aA0, ac0, rfl, -⟩ := hq0.parts
  obtain ⟨am0, hm0⟩ : ∃ m, m = al0.length := ⟨_, rfl⟩
  rw [← hm0] at hE0 hT0
  obtain ⟨ad1, u1, hA1, -, hE1, hT1⟩ := hR.at_ 1 b rfl
  obtain rfl : ad = ad1 := Option.some.inj hA1
  obtain ⟨ak1, an1, as1, at1, al1, hx1⟩ : ∃ k n s t l, b = Tm.mk k n s t l := by cases b; exact ⟨_, _, _, _, _, rfl⟩
  have hq1 := hT1
  rw [hx1] at hq1
  obtain ⟨aA1, ac1, rfl, -⟩ := hq1.parts
  obtain ⟨am1, hm1⟩ : ∃ m, m = al1.length := ⟨_, rfl⟩
  rw [← hm1] at hE1 hT1
  obtain ⟨pl, hpl⟩ : ∃ pl, pl = List.length (α := Tm) [a, b] := ⟨_, rfl⟩
  rw [← hpl]
  have g0 := there_of (.cells #[.int .i8 k, .int .i64 n, .string s, .string t, .slice (some ad) pl cap] 25) (block_alloc W (.cells #[.func (.func 160) #[] #[.pointer (some ⟨gv, 0, none⟩), .pointer (some ⟨gp, 0, none⟩)]] 137))
  have g1 := block_alloc (W.alloc (.cells #[.func (.func 160) #[] #[.pointer (some ⟨gv, 0, none⟩), .pointer (some ⟨gp, 0, none⟩)]] 137)) (.cells #[.int .i8 k, .int .i64 n, .string s, .string t, .slice (some ad) pl cap] 25)
  rw [World.size_alloc] at g1
  have b2 : Below W.heap.size W ((W.alloc (.cells #[.func (.func 160) #[] #[.pointer (some ⟨gv, 0, none⟩), .pointer (some ⟨gp, 0, none⟩)]] 137)).alloc (.cells #[.int .i8 k, .int .i64 n, .string s, .string t, .slice (some ad) pl cap] 25)) := ((Below.refl _ W).alloc (Nat.le_refl _) _).alloc (by simp) _
  obtain ⟨W2, hW2⟩ : ∃ W2, W2 = (W.alloc (.cells #[.func (.func 160) #[] #[.pointer (some ⟨gv, 0, none⟩), .pointer (some ⟨gp, 0, none⟩)]] 137)).alloc (.cells #[.int .i8 k, .int .i64 n, .string s, .string t, .slice (some ad) pl cap] 25) := ⟨_, rfl⟩
  rw [← hW2] at g0 g1 b2
  have HBW2 := Lib.hid b2
  have HG0W2 := Lib.hid g0
  have HG1W2 := Lib.hid g1
  have HU := Lib.hid (hU.under b2)
  have HM := Lib.hid hM
  have HW := Lib.hid hW
  have HT0 := Lib.hid hT0
  have HE0 : Hid (∀ V, Below W.heap.size W V → V.cell? ad = some (.int .i8 ak0) ∧ V.cell? ⟨ad.block, ad.off + 1, none⟩ = some (.int .i64 an0) ∧ V.cell? ⟨ad.block, ad.off + 2, none⟩ = some (.string as0) ∧ V.cell? ⟨ad.block, ad.off + 3, none⟩ = some (.string at0) ∧ V.cell? ⟨ad.block, ad.off + 4, none⟩ = some (.slice aA0 am0 ac0)) := fun V hb => by
    obtain ⟨d0, d1, d2, d3, d4, he, e0, e1, e2, e3, e4⟩ := hE0.keep (hb.block _ had)
    simp only [Value.agg.injEq, Array.mk.injEq, List.cons.injEq, and_true] at he
    obtain ⟨rfl, rfl, rfl, rfl, rfl⟩ := he
    rw [show ad.add (0 * 5) = ad from rfl] at e0 e1 e2 e3 e4
    exact ⟨e0, e1, e2, e3, e4⟩
  have HT1 := Lib.hid hT1
  have HE1 : Hid (∀ V, Below W.heap.size W V → V.cell? ⟨ad.block, ad.off + 5, none⟩ = some (.int .i8 ak1) ∧ V.cell? ⟨ad.block, ad.off + 5 + 1, none⟩ = some (.int .i64 an1) ∧ V.cell? ⟨ad.block, ad.off + 5 + 2, none⟩ = some (.string as1) ∧ V.cell? ⟨ad.block, ad.off + 5 + 3, none⟩ = some (.string at1) ∧ V.cell? ⟨ad.block, ad.off + 5 + 4, none⟩ = some (.slice aA1 am1 ac1)) := fun V hb => by
    obtain ⟨d0, d1, d2, d3, d4, he, e0, e1, e2, e3, e4⟩ := hE1.keep (hb.block _ had)
    simp only [Value.agg.injEq, Array.mk.injEq, List.cons.injEq, and_true] at he
    obtain ⟨rfl, rfl, rfl, rfl, rfl⟩ := he
    rw [show ad.add (1 * 5) = ⟨ad.block, ad.off + 5, none⟩ by simp [Addr.add]] at e0 e1 e2 e3 e4
    exact ⟨e0, e1, e2, e3, e4⟩
  have HNW2 : Hid (n0 ≤ W2.heap.size) := Nat.le_trans hU.n0 (Nat.le_trans (by have := (hU.under b2).below.size; omega) (Nat.le_refl _))
  have HNPL : Hid (pl = 2) := by show _ = _; rw [hpl]; rfl
  clear hR hT hE0 hT0 hq0 hx0 hm0 hpl had hU hM hW b2 g0 g1 hA1 hE1 hT1 hq1 hx1 hm1
  unfold vf11
  go_enter Tryz.func162, Tryz.ntmps162
  go_upto_region 1 with fail
  rw [← hW2]
  clear hW2
  go_cut [5, 6] (fun p q wx => ∃ g9, p = .pointer (some ⟨g9, 0, none⟩) ∧ Hid (VR (gvT l a) n0 W2 wx g9 q))
  case first =>
    refine wp_region_held (S := fun V => Below W2.heap.size W2 V) (by kernel_rfl) ?_
    show wpAnyH _ _ _ _ _ _ _ _ W2.drew
    have hS : Below W2.heap.size W2 W2.drew := ⟨rfl, rfl, rfl, Nat.le_refl _, fun _ _ => rfl⟩
    generalize W2.drew = V0 at hS ⊢
    refine wpAnyH_take (i := 0) (oi := ⟨some 11, _, _, _, _, _⟩) (v := ?_) rfl (by kernel_rfl) (by kernel_rfl) (by kernel_rfl) (fun _ _ _ h => h) (Or.inl ⟨by kernel_rfl, ?_⟩) (by assumption) ?_; rotate_left; (intro VV hSw; (try dsimp only at hSw); go_simp; first | done | with_reducible rfl); (try simp only [Act.put, sI, sZ, sS])
    refine wpAnyH_take (i := 1) (oi := ⟨some 12, _, _, _, _, _⟩) (v := ?_) rfl (by kernel_rfl) (by kernel_rfl) (by kernel_rfl) (fun _ _ _ h => h) (Or.inl ⟨by kernel_rfl, ?_⟩) (by assumption) ?_; rotate_left; (intro VV hSw; (try dsimp only at hSw); have hr := (hSw.block _ (heap_lt HG0W2.out)).trans HG0W2.out; have x0 : VV.cell? ⟨W.heap.size, 0, none⟩ = some (.func (.func 160) #[] #[.pointer (some ⟨gv, 0, none⟩), .pointer (some ⟨gp, 0, none⟩)]) := cell_of_row (i := 0) hr rfl; go_simp; first | done | with_reducible rfl); (try simp only [Act.put, sI, sZ, sS])
    refine wpAnyH_take (i := 2) (oi := ⟨some 13, _, _, _, _, _⟩) (v := ?_) rfl (by kernel_rfl) (by kernel_rfl) (by kernel_rfl) (fun _ _ _ h => h) (Or.inl ⟨by kernel_rfl, ?_⟩) (by assumption) ?_; rotate_left; (intro VV hSw; (try dsimp only at hSw); go_simp; first | done | with_reducible rfl); (try simp only [Act.put, sI, sZ, sS])
    refine wpAnyH_take (i := 3) (oi := ⟨some 14, _, _, _, _, _⟩) (v := ?_) rfl (by kernel_rfl) (by kernel_rfl) (by kernel_rfl) (fun _ _ _ h => h) (Or.inl ⟨by kernel_rfl, ?_⟩) (by assumption) ?_; rotate_left; (intro VV hSw; (try dsimp only at hSw); have hr := (hSw.block _ (heap_lt HG1W2.out)).trans HG1W2.out; have y4 : VV.cell? ⟨W.heap.size + 1, 4, none⟩ = some (.slice (some ad) pl cap) := cell_of_row (i := 4) hr rfl; go_simp; first | done | with_reducible rfl); (try simp only [Act.put, sI, sZ, sS])
    refine wpAnyH_take (i := 4) (oi := ⟨some 15, _, _, _, _, _⟩) (v := ?_) rfl (by kernel_rfl) (by kernel_rfl) (by kernel_rfl) (fun _ _ _ h => h) (Or.inl ⟨by kernel_rfl, ?_⟩) (by assumption) ?_; rotate_left; (intro VV hSw; (try dsimp only at hSw); have hp0 := HNPL.out; have hp1 : (0 : Int) < (pl : Int) := (by omega); have hp3 : 0 < pl := (by omega); go_simp; first | done | with_reducible rfl); (try simp only [Act.put, sI, sZ, sS])
    refine wpAnyH_take (i := 5) (oi := ⟨some 16, _, _, _, _, _⟩) (v := ?_) rfl (by kernel_rfl) (by kernel_rfl) (by kernel_rfl) (fun _ _ _ h => h) (Or.inl ⟨by kernel_rfl, ?_⟩) (by assumption) ?_; rotate_left; (intro VV hSw; (try dsimp only at hSw); obtain ⟨e0, e1, e2, e3, e4⟩ := HE0.out VV (HBW2.out.trans (hSw.mono HBW2.out.size)); go_simp; first | done | with_reducible rfl); (try simp only [Act.put, sI, sZ, sS])
    refine wpAnyH_ready (rs := [6, 10]) (by kernel_rfl) (by simp) ?_
    refine AllReadyH.cons (o := ⟨some 17, _, _, _, _, _⟩) rfl (fun K hK => ?_) (AllReadyH.cons (o := ⟨some 5, _, _, _, _, _⟩) rfl (fun K hK => ?_) AllReadyH.nil)
    · rw [if_pos (by rfl)]
      go_simp
      refine (val_any n0 w0 l gv gp gm a gua na _ V0 (HU.out.under hS) (HT0.out.laterN (HBW2.out.trans (hS.mono HBW2.out.size)))).mono ?_
      rintro e V1 ⟨k9, n9, s9, t9, A9, m9, c9, ev, rfl, hv, hno0, b5⟩
      have hS1 := hS.trans (b5.mono hS.size)
      have zS := hS.size
      have hno : gvT l a = none → ∃ q, ev = .iface 69 (.pointer (some ⟨q, 0, none⟩)) := fun h => by obtain ⟨q, h1, _⟩ := hno0 h; exact ⟨q, h1⟩
      clear hno0
      refine hK.out _ _ hS1 (fun hSn => ?_)
      clear hK K hSn; (try simp only [Act.put, sI, sZ, sS])
      clear hS
      have hS := hS1
      clear hS1
      refine wpAnyH_take (i := 7) (oi := ⟨some 10, _, _, _, _, _⟩) (v := ?_) rfl (by kernel_rfl) (by kernel_rfl) (by kernel_rfl) (fun _ _ _ h => h) (Or.inl ⟨by kernel_rfl, ?_⟩) (by assumption) ?_; rotate_left; (intro VV hSw; (try dsimp only at hSw); go_simp; first | done | with_reducible rfl); (try simp only [Act.put, sI, sZ, sS])
      refine wpAnyH_take (i := 8) (oi := ⟨some 18, _, _, _, _, _⟩) (v := ?_) rfl (by kernel_rfl) (by kernel_rfl) (by kernel_rfl) (fun _ _ _ h => h) (Or.inl ⟨by kernel_rfl, ?_⟩) (by assumption) ?_; rotate_left; (intro VV hSw; (try dsimp only at hSw); go_simp; first | done | with_reducible rfl); (try simp only [Act.put, sI, sZ, sS])
      refine wpAnyH_take (i := 9) (oi := ⟨some 19, _, _, _, _, _⟩) (v := ?_) rfl (by kernel_rfl) (by kernel_rfl) (by kernel_rfl) (fun _ _ _ h => h) (Or.inl ⟨by kernel_rfl, ?_⟩) (by assumption) ?_; rotate_left; (intro VV hSw; (try dsimp only at hSw); go_simp; first | done | with_reducible rfl); (try simp only [Act.put, sI, sZ, sS])
      refine wpAnyH_ready (rs := [10]) (by kernel_rfl) (by simp) ?_
      refine AllReadyH.cons (o := ⟨some 5, _, _, _, _, _⟩) rfl (fun K hK => ?_) AllReadyH.nil
      · rw [if_pos (by rfl)]
        go_simp
        have hga := block_alloc V1 (.cells #[.int .i8 0, .int .i64 0, .string ⟨#[]⟩, .string ⟨#[]⟩, .slice none 0 0] 44)
        have hS1 := hS.alloc hS.size (.cells #[.int .i8 0, .int .i64 0, .string ⟨#[]⟩, .string ⟨#[]⟩, .slice none 0 0] 44)
        have hge : W2.heap.size ≤ V1.heap.size := hS.size
        have ba := Below.heap_alloc V1 (.cells #[.int .i8 0, .int .i64 0, .string ⟨#[]⟩, .string ⟨#[]⟩, .slice none 0 0] 44)
        have hv2 : ∀ y, gvT l a = some y → ev = .nilIface ∧ TmAt (fun b => (b < n0 ∨ (W2.heap.size ≤ b ∧ b < (V1.alloc (.cells #[.int .i8 0, .int .i64 0, .string ⟨#[]⟩, .string ⟨#[]⟩, .slice none 0 0] 44)).heap.size)) ∧ b ≠ V1.heap.size) (V1.alloc (.cells #[.int .i8 0, .int .i64 0, .string ⟨#[]⟩, .string ⟨#[]⟩, .slice none 0 0] 44)) y (.agg #[.int .i8 k9, .int .i64 n9, .string s9, .string t9, .slice A9 m9 c9]) := fun y hy => ⟨(hv y hy).1, (hv y hy).2.keep (fun q hq => ba q (by have := HNW2.out; have := hS.size; rcases hq with h | h <;> omega)) (fun q hq => by rw [World.size_alloc]; have := HNW2.out; have := hS.size; rcases hq with h | h; (exact ⟨.inl h, by omega⟩); (exact ⟨.inr ⟨by omega, by omega⟩, by omega⟩))⟩
        obtain ⟨ga, hgae⟩ : ∃ ga, ga = V1.heap.size := ⟨_, rfl⟩
        rw [← hgae] at hga hge hv2
        refine hK.out _ _ hS1 (fun hSn => ?_)
        clear hK K hSn; (try simp only [Act.put, sI, sZ, sS])
        rw [← hgae]
        generalize V1.alloc (.cells #[.int .i8 0, .int .i64 0, .string ⟨#[]⟩, .string ⟨#[]⟩, .slice none 0 0] 44) = V2 at hga hS1 hv2 ⊢
        clear hgae hS hv ba
        have hS := hS1
        have hv := hv2
        clear hS1 hv2
        obtain ⟨⟨z0, z1, z2, z3, z4⟩, zf0, zf1, zf2, zf3, zf4⟩ := five_fr hga
        obtain ⟨s5, m5⟩ := set_five (.int .i8 k9) (.int .i64 n9) (.string s9) (.string t9) (.slice A9 m9 c9) hga
        have hvr := Lib.hid (vr_of HNW2.out hS hga hge hv hno s5 m5)
        have hS9 := hvr.out.below
        refine wpAnyH_ready (rs := [11]) (by kernel_rfl) (by simp) ?_
        refine AllReadyH.cons (o := ⟨none, _, _, _, _, _⟩) rfl (fun K hK => ?_) AllReadyH.nil
        · rw [if_pos (by rfl)]
          go_simp
          refine hK.out _ _ hS9 (fun hSn => ?_)
          clear hK K hSn; (try simp only [Act.put, sI, sZ, sS])
          refine wpAnyH_take (i := 12) (oi := ⟨some 6, _, _, _, _, _⟩) (v := ?_) rfl (by kernel_rfl) (by kernel_rfl) (by kernel_rfl) (fun _ _ _ h => h) (Or.inl ⟨by kernel_rfl, ?_⟩) (by assumption) ?_; rotate_left; (intro VV hSw; (try dsimp only at hSw); go_simp; first | done | with_reducible rfl); (try simp only [Act.put, sI, sZ, sS])
          refine wpAnyH_done (by kernel_rfl) ?_ _
          clear z0 zf0 z1 zf1 z2 zf2 z3 zf3 z4 zf4
          go_wp2_with fail
          go_meet
          exact ⟨ga, rfl, hvr⟩
    · rw [if_pos (by rfl)]
      go_simp
      have hga := block_alloc V0 (.cells #[.int .i8 0, .int .i64 0, .string ⟨#[]⟩, .string ⟨#[]⟩, .slice none 0 0] 44)
      have hS1 := hS.alloc hS.size (.cells #[.int .i8 0, .int .i64 0, .string ⟨#[]⟩, .string ⟨#[]⟩, .slice none 0 0] 44)
      have hge : W2.heap.size ≤ V0.heap.size := hS.size
      obtain ⟨ga, hgae⟩ : ∃ ga, ga = V0.heap.size := ⟨_, rfl⟩
      rw [← hgae] at hga hge
      refine hK.out _ _ hS1 (fun hSn => ?_)
      clear hK K hSn; (try simp only [Act.put, sI, sZ, sS])
      rw [← hgae]
      generalize hV1 : V0.alloc (.cells #[.int .i8 0, .int .i64 0, .string ⟨#[]⟩, .string ⟨#[]⟩, .slice none 0 0] 44) = V1 at hga hS1 ⊢
      have hz1 : V1.heap.size = ga + 1 := by rw [← hV1, World.size_alloc, hgae]
      clear hgae hS hV1
      have hS := hS1
      clear hS1
      refine wpAnyH_ready (rs := [6]) (by kernel_rfl) (by simp) ?_
      refine AllReadyH.cons (o := ⟨some 17, _, _, _, _, _⟩) rfl (fun K hK => ?_) AllReadyH.nil
      · rw [if_pos (by rfl)]
        go_simp
        refine (val_any n0 w0 l gv gp gm a gua na _ V1 (HU.out.under hS) (HT0.out.laterN (HBW2.out.trans (hS.mono HBW2.out.size)))).mono ?_
        rintro e V2 ⟨k9, n9, s9, t9, A9, m9, c9, ev, rfl, hv, hno0, b5⟩
        have hS1 := hS.trans (b5.mono hS.size)
        have zS := hS.size
        have hno : gvT l a = none → ∃ q, ev = .iface 69 (.pointer (some ⟨q, 0, none⟩)) := fun h => by obtain ⟨q, h1, _⟩ := hno0 h; exact ⟨q, h1⟩
        clear hno0
        have hga2 := (b5.block _ (heap_lt hga)).trans hga
        have hv2 : ∀ y, gvT l a = some y → ev = .nilIface ∧ TmAt (fun b => (b < n0 ∨ (W2.heap.size ≤ b ∧ b < V2.heap.size)) ∧ b ≠ ga) V2 y (.agg #[.int .i8 k9, .int .i64 n9, .string s9, .string t9, .slice A9 m9 c9]) := fun y hy => ⟨(hv y hy).1, (hv y hy).2.mono (fun q hq => by have := HNW2.out; rcases hq with h | h; (exact ⟨.inl h, by omega⟩); (exact ⟨.inr ⟨by omega, by omega⟩, by omega⟩))⟩
        refine hK.out _ _ hS1 (fun hSn => ?_)
        clear hK K hSn; (try simp only [Act.put, sI, sZ, sS])
        clear hS
        have hS := hS1
        clear hS1
        refine wpAnyH_take (i := 7) (oi := ⟨some 10, _, _, _, _, _⟩) (v := ?_) rfl (by kernel_rfl) (by kernel_rfl) (by kernel_rfl) (fun _ _ _ h => h) (Or.inl ⟨by kernel_rfl, ?_⟩) (by assumption) ?_; rotate_left; (intro VV hSw; (try dsimp only at hSw); go_simp; first | done | with_reducible rfl); (try simp only [Act.put, sI, sZ, sS])
        refine wpAnyH_take (i := 8) (oi := ⟨some 18, _, _, _, _, _⟩) (v := ?_) rfl (by kernel_rfl) (by kernel_rfl) (by kernel_rfl) (fun _ _ _ h => h) (Or.inl ⟨by kernel_rfl, ?_⟩) (by assumption) ?_; rotate_left; (intro VV hSw; (try dsimp only at hSw); go_simp; first | done | with_reducible rfl); (try simp only [Act.put, sI, sZ, sS])
        refine wpAnyH_take (i := 9) (oi := ⟨some 19, _, _, _, _, _⟩) (v := ?_) rfl (by kernel_rfl) (by kernel_rfl) (by kernel_rfl) (fun _ _ _ h => h) (Or.inl ⟨by kernel_rfl, ?_⟩) (by assumption) ?_; rotate_left; (intro VV hSw; (try dsimp only at hSw); go_simp; first | done | with_reducible rfl); (try simp only [Act.put, sI, sZ, sS])
        clear hga hv
        have hga := hga2
        have hv := hv2
        clear hga2 hv2
        obtain ⟨⟨z0, z1, z2, z3, z4⟩, zf0, zf1, zf2, zf3, zf4⟩ := five_fr hga
        obtain ⟨s5, m5⟩ := set_five (.int .i8 k9) (.int .i64 n9) (.string s9) (.string t9) (.slice A9 m9 c9) hga
        have hvr := Lib.hid (vr_of HNW2.out hS hga hge hv hno s5 m5)
        have hS9 := hvr.out.below
        refine wpAnyH_ready (rs := [11]) (by kernel_rfl) (by simp) ?_
        refine AllReadyH.cons (o := ⟨none, _, _, _, _, _⟩) rfl (fun K hK => ?_) AllReadyH.nil
        · rw [if_pos (by rfl)]
          go_simp
          refine hK.out _ _ hS9 (fun hSn => ?_)
          clear hK K hSn; (try simp only [Act.put, sI, sZ, sS])
          refine wpAnyH_take (i := 12) (oi := ⟨some 6, _, _, _, _, _⟩) (v := ?_) rfl (by kernel_rfl) (by kernel_rfl) (by kernel_rfl) (fun _ _ _ h => h) (Or.inl ⟨by kernel_rfl, ?_⟩) (by assumption) ?_; rotate_left; (intro VV hSw; (try dsimp only at hSw); go_simp; first | done | with_reducible rfl); (try simp only [Act.put, sI, sZ, sS])
          refine wpAnyH_done (by kernel_rfl) ?_ _
          clear z0 zf0 z1 zf1 z2 zf2 z3 zf3 z4 zf4
          go_wp2_with fail
          go_meet
          exact ⟨ga, rfl, hvr⟩
  case rest =>
  obtain ⟨g4, rfl, hcut⟩ := hcut
  obtain ⟨W4, hW4⟩ : ∃ w, w = wc := ⟨_, rfl⟩
  subst hW4
  have HBW4 := Lib.hid (HBW2.out.trans (hcut.out.below.mono HBW2.out.size))
  have HB24 := Lib.hid hcut.out.below
  have HG0W4 := Lib.hid ((hcut.out.below.block _ (heap_lt HG0W2.out)).trans HG0W2.out)
  have HG1W4 := Lib.hid ((hcut.out.below.block _ (heap_lt HG1W2.out)).trans HG1W2.out)
  obtain ⟨k9, n9, s9, t9, A9, m9, c9, r4, hv⟩ := hcut.out.at_
  have hno := hcut.out.no
  clear hcut
  cases hgv : gvT l a with
  | none =>
    have HPO : Hid (cmpT l s a b = false) := by show _ = _; unfold cmpT; rw [hgv]
    obtain ⟨q, rfl⟩ := hno hgv
    clear hv hno hgv
    go_wp2_with fail
    go_ret
    exact ⟨ret_bool HPO.out.symm, HBW4.out⟩
  | some y =>
    obtain ⟨rfl, hy⟩ := hv y hgv
    have HY := Lib.hid hy
    have HR4 := Lib.hid r4
    have HGV := Lib.hid hgv
    have HNW4 : Hid (n0 ≤ W4.heap.size) := Nat.le_trans HNW2.out HB24.out.size
    have HU4 := Lib.hid (HU.out.under HB24.out)
    clear hv hno hgv hy r4
    go_upto_region 4 with fail
    go_cut [7, 6] (fun p q wx => ∃ g9, p = .pointer (some ⟨g9, 0, none⟩) ∧ Hid (VR (gvT l b) n0 W4 wx g9 q))
    case first =>
      refine wp_region_held (S := fun V => Below W4.heap.size W4 V) (by kernel_rfl) ?_
      show wpAnyH _ _ _ _ _ _ _ _ W4.drew
      have hS : Below W4.heap.size W4 W4.drew := ⟨rfl, rfl, rfl, Nat.le_refl _, fun _ _ => rfl⟩
      generalize W4.drew = V0 at hS ⊢
      refine wpAnyH_take (i := 0) (oi := ⟨some 23, _, _, _, _, _⟩) (v := ?_) rfl (by kernel_rfl) (by kernel_rfl) (by kernel_rfl) (fun _ _ _ h => h) (Or.inl ⟨by kernel_rfl, ?_⟩) (by assumption) ?_; rotate_left; (intro VV hSw; (try dsimp only at hSw); go_simp; first | done | with_reducible rfl); (try simp only [Act.put, sI, sZ, sS])
      refine wpAnyH_take (i := 1) (oi := ⟨some 24, _, _, _, _, _⟩) (v := ?_) rfl (by kernel_rfl) (by kernel_rfl) (by kernel_rfl) (fun _ _ _ h => h) (Or.inl ⟨by kernel_rfl, ?_⟩) (by assumption) ?_; rotate_left; (intro VV hSw; (try dsimp only at hSw); have hr := (hSw.block _ (heap_lt HG0W4.out)).trans HG0W4.out; have x0 : VV.cell? ⟨W.heap.size, 0, none⟩ = some (.func (.func 160) #[] #[.pointer (some ⟨gv, 0, none⟩), .pointer (some ⟨gp, 0, none⟩)]) := cell_of_row (i := 0) hr rfl; go_simp; first | done | with_reducible rfl); (try simp only [Act.put, sI, sZ, sS])
      refine wpAnyH_take (i := 2) (oi := ⟨some 25, _, _, _, _, _⟩) (v := ?_) rfl (by kernel_rfl) (by kernel_rfl) (by kernel_rfl) (fun _ _ _ h => h) (Or.inl ⟨by kernel_rfl, ?_⟩) (by assumption) ?_; rotate_left; (intro VV hSw; (try dsimp only at hSw); go_simp; first | done | with_reducible rfl); (try simp only [Act.put, sI, sZ, sS])
      refine wpAnyH_take (i := 3) (oi := ⟨some 26, _, _, _, _, _⟩) (v := ?_) rfl (by kernel_rfl) (by kernel_rfl) (by kernel_rfl) (fun _ _ _ h => h) (Or.inl ⟨by kernel_rfl, ?_⟩) (by assumption) ?_; rotate_left; (intro VV hSw; (try dsimp only at hSw); have hr := (hSw.block _ (heap_lt HG1W4.out)).trans HG1W4.out; have y4 : VV.cell? ⟨W.heap.size + 1, 4, none⟩ = some (.slice (some ad) pl cap) := cell_of_row (i := 4) hr rfl; go_simp; first | done | with_reducible rfl); (try simp only [Act.put, sI, sZ, sS])
      refine wpAnyH_take (i := 4) (oi := ⟨some 27, _, _, _, _, _⟩) (v := ?_) rfl (by kernel_rfl) (by kernel_rfl) (by kernel_rfl) (fun _ _ _ h => h) (Or.inl ⟨by kernel_rfl, ?_⟩) (by assumption) ?_; rotate_left; (intro VV hSw; (try dsimp only at hSw); have hp0 := HNPL.out; have hp1 : (1 : Int) < (pl : Int) := (by omega); have hp3 : 1 < pl := (by omega); go_simp; first | done | with_reducible rfl); (try simp only [Act.put, sI, sZ, sS])
      refine wpAnyH_take (i := 5) (oi := ⟨some 28, _, _, _, _, _⟩) (v := ?_) rfl (by kernel_rfl) (by kernel_rfl) (by kernel_rfl) (fun _ _ _ h => h) (Or.inl ⟨by kernel_rfl, ?_⟩) (by assumption) ?_; rotate_left; (intro VV hSw; (try dsimp only at hSw); obtain ⟨e0, e1, e2, e3, e4⟩ := HE1.out VV (HBW4.out.trans (hSw.mono HBW4.out.size)); go_simp; first | done | with_reducible rfl); (try simp only [Act.put, sI, sZ, sS])
      refine wpAnyH_ready (rs := [6, 10]) (by kernel_rfl) (by simp) ?_
      refine AllReadyH.cons (o := ⟨some 29, _, _, _, _, _⟩) rfl (fun K hK => ?_) (AllReadyH.cons (o := ⟨some 7, _, _, _, _, _⟩) rfl (fun K hK => ?_) AllReadyH.nil)
      · rw [if_pos (by rfl)]
        go_simp
        refine (val_any n0 w0 l gv gp gm b gub nb _ V0 (HU4.out.under hS) (HT1.out.laterN (HBW4.out.trans (hS.mono HBW4.out.size)))).mono ?_
        rintro e V1 ⟨k9, n9, s9, t9, A9, m9, c9, ev, rfl, hv, hno0, b5⟩
        have hS1 := hS.trans (b5.mono hS.size)
        have zS := hS.size
        have hno : gvT l b = none → ∃ q, ev = .iface 69 (.pointer (some ⟨q, 0, none⟩)) := fun h => by obtain ⟨q, h1, _⟩ := hno0 h; exact ⟨q, h1⟩
        clear hno0
        refine hK.out _ _ hS1 (fun hSn => ?_)
        clear hK K hSn; (try simp only [Act.put, sI, sZ, sS])
        clear hS
        have hS := hS1
        clear hS1
        refine wpAnyH_take (i := 7) (oi := ⟨some 22, _, _, _, _, _⟩) (v := ?_) rfl (by kernel_rfl) (by kernel_rfl) (by kernel_rfl) (fun _ _ _ h => h) (Or.inl ⟨by kernel_rfl, ?_⟩) (by assumption) ?_; rotate_left; (intro VV hSw; (try dsimp only at hSw); go_simp; first | done | with_reducible rfl); (try simp only [Act.put, sI, sZ, sS])
        refine wpAnyH_take (i := 8) (oi := ⟨some 30, _, _, _, _, _⟩) (v := ?_) rfl (by kernel_rfl) (by kernel_rfl) (by kernel_rfl) (fun _ _ _ h => h) (Or.inl ⟨by kernel_rfl, ?_⟩) (by assumption) ?_; rotate_left; (intro VV hSw; (try dsimp only at hSw); go_simp; first | done | with_reducible rfl); (try simp only [Act.put, sI, sZ, sS])
        refine wpAnyH_take (i := 9) (oi := ⟨some 31, _, _, _, _, _⟩) (v := ?_) rfl (by kernel_rfl) (by kernel_rfl) (by kernel_rfl) (fun _ _ _ h => h) (Or.inl ⟨by kernel_rfl, ?_⟩) (by assumption) ?_; rotate_left; (intro VV hSw; (try dsimp only at hSw); go_simp; first | done | with_reducible rfl); (try simp only [Act.put, sI, sZ, sS])
        refine wpAnyH_ready (rs := [10]) (by kernel_rfl) (by simp) ?_
        refine AllReadyH.cons (o := ⟨some 7, _, _, _, _, _⟩) rfl (fun K hK => ?_) AllReadyH.nil
        · rw [if_pos (by rfl)]
          go_simp
          have hga := block_alloc V1 (.cells #[.int .i8 0, .int .i64 0, .string ⟨#[]⟩, .string ⟨#[]⟩, .slice none 0 0] 44)
          have hS1 := hS.alloc hS.size (.cells #[.int .i8 0, .int .i64 0, .string ⟨#[]⟩, .string ⟨#[]⟩, .slice none 0 0] 44)
          have hge : W4.heap.size ≤ V1.heap.size := hS.size
          have ba := Below.heap_alloc V1 (.cells #[.int .i8 0, .int .i64 0, .string ⟨#[]⟩, .string ⟨#[]⟩, .slice none 0 0] 44)
          have hv2 : ∀ y, gvT l b = some y → ev = .nilIface ∧ TmAt (fun b => (b < n0 ∨ (W4.heap.size ≤ b ∧ b < (V1.alloc (.cells #[.int .i8 0, .int .i64 0, .string ⟨#[]⟩, .string ⟨#[]⟩, .slice none 0 0] 44)).heap.size)) ∧ b ≠ V1.heap.size) (V1.alloc (.cells #[.int .i8 0, .int .i64 0, .string ⟨#[]⟩, .string ⟨#[]⟩, .slice none 0 0] 44)) y (.agg #[.int .i8 k9, .int .i64 n9, .string s9, .string t9, .slice A9 m9 c9]) := fun y hy => ⟨(hv y hy).1, (hv y hy).2.keep (fun q hq => ba q (by have := HNW4.out; have := hS.size; rcases hq with h | h <;> omega)) (fun q hq => by rw [World.size_alloc]; have := HNW4.out; have := hS.size; rcases hq with h | h; (exact ⟨.inl h, by omega⟩); (exact ⟨.inr ⟨by omega, by omega⟩, by omega⟩))⟩
          obtain ⟨ga, hgae⟩ : ∃ ga, ga = V1.heap.size := ⟨_, rfl⟩
          rw [← hgae] at hga hge hv2
          refine hK.out _ _ hS1 (fun hSn => ?_)
          clear hK K hSn; (try simp only [Act.put, sI, sZ, sS])
          rw [← hgae]
          generalize V1.alloc (.cells #[.int .i8 0, .int .i64 0, .string ⟨#[]⟩, .string ⟨#[]⟩, .slice none 0 0] 44) = V2 at hga hS1 hv2 ⊢
          clear hgae hS hv ba
          have hS := hS1
          have hv := hv2
          clear hS1 hv2
          obtain ⟨⟨z0, z1, z2, z3, z4⟩, zf0, zf1, zf2, zf3, zf4⟩ := five_fr hga
          obtain ⟨s5, m5⟩ := set_five (.int .i8 k9) (.int .i64 n9) (.string s9) (.string t9) (.slice A9 m9 c9) hga
          have hvr := Lib.hid (vr_of HNW4.out hS hga hge hv hno s5 m5)
          have hS9 := hvr.out.below
          refine wpAnyH_ready (rs := [11]) (by kernel_rfl) (by simp) ?_
          refine AllReadyH.cons (o := ⟨none, _, _, _, _, _⟩) rfl (fun K hK => ?_) AllReadyH.nil
          · rw [if_pos (by rfl)]
            go_simp
            refine hK.out _ _ hS9 (fun hSn => ?_)
            clear hK K hSn; (try simp only [Act.put, sI, sZ, sS])
            refine wpAnyH_take (i := 12) (oi := ⟨some 6, _, _, _, _, _⟩) (v := ?_) rfl (by kernel_rfl) (by kernel_rfl) (by kernel_rfl) (fun _ _ _ h => h) (Or.inl ⟨by kernel_rfl, ?_⟩) (by assumption) ?_; rotate_left; (intro VV hSw; (try dsimp only at hSw); go_simp; first | done | with_reducible rfl); (try simp only [Act.put, sI, sZ, sS])
            refine wpAnyH_done (by kernel_rfl) ?_ _
            clear z0 zf0 z1 zf1 z2 zf2 z3 zf3 z4 zf4
            go_wp2_with fail
            go_meet
            exact ⟨ga, rfl, hvr⟩
      · rw [if_pos (by rfl)]
        go_simp
        have hga := block_alloc V0 (.cells #[.int .i8 0, .int .i64 0, .string ⟨#[]⟩, .string ⟨#[]⟩, .slice none 0 0] 44)
        have hS1 := hS.alloc hS.size (.cells #[.int .i8 0, .int .i64 0, .string ⟨#[]⟩, .string ⟨#[]⟩, .slice none 0 0] 44)
        have hge : W4.heap.size ≤ V0.heap.size := hS.size
        obtain ⟨ga, hgae⟩ : ∃ ga, ga = V0.heap.size := ⟨_, rfl⟩
        rw [← hgae] at hga hge
        refine hK.out _ _ hS1 (fun hSn => ?_)
        clear hK K hSn; (try simp only [Act.put, sI, sZ, sS])
        rw [← hgae]
        generalize hV1 : V0.alloc (.cells #[.int .i8 0, .int .i64 0, .string ⟨#[]⟩, .string ⟨#[]⟩, .slice none 0 0] 44) = V1 at hga hS1 ⊢
        have hz1 : V1.heap.size = ga + 1 := by rw [← hV1, World.size_alloc, hgae]
        clear hgae hS hV1
        have hS := hS1
        clear hS1
        refine wpAnyH_ready (rs := [6]) (by kernel_rfl) (by simp) ?_
        refine AllReadyH.cons (o := ⟨some 29, _, _, _, _, _⟩) rfl (fun K hK => ?_) AllReadyH.nil
        · rw [if_pos (by rfl)]
          go_simp
          refine (val_any n0 w0 l gv gp gm b gub nb _ V1 (HU4.out.under hS) (HT1.out.laterN (HBW4.out.trans (hS.mono HBW4.out.size)))).mono ?_
          rintro e V2 ⟨k9, n9, s9, t9, A9, m9, c9, ev, rfl, hv, hno0, b5⟩
          have hS1 := hS.trans (b5.mono hS.size)
          have zS := hS.size
          have hno : gvT l b = none → ∃ q, ev = .iface 69 (.pointer (some ⟨q, 0, none⟩)) := fun h => by obtain ⟨q, h1, _⟩ := hno0 h; exact ⟨q, h1⟩
          clear hno0
          have hga2 := (b5.block _ (heap_lt hga)).trans hga
          have hv2 : ∀ y, gvT l b = some y → ev = .nilIface ∧ TmAt (fun b => (b < n0 ∨ (W4.heap.size ≤ b ∧ b < V2.heap.size)) ∧ b ≠ ga) V2 y (.agg #[.int .i8 k9, .int .i64 n9, .string s9, .string t9, .slice A9 m9 c9]) := fun y hy => ⟨(hv y hy).1, (hv y hy).2.mono (fun q hq => by have := HNW4.out; rcases hq with h | h; (exact ⟨.inl h, by omega⟩); (exact ⟨.inr ⟨by omega, by omega⟩, by omega⟩))⟩
          refine hK.out _ _ hS1 (fun hSn => ?_)
          clear hK K hSn; (try simp only [Act.put, sI, sZ, sS])
          clear hS
          have hS := hS1
          clear hS1
          refine wpAnyH_take (i := 7) (oi := ⟨some 22, _, _, _, _, _⟩) (v := ?_) rfl (by kernel_rfl) (by kernel_rfl) (by kernel_rfl) (fun _ _ _ h => h) (Or.inl ⟨by kernel_rfl, ?_⟩) (by assumption) ?_; rotate_left; (intro VV hSw; (try dsimp only at hSw); go_simp; first | done | with_reducible rfl); (try simp only [Act.put, sI, sZ, sS])
          refine wpAnyH_take (i := 8) (oi := ⟨some 30, _, _, _, _, _⟩) (v := ?_) rfl (by kernel_rfl) (by kernel_rfl) (by kernel_rfl) (fun _ _ _ h => h) (Or.inl ⟨by kernel_rfl, ?_⟩) (by assumption) ?_; rotate_left; (intro VV hSw; (try dsimp only at hSw); go_simp; first | done | with_reducible rfl); (try simp only [Act.put, sI, sZ, sS])
          refine wpAnyH_take (i := 9) (oi := ⟨some 31, _, _, _, _, _⟩) (v := ?_) rfl (by kernel_rfl) (by kernel_rfl) (by kernel_rfl) (fun _ _ _ h => h) (Or.inl ⟨by kernel_rfl, ?_⟩) (by assumption) ?_; rotate_left; (intro VV hSw; (try dsimp only at hSw); go_simp; first | done | with_reducible rfl); (try simp only [Act.put, sI, sZ, sS])
          clear hga hv
          have hga := hga2
          have hv := hv2
          clear hga2 hv2
          obtain ⟨⟨z0, z1, z2, z3, z4⟩, zf0, zf1, zf2, zf3, zf4⟩ := five_fr hga
          obtain ⟨s5, m5⟩ := set_five (.int .i8 k9) (.int .i64 n9) (.string s9) (.string t9) (.slice A9 m9 c9) hga
          have hvr := Lib.hid (vr_of HNW4.out hS hga hge hv hno s5 m5)
          have hS9 := hvr.out.below
          refine wpAnyH_ready (rs := [11]) (by kernel_rfl) (by simp) ?_
          refine AllReadyH.cons (o := ⟨none, _, _, _, _, _⟩) rfl (fun K hK => ?_) AllReadyH.nil
          · rw [if_pos (by rfl)]
            go_simp
            refine hK.out _ _ hS9 (fun hSn => ?_)
            clear hK K hSn; (try simp only [Act.put, sI, sZ, sS])
            refine wpAnyH_take (i := 12) (oi := ⟨some 6, _, _, _, _, _⟩) (v := ?_) rfl (by kernel_rfl) (by kernel_rfl) (by kernel_rfl) (fun _ _ _ h => h) (Or.inl ⟨by kernel_rfl, ?_⟩) (by assumption) ?_; rotate_left; (intro VV hSw; (try dsimp only at hSw); go_simp; first | done | with_reducible rfl); (try simp only [Act.put, sI, sZ, sS])
            refine wpAnyH_done (by kernel_rfl) ?_ _
            clear z0 zf0 z1 zf1 z2 zf2 z3 zf3 z4 zf4
            go_wp2_with fail
            go_meet
            exact ⟨ga, rfl, hvr⟩
    case rest =>
    obtain ⟨g6, rfl, hcut⟩ := hcut
    obtain ⟨W6, hW4⟩ : ∃ w, w = wc := ⟨_, rfl⟩
    subst hW4
    have HBW6 := Lib.hid (HBW4.out.trans (hcut.out.below.mono HBW4.out.size))
    have HB46 := Lib.hid hcut.out.below
    have HG0W6 := Lib.hid ((hcut.out.below.block _ (heap_lt HG0W4.out)).trans HG0W4.out)
    have HG1W6 := Lib.hid ((hcut.out.below.block _ (heap_lt HG1W4.out)).trans HG1W4.out)
    obtain ⟨k8, n8, s8, t8, A8, m8, c8, r6, hv⟩ := hcut.out.at_
    have hno := hcut.out.no
    clear hcut
    cases hgv : gvT l b with
    | none =>
      have HPO : Hid (cmpT l s a b = false) := by show _ = _; unfold cmpT; rw [HGV.out, hgv]
      obtain ⟨q, rfl⟩ := hno hgv
      clear hv hno hgv
      go_wp2_with fail
      go_ret
      exact ⟨ret_bool HPO.out.symm, HBW6.out⟩
    | some z =>
      obtain ⟨rfl, hz⟩ := hv z hgv
      have HPO : Hid (cmpT l s a b = (cmpR s (compN y z)).1) := by show _ = _; unfold cmpT; rw [HGV.out, hgv]
      have HZ := Lib.hid hz
      have HR6 := Lib.hid r6
      have HR46 := Lib.hid ((HB46.out.block _ (heap_lt HR4.out)).trans HR4.out)
      have hyW : TmAt (· < W6.heap.size) W6 y (.agg #[.int .i8 k9, .int .i64 n9, .string s9, .string t9, .slice A9 m9 c9]) := HY.out.keep (fun q hq => HB46.out.block q (by have := HNW4.out; rcases hq with h | h <;> omega)) (fun q hq => by show q < _; have := HNW4.out; have := HB46.out.size; rcases hq with h | h <;> omega)
      have hzW : TmAt (· < W6.heap.size) W6 z (.agg #[.int .i8 k8, .int .i64 n8, .string s8, .string t8, .slice A8 m8 c8]) := HZ.out.keep (fun q hq => rfl) (fun q hq => by show q < _; have := HNW4.out; have := HB46.out.size; rcases hq with h | h <;> omega)
      have HYW := Lib.hid hyW
      have HZW := Lib.hid hzW
      have HU6 := Lib.hid (HU4.out.under HB46.out)
      clear hv hno hgv hz r6 hyW hzW
      go_upto_region 7 with fail
      refine wp_region_held (S := fun V => Below W6.heap.size W6 V) (by kernel_rfl) ?_
      show wpAnyH _ _ _ _ _ _ _ _ W6.drew
      have hS : Below W6.heap.size W6 W6.drew := ⟨rfl, rfl, rfl, Nat.le_refl _, fun _ _ => rfl⟩
      generalize W6.drew = V0 at hS ⊢
      refine wpAnyH_take (i := 0) (oi := ⟨some 35, _, _, _, _, _⟩) (v := ?_) rfl (by kernel_rfl) (by kernel_rfl) (by kernel_rfl) (fun _ _ _ h => h) (Or.inl ⟨by kernel_rfl, ?_⟩) (by assumption) ?_; rotate_left; (intro VV hSw; (try dsimp only at hSw); go_simp; first | done | with_reducible rfl); (try simp only [Act.put, sI, sZ, sS])
      refine wpAnyH_take (i := 1) (oi := ⟨some 36, _, _, _, _, _⟩) (v := ?_) rfl (by kernel_rfl) (by kernel_rfl) (by kernel_rfl) (fun _ _ _ h => h) (Or.inl ⟨by kernel_rfl, ?_⟩) (by assumption) ?_; rotate_left; (intro VV hSw; (try dsimp only at hSw); have hr := (hSw.block _ (heap_lt HG1W6.out)).trans HG1W6.out; have y2 : VV.cell? ⟨W.heap.size + 1, 2, none⟩ = some (.string s) := cell_of_row (i := 2) hr rfl; go_simp; first | done | with_reducible rfl); (try simp only [Act.put, sI, sZ, sS])
      refine wpAnyH_take (i := 2) (oi := ⟨some 37, _, _, _, _, _⟩) (v := ?_) rfl (by kernel_rfl) (by kernel_rfl) (by kernel_rfl) (fun _ _ _ h => h) (Or.inl ⟨by kernel_rfl, ?_⟩) (by assumption) ?_; rotate_left; (intro VV hSw; (try dsimp only at hSw); have hr := (hSw.block _ (heap_lt HR46.out)).trans HR46.out; obtain ⟨p0, p1, p2, p3, p4⟩ := five_of hr; go_simp; first | done | with_reducible rfl); (try simp only [Act.put, sI, sZ, sS])
      refine wpAnyH_take (i := 3) (oi := ⟨some 38, _, _, _, _, _⟩) (v := ?_) rfl (by kernel_rfl) (by kernel_rfl) (by kernel_rfl) (fun _ _ _ h => h) (Or.inl ⟨by kernel_rfl, ?_⟩) (by assumption) ?_; rotate_left; (intro VV hSw; (try dsimp only at hSw); have hr := (hSw.block _ (heap_lt HR6.out)).trans HR6.out; obtain ⟨p0, p1, p2, p3, p4⟩ := five_of hr; go_simp; first | done | with_reducible rfl); (try simp only [Act.put, sI, sZ, sS])
      refine wpAnyH_ready (rs := [4]) (by kernel_rfl) (by simp) ?_
      refine AllReadyH.cons (o := ⟨some 39, _, _, _, _, _⟩) rfl (fun K hK => ?_) AllReadyH.nil
      · rw [if_pos (by rfl)]
        go_simp
        refine (TCompare_any y z _ _ V0 (HYW.out.laterN hS) (HZW.out.laterN hS) (HU6.out.under hS).spans).mono ?_
        rintro e V1 ⟨rfl, b7⟩
        have hS1 := hS.trans (b7.mono hS.size)
        refine hK.out _ _ hS1 (fun hSn => ?_)
        clear hK K hSn; (try simp only [Act.put, sI, sZ, sS])
        refine wpAnyH_ready (rs := [5]) (by kernel_rfl) (by simp) ?_
        refine AllReadyH.cons (o := ⟨some 40, _, _, _, _, _⟩) rfl (fun K hK => ?_) AllReadyH.nil
        · rw [if_pos (by rfl)]
          go_simp
          refine (Compare_any s (compN y z) V1).mono ?_
          rintro e V2 ⟨rfl, b8⟩
          have hS2 := hS1.trans (b8.mono hS1.size)
          refine hK.out _ _ hS2 (fun hSn => ?_)
          clear hK K hSn; (try simp only [Act.put, sI, sZ, sS])
          refine wpAnyH_take (i := 6) (oi := ⟨some 34, _, _, _, _, _⟩) (v := ?_) rfl (by kernel_rfl) (by kernel_rfl) (by kernel_rfl) (fun _ _ _ h => h) (Or.inl ⟨by kernel_rfl, ?_⟩) (by assumption) ?_; rotate_left; (intro VV hSw; (try dsimp only at hSw); go_simp; first | done | with_reducible rfl); (try simp only [Act.put, sI, sZ, sS])
          refine wpAnyH_take (i := 7) (oi := ⟨some 41, _, _, _, _, _⟩) (v := ?_) rfl (by kernel_rfl) (by kernel_rfl) (by kernel_rfl) (fun _ _ _ h => h) (Or.inl ⟨by kernel_rfl, ?_⟩) (by assumption) ?_; rotate_left; (intro VV hSw; (try dsimp only at hSw); go_simp; first | done | with_reducible rfl); (try simp only [Act.put, sI, sZ, sS])
          refine wpAnyH_take (i := 8) (oi := ⟨some 42, _, _, _, _, _⟩) (v := ?_) rfl (by kernel_rfl) (by kernel_rfl) (by kernel_rfl) (fun _ _ _ h => h) (Or.inl ⟨by kernel_rfl, ?_⟩) (by assumption) ?_; rotate_left; (intro VV hSw; (try dsimp only at hSw); go_simp; first | done | with_reducible rfl); (try simp only [Act.put, sI, sZ, sS])
          refine wpAnyH_take (i := 9) (oi := ⟨some 8, _, _, _, _, _⟩) (v := ?_) rfl (by kernel_rfl) (by kernel_rfl) (by kernel_rfl) (fun _ _ _ h => h) (Or.inl ⟨by kernel_rfl, ?_⟩) (by assumption) ?_; rotate_left; (intro VV hSw; (try dsimp only at hSw); go_simp; first | done | with_reducible rfl); (try simp only [Act.put, sI, sZ, sS])
          refine wpAnyH_take (i := 10) (oi := ⟨some 9, _, _, _, _, _⟩) (v := ?_) rfl (by kernel_rfl) (by kernel_rfl) (by kernel_rfl) (fun _ _ _ h => h) (Or.inl ⟨by kernel_rfl, ?_⟩) (by assumption) ?_; rotate_left; (intro VV hSw; (try dsimp only at hSw); go_simp; first | done | with_reducible rfl); (try simp only [Act.put, sI, sZ, sS])
          refine wpAnyH_done (by kernel_rfl) ?_ _
          have HFIN := Lib.hid (HBW6.out.trans (hS2.mono HBW6.out.size))
          go_wp2_with fail
          go_ret
          exact ⟨ret_bool HPO.out.symm, HFIN.out⟩
end Go.Proofs.YtkceoiaaiaomoaaGreatDoor
