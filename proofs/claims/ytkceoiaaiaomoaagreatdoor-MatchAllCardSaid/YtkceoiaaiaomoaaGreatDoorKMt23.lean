/- Layer 10: the document's own fill. -/
import Derived.Test.YtkceoiaaiaomoaaGreatDoorKMt19
import Derived.Test.YtkceoiaaiaomoaaGreatDoorKMt22
import Derived.Test.YtkceoiaaiaomoaaGreatDoorKRName7
section
set_option linter.unusedVariables false
set_option linter.unusedSimpArgs false
namespace Go.Proofs.YtkceoiaaiaomoaaGreatDoor
open Go.RowKit

def filOk (p : Tm) (l : List Bd) : Bool := patOk p && may10 l
def fillE (p : Tm) (l : List Bd) : Int := if filOk p l = true then filE l p else 2
def fillV (p : Tm) (l : List Bd) : Tm := if filOk p l = true then (gvT l p).getD (intT 0) else intT 0
def FillP (E : Int) (V : Tm) (w : World) (e : Ending) (w' : World) : Prop :=
  ∃ (k n : Int) (s t : ByteArray) (A : Option Addr) (m c : Nat), e = .returned (.tuple #[.agg #[.int .i8 k, .int .i64 n, .string s, .string t, .slice A m c], .int .i64 E]) ∧ TmAt (· < w'.heap.size) w' V (.agg #[.int .i8 k, .int .i64 n, .string s, .string t, .slice A m c]) ∧ Below w.heap.size w w'
theorem zero_at (P : Nat → Prop) (w : World) : TmAt P w (intT 0) (.agg #[.int .i8 0, .int .i64 0, .string ⟨#[]⟩, .string ⟨#[]⟩, .slice none 0 0]) := TmAt.of_row (.nil _ _ none 0) (by decide) (by decide) (by decide) (by decide)
set_option maxHeartbeats 8000000 in
set_option maxRecDepth 100000 in
theorem Fill_any (p : Tm) (l : List Bd) (v : Value) (A : Option Addr) (n cap : Nat) (W : World) (hP : TmAt (· < W.heap.size) W p v) (hR : BRow (· < W.heap.size) W A n cap l) (hN : p.nodes ≤ 8200) (hE : Env7 W) :
    Calls Tryz.prog 35 #[v, .slice A n cap] W (FillP (fillE p l) (fillV p l) W) := by
  obtain rfl := hR.len
  obtain ⟨PP, hPP⟩ : ∃ q, q = p := ⟨_, rfl⟩
  obtain ⟨xk, xn, xs, xt, ps⟩ := p
  obtain ⟨NA, nc, rfl, hRn, -⟩ := hP.parts
  rw [← hPP] at hP hN ⊢
  have HPP := Lib.hid hPP
  obtain ⟨W2, hW2⟩ : ∃ w1, w1 = (W.alloc (.cells #[.int .i8 xk, .int .i64 xn, .string xs, .string xt, .slice NA ps.length nc] 25)).alloc (.cells #[.int .i8 0, .int .i64 0, .string ⟨#[]⟩, .string ⟨#[]⟩, .slice none 0 0] 44) := ⟨_, rfl⟩
  have g0 := there_of (.cells #[.int .i8 0, .int .i64 0, .string ⟨#[]⟩, .string ⟨#[]⟩, .slice none 0 0] 44) (block_alloc W (.cells #[.int .i8 xk, .int .i64 xn, .string xs, .string xt, .slice NA ps.length nc] 25))
  have g1 := block_alloc (W.alloc (.cells #[.int .i8 xk, .int .i64 xn, .string xs, .string xt, .slice NA ps.length nc] 25)) (.cells #[.int .i8 0, .int .i64 0, .string ⟨#[]⟩, .string ⟨#[]⟩, .slice none 0 0] 44)
  rw [World.size_alloc] at g1
  have b2 : Below W.heap.size W W2 := by rw [hW2]; exact ((Below.refl _ W).alloc (Nat.le_refl _) _).alloc (by simp) _
  have z2 : W2.heap.size = W.heap.size + 2 := by rw [hW2, World.size_alloc, World.size_alloc]
  rw [← hW2] at g0 g1
  have HB2 := Lib.hid b2
  have HG0 := Lib.hid g0
  have HG1 := Lib.hid g1
  have HZ2 := Lib.hid z2
  have HP := Lib.hid hP
  have HR := Lib.hid hR
  have HN := Lib.hid hN
  have HE := Lib.hid hE
  have HPC : Hid (Calls Tryz.prog 79 #[.agg #[.int .i8 xk, .int .i64 xn, .string xs, .string xt, .slice NA ps.length nc]] W2 fun e w' => e = .returned (.bool (patOk PP)) ∧ Below W2.heap.size W2 w') := Lib.hid (pattern7_ok PP _ W2 (hP.later b2) hN (hE.under b2))
  have hcap := hR.cap
  have hmx := hR.max
  unfold maxLen at hmx
  obtain ⟨EE, hEE⟩ : ∃ x, x = fillE PP l := ⟨_, rfl⟩
  obtain ⟨VV0, hVV⟩ : ∃ x, x = fillV PP l := ⟨_, rfl⟩
  rw [← hEE, ← hVV]
  obtain ⟨PB, hPB⟩ : ∃ b, b = patOk PP := ⟨_, rfl⟩
  obtain ⟨MB, hMB⟩ : ∃ b, b = may10 l := ⟨_, rfl⟩
  have HNO : Hid ((PB && MB) = false → EE = 2 ∧ VV0 = intT 0) := Lib.hid (fun h => by
    rw [hEE, hVV]
    unfold fillE fillV filOk
    rw [← hPB, ← hMB, h]
    exact ⟨rfl, rfl⟩)
  have HYES : Hid ((PB && MB) = true → EE = filE l PP ∧ VV0 = (gvT l PP).getD (intT 0)) := Lib.hid (fun h => by
    rw [hEE, hVV]
    unfold fillE fillV filOk
    rw [← hPB, ← hMB, h]
    exact ⟨rfl, rfl⟩)
  rw [← hPB] at HPC
  have HPB := Lib.hid hPB
  have HMB := Lib.hid hMB
  obtain ⟨x0, x1, x2, x3, x4⟩ := five_of g0
  clear hP hR hRn hN hE g0 g1 b2 z2 hEE hVV hPB hMB hPP
  go_enter Tryz.func35, Tryz.ntmps35
  go_upto_region 1 with fail
  rw [← hW2]
  clear hW2
  go_wp2_with fail
  refine HPC.out.mono ?_
  rintro e W3 ⟨rfl, b3⟩
  have HB3 := Lib.hid (HB2.out.trans (b3.mono HB2.out.size))
  have HG03 := Lib.hid ((b3.block _ (heap_lt HG0.out)).trans HG0.out)
  have HG13 := Lib.hid ((b3.block _ (heap_lt HG1.out)).trans HG1.out)
  clear b3 x0 x1 x2 x3 x4
  cases PB with
  | false =>
    have HNN := Lib.hid (HNO.out rfl)
    have g9 := HG13.out
    obtain ⟨⟨r0, r1, r2, r3, r4⟩, rf0, rf1, rf2, rf3, rf4⟩ := five_fr g9
    have S5 := Lib.hid (set_five (.int .i8 0) (.int .i64 0) (.string ⟨#[]⟩) (.string ⟨#[]⟩) (.slice none 0 0) g9)
    go_wp2_with fail
    obtain ⟨s5, m5⟩ := S5.out
    generalize ((((((W3).setCell ⟨W.heap.size + 1, 0, none⟩ (.int .i8 0)).setCell ⟨W.heap.size + 1, 1, none⟩ (.int .i64 0)).setCell ⟨W.heap.size + 1, 2, none⟩ (.string ⟨#[]⟩)).setCell ⟨W.heap.size + 1, 3, none⟩ (.string ⟨#[]⟩)).setCell ⟨W.heap.size + 1, 4, none⟩ (.slice none 0 0)) = VX at s5 m5 ⊢
    obtain ⟨z0, z1, z2, z3, z4⟩ := five_of s5
    refine bodyPost_ret (v := .tuple #[.agg #[.int .i8 0, .int .i64 0, .string ⟨#[]⟩, .string ⟨#[]⟩, .slice none 0 0], .int .i64 2]) (by simp [results, Tryz.f35, go_sem, z0, z1, z2, z3, z4]) rfl ?_
    exact ⟨_, _, _, _, _, _, _, by rw [HNN.out.1], by rw [HNN.out.2]; exact zero_at _ _, HB3.out.trans (m5.below HB3.out.size (fun q (e : q = _) => by omega))⟩
  | true =>
  have HMY := Lib.hid (May10_any l A l.length cap W3 (HR.out.later HB3.out) (HE.out.under HB3.out).spans)
  rw [← HMB.out] at HMY
  go_wp2_with fail
  refine HMY.out.mono ?_
  rintro e W4 ⟨rfl, b4⟩
  have HB4 := Lib.hid (HB3.out.trans (b4.mono HB3.out.size))
  have HB24 : Hid (W2.heap.size ≤ W4.heap.size) := by have h1 := heap_lt HG13.out; have h2 := b4.size; have h3 := HZ2.out; show _ ≤ _; omega
  have HG04 := Lib.hid ((b4.block _ (heap_lt HG03.out)).trans HG03.out)
  have HG14 := Lib.hid ((b4.block _ (heap_lt HG13.out)).trans HG13.out)
  clear b4
  cases MB with
  | false =>
    have HNN := Lib.hid (HNO.out rfl)
    have g9 := HG14.out
    obtain ⟨⟨r0, r1, r2, r3, r4⟩, rf0, rf1, rf2, rf3, rf4⟩ := five_fr g9
    have S5 := Lib.hid (set_five (.int .i8 0) (.int .i64 0) (.string ⟨#[]⟩) (.string ⟨#[]⟩) (.slice none 0 0) g9)
    go_wp2_with fail
    obtain ⟨s5, m5⟩ := S5.out
    generalize ((((((W4).setCell ⟨W.heap.size + 1, 0, none⟩ (.int .i8 0)).setCell ⟨W.heap.size + 1, 1, none⟩ (.int .i64 0)).setCell ⟨W.heap.size + 1, 2, none⟩ (.string ⟨#[]⟩)).setCell ⟨W.heap.size + 1, 3, none⟩ (.string ⟨#[]⟩)).setCell ⟨W.heap.size + 1, 4, none⟩ (.slice none 0 0)) = VX at s5 m5 ⊢
    obtain ⟨z0, z1, z2, z3, z4⟩ := five_of s5
    refine bodyPost_ret (v := .tuple #[.agg #[.int .i8 0, .int .i64 0, .string ⟨#[]⟩, .string ⟨#[]⟩, .slice none 0 0], .int .i64 2]) (by simp [results, Tryz.f35, go_sem, z0, z1, z2, z3, z4]) rfl ?_
    exact ⟨_, _, _, _, _, _, _, by rw [HNN.out.1], by rw [HNN.out.2]; exact zero_at _ _, HB4.out.trans (m5.below HB4.out.size (fun q (e : q = _) => by omega))⟩
  | true =>
  have HY := Lib.hid (HYES.out rfl)
  have hpat : patB PP = true := by have h := HPB.out.symm; unfold patOk at h; rw [Bool.and_eq_true] at h; exact h.2
  have HFG := Lib.hid (fil_any l PP hpat (by have := HN.out; omega))
  have HSP : Hid (∀ V, Mod (fun q => q = W.heap.size + 1) W4 V → Below W.heap.size W V) := fun V mV => HB4.out.trans (mV.below HB4.out.size (fun q (e : q = _) => by omega))
  clear hpat
  go_upto_region 3 with fail
  refine wp_region_held (S := fun V => Mod (fun q => q = W.heap.size + 1) W4 V) (by kernel_rfl) ?_
  show wpAnyH _ _ _ _ _ _ _ _ W4.drew
  have hS : Mod (fun q => q = W.heap.size + 1) W4 W4.drew := Mod.drew _ _
  have hg0 : W4.drew.heap[W.heap.size + 1]? = some (.cells #[.int .i8 0, .int .i64 0, .string ⟨#[]⟩, .string ⟨#[]⟩, .slice none 0 0] 44 (0, 0)) := HG14.out
  generalize W4.drew = V0 at hS hg0 ⊢
  refine wpAnyH_take (i := 0) (oi := ⟨some 15, _, _, _, _, _⟩) (v := ?_) rfl (by kernel_rfl) (by kernel_rfl) (by kernel_rfl) (fun _ _ _ h => h) (Or.inl ⟨by kernel_rfl, ?_⟩) (by assumption) ?_; rotate_left; (intro VV hSw; (try dsimp only at hSw); go_simp; first | done | with_reducible rfl); (try simp only [Act.put, sI, sZ, sS])
  refine wpAnyH_take (i := 2) (oi := ⟨some 17, _, _, _, _, _⟩) (v := ?_) rfl (by kernel_rfl) (by kernel_rfl) (by kernel_rfl) (fun _ _ _ h => h) (Or.inl ⟨by kernel_rfl, ?_⟩) (by assumption) ?_; rotate_left; (intro VV hSw; (try dsimp only at hSw); go_simp; first | done | with_reducible rfl); (try simp only [Act.put, sI, sZ, sS])
  refine wpAnyH_take (i := 3) (oi := ⟨some 18, _, _, _, _, _⟩) (v := ?_) rfl (by kernel_rfl) (by kernel_rfl) (by kernel_rfl) (fun _ _ _ h => h) (Or.inl ⟨by kernel_rfl, ?_⟩) (by assumption) ?_; rotate_left; (intro VV hSw; (try dsimp only at hSw); have hr := (hSw.block _ (heap_lt HG04.out) (by omega)).trans HG04.out; obtain ⟨x0, x1, x2, x3, x4⟩ := five_of hr; go_simp; first | done | with_reducible rfl); (try simp only [Act.put, sI, sZ, sS])
  refine wpAnyH_take (i := 8) (oi := ⟨some 23, _, _, _, _, _⟩) (v := ?_) rfl (by kernel_rfl) (by kernel_rfl) (by kernel_rfl) (fun _ _ _ h => h) (Or.inl ⟨by kernel_rfl, ?_⟩) (by assumption) ?_; rotate_left; (intro VV hSw; (try dsimp only at hSw); have hr := (hSw.block _ (heap_lt HG04.out) (by omega)).trans HG04.out; obtain ⟨x0, x1, x2, x3, x4⟩ := five_of hr; go_simp; first | done | with_reducible rfl); (try simp only [Act.put, sI, sZ, sS])
  refine wpAnyH_ready (rs := [1]) (by kernel_rfl) (by simp) ?_
  refine AllReadyH.cons (o := ⟨some 16, _, _, _, _, _⟩) rfl (fun K hK => ?_) AllReadyH.nil
  · rw [if_pos (by rfl)]
    go_simp
    have hBV := HSP.out V0 hS
    refine (newF_any W.heap.size l A l.length cap V0 (HR.out.keep (fun b hb => hBV.block b hb) (fun _ h => h)) hBV.size ((HE.out.under hBV).spans) HMB.out.symm).mono ?_
    rintro e V1 ⟨X, mb, rfl, hF1, b1⟩
    have hS1 := hS.trans (Mod.of_below (F := fun _ => False) b1) (fun _ _ f => f.elim)
    have hg1 := (b1.block _ (heap_lt hg0)).trans hg0
    have hXne : ¬ X = W.heap.size + 1 := fun e => by
      have h := hF1.box
      rw [e, hg1] at h
      injection h with h
      injection h with _ h _
      exact absurd h (by decide)
    obtain ⟨F, B, j, hkj, hj, hcell, hent, hcon⟩ := HFG.out W.heap.size V0 X mb
    rw [HPP.out] at hkj
    obtain rfl : xk = (j : Int) := hkj
    have hj0 : (0 : Int) ≤ (j : Int) := by omega
    have hj1 : (j : Int) < 11 := by omega
    have HBX : Hid (∀ V, Mod (fun q => q = W.heap.size + 1) V1 V → V.cell? ⟨X, 1 + j, none⟩ = some (.func (.func F) B #[])) := fun V mV => cell_of_row (i := 1 + j) ((mV.block _ (heap_lt hF1.box) hXne).trans hF1.box) hcell
    refine hK.out _ _ hS1 (fun hSn => ?_)
    clear hK K hSn; (try simp only [Act.put, sI, sZ, sS])
    refine wpAnyH_take (i := 4) (oi := ⟨some 19, _, _, _, _, _⟩) (v := ?_) rfl (by kernel_rfl) (by kernel_rfl) (by kernel_rfl) (fun _ _ _ h => h) (Or.inl ⟨by kernel_rfl, ?_⟩) (by assumption) ?_; rotate_left; (intro VV hSw; (try dsimp only at hSw); go_simp; first | done | with_reducible rfl); (try simp only [Act.put, sI, sZ, sS])
    refine wpAnyH_take (i := 5) (oi := ⟨some 20, _, _, _, _, _⟩) (v := ?_) rfl (by kernel_rfl) (by kernel_rfl) (by kernel_rfl) (fun _ _ _ h => h) (Or.inl ⟨by kernel_rfl, ?_⟩) (by assumption) ?_; rotate_left; (intro VV hSw; (try dsimp only at hSw); go_simp; first | done | with_reducible rfl); (try simp only [Act.put, sI, sZ, sS])
    refine wpAnyH_take (i := 6) (oi := ⟨some 21, _, _, _, _, _⟩) (v := ?_) rfl (by kernel_rfl) (by kernel_rfl) (by kernel_rfl) (fun _ _ _ h => h) (Or.inl ⟨by kernel_rfl, ?_⟩) (by assumption) ?_; rotate_left; (intro VV hSw; (try dsimp only at hSw); go_simp; first | done | with_reducible rfl); (try simp only [Act.put, sI, sZ, sS])
    refine wpAnyH_ready (rs := [7]) (by kernel_rfl) (by simp) ?_
    refine AllReadyH.cons (o := ⟨some 22, _, _, _, _, _⟩) rfl (fun K hK => ?_) AllReadyH.nil
    · rw [if_pos (by rfl)]
      have hp := HBX.out V1 (Mod.refl _ _)
      go_simp
      refine hK.out _ _ hS1 (fun hSn => ?_)
      clear hK K hSn; (try simp only [Act.put, sI, sZ, sS])
      refine wpAnyH_ready (rs := [9]) (by kernel_rfl) (by simp) ?_
      refine AllReadyH.cons (o := ⟨some 24, _, _, _, _, _⟩) rfl (fun K hK => ?_) AllReadyH.nil
      · rw [if_pos (by rfl)]
        have hen := hent (B.push (.agg #[.int .i8 (j : Int), .int .i64 xn, .string xs, .string xt, .slice NA ps.length nc])) V1
        go_simp
        refine (hcon V1 _ hF1 (HP.out.laterN ((HSP.out V1 hS1)))).mono ?_
        rintro e V2 ⟨k9, n9, s9, t9, A9, m9, c9, rfl, hv, hz, b5⟩
        have hS2 := hS1.trans (Mod.of_below (F := fun _ => False) b5) (fun _ _ f => f.elim)
        have hg2 := (b5.block _ (heap_lt hg1)).trans hg1
        refine hK.out _ _ hS2 (fun hSn => ?_)
        clear hK K hSn; (try simp only [Act.put, sI, sZ, sS])
        refine wpAnyH_take (i := 10) (oi := ⟨some 25, _, _, _, _, _⟩) (v := ?_) rfl (by kernel_rfl) (by kernel_rfl) (by kernel_rfl) (fun _ _ _ h => h) (Or.inl ⟨by kernel_rfl, ?_⟩) (by assumption) ?_; rotate_left; (intro VV hSw; (try dsimp only at hSw); go_simp; first | done | with_reducible rfl); (try simp only [Act.put, sI, sZ, sS])
        refine wpAnyH_take (i := 11) (oi := ⟨some 26, _, _, _, _, _⟩) (v := ?_) rfl (by kernel_rfl) (by kernel_rfl) (by kernel_rfl) (fun _ _ _ h => h) (Or.inl ⟨by kernel_rfl, ?_⟩) (by assumption) ?_; rotate_left; (intro VV hSw; (try dsimp only at hSw); go_simp; first | done | with_reducible rfl); (try simp only [Act.put, sI, sZ, sS])
        obtain ⟨⟨r0, r1, r2, r3, r4⟩, rf0, rf1, rf2, rf3, rf4⟩ := five_fr hg2
        obtain ⟨s5, m5⟩ := set_five (.int .i8 k9) (.int .i64 n9) (.string s9) (.string t9) (.slice A9 m9 c9) hg2
        refine wpAnyH_ready (rs := [12]) (by kernel_rfl) (by simp) ?_
        refine AllReadyH.cons (o := ⟨none, _, _, _, _, _⟩) rfl (fun K hK => ?_) AllReadyH.nil
        · rw [if_pos (by rfl)]
          go_simp
          generalize ((((((V2).setCell ⟨W.heap.size + 1, 0, none⟩ (.int .i8 k9)).setCell ⟨W.heap.size + 1, 1, none⟩ (.int .i64 n9)).setCell ⟨W.heap.size + 1, 2, none⟩ (.string s9)).setCell ⟨W.heap.size + 1, 3, none⟩ (.string t9)).setCell ⟨W.heap.size + 1, 4, none⟩ (.slice A9 m9 c9)) = VX at s5 m5 ⊢
          have hS9 : Mod (fun q => q = W.heap.size + 1) W4 VX := hS2.trans m5 (fun _ _ f => f)
          refine hK.out _ _ hS9 (fun hSn => ?_)
          clear hK K hSn; (try simp only [Act.put, sI, sZ, sS])
          refine wpAnyH_take (i := 13) (oi := ⟨some 5, _, _, _, _, _⟩) (v := ?_) rfl (by kernel_rfl) (by kernel_rfl) (by kernel_rfl) (fun _ _ _ h => h) (Or.inl ⟨by kernel_rfl, ?_⟩) (by assumption) ?_; rotate_left; (intro VV hSw; (try dsimp only at hSw); go_simp; first | done | with_reducible rfl); (try simp only [Act.put, sI, sZ, sS])
          refine wpAnyH_done (by kernel_rfl) ?_ _
          clear r0 rf0 r1 rf1 r2 rf2 r3 rf3 r4 rf4
          obtain ⟨z0, z1, z2, z3, z4⟩ := five_of s5
          go_wp2_with fail
          refine bodyPost_ret (v := .tuple #[.agg #[.int .i8 k9, .int .i64 n9, .string s9, .string t9, .slice A9 m9 c9], .int .i64 (filE l PP)]) (by simp [results, Tryz.f35, go_sem, z0, z1, z2, z3, z4]) rfl ?_
          refine ⟨_, _, _, _, _, _, _, by rw [HY.out.1], ?_, HSP.out VX hS9⟩
          rw [HY.out.2]
          have h1 := hS1.size
          have h2 := b5.size
          have h3 := m5.size
          have h4 := HB24.out
          have h5 := HZ2.out
          cases hg : gvT l PP with
          | none =>
            have he := hz hg
            rw [he]
            exact zero_at _ _
          | some y => exact (hv y hg).keep (fun q hb => m5.block q (by rcases hb with h | h <;> omega) (by rcases hb with h | h <;> omega)) (fun q hb => by show q < _; rcases hb with h | h <;> omega)
end Go.Proofs.YtkceoiaaiaomoaaGreatDoor
end
section
set_option linter.unusedVariables false
set_option linter.unusedSimpArgs false
namespace Go.Proofs.YtkceoiaaiaomoaaGreatDoor
open Go.RowKit

theorem pat_cases {k n : Int} {s t : ByteArray} {ps : List Tm} (h : patB (.mk k n s t ps) = true) :
    (k = 5 ∧ ps = [] ∧ nameB s 3 = true) ∨ (k = 6 ∧ ps = []) ∨ (k = 7 ∧ ps = []) ∨ (k = 8 ∧ ps = []) ∨ ((k = 9 ∧ ps.length = 2 ∨ k = 10) ∧ ∀ y ∈ ps, patB y = true) := by
  have h0 := h
  unfold patB leafB at h
  simp only [Bool.or_eq_true, Bool.and_eq_true, beq_iff_eq, List.isEmpty_iff] at h
  rcases h with ⟨⟨h1, _⟩, h2⟩ | h
  · rcases h2 with ((h2 | h2) | h2) | h2
    · exact .inl ⟨h2.1.1, h1, h2.2⟩
    · exact .inr (.inl ⟨h2.1.1, h1⟩)
    · exact .inr (.inr (.inl ⟨h2.1.1, h1⟩))
    · exact .inr (.inr (.inr (.inl ⟨h2.1.1, h1⟩)))
  · refine .inr (.inr (.inr (.inr ⟨?_, ?_⟩)))
    · rcases h.1.1.1.1 with h | h
      · exact .inr h
      · exact .inl h
    · refine pats_of h0 ?_
      rcases h.1.1.1.1 with h | h
      · exact .inr h
      · exact .inl h.1
theorem sumN_pres (l : List Tm) : sumN l ≤ (Tm.pres l).length := by
  induction l with
  | nil => simp [sumN]
  | cons x l ih =>
    rw [sumN, Tm.pres, List.length_append]
    show min 257 x.nodes + sumN l ≤ x.nodes + _
    omega
end Go.Proofs.YtkceoiaaiaomoaaGreatDoor
end
section
set_option linter.unusedVariables false
set_option linter.unusedSimpArgs false
namespace Go.Proofs.YtkceoiaaiaomoaaGreatDoor
open Go.RowKit

mutual
def filT (l : List Bd) : Tm → Tm
  | .mk k n s _ ps => if k = 5 then (findB l s).getD (intT 0) else if k = 6 then intT n else if k = 7 then atmT s else if k = 8 then nilT11
    else if k = 9 then .mk 7 0 ⟨#[]⟩ ⟨#[]⟩ (filTs l ps) else .mk 5 0 ⟨#[]⟩ ⟨#[]⟩ (filTs l ps)
def filTs (l : List Bd) : List Tm → List Tm
  | [] => []
  | x :: ps => filT l x :: filTs l ps
end
theorem filTs_map (l : List Bd) : ∀ ps, filTs l ps = ps.map (filT l)
  | [] => by rw [filTs]; rfl
  | x :: ps => by rw [filTs, filTs_map l ps]; rfl
theorem filT_5 (l : List Bd) (n : Int) (s t : ByteArray) (ps : List Tm) : filT l (.mk 5 n s t ps) = (findB l s).getD (intT 0) := by rw [filT, if_pos rfl]
theorem filT_6 (l : List Bd) (n : Int) (s t : ByteArray) (ps : List Tm) : filT l (.mk 6 n s t ps) = intT n := by rw [filT, if_neg (by decide), if_pos rfl]
theorem filT_7 (l : List Bd) (n : Int) (s t : ByteArray) (ps : List Tm) : filT l (.mk 7 n s t ps) = atmT s := by rw [filT, if_neg (by decide), if_neg (by decide), if_pos rfl]
theorem filT_8 (l : List Bd) (n : Int) (s t : ByteArray) (ps : List Tm) : filT l (.mk 8 n s t ps) = nilT11 := by rw [filT, if_neg (by decide), if_neg (by decide), if_neg (by decide), if_pos rfl]
theorem filT_9 (l : List Bd) (n : Int) (s t : ByteArray) (ps : List Tm) : filT l (.mk 9 n s t ps) = .mk 7 0 ⟨#[]⟩ ⟨#[]⟩ (filTs l ps) := by rw [filT, if_neg (by decide), if_neg (by decide), if_neg (by decide), if_neg (by decide), if_pos rfl]
theorem filT_10 (l : List Bd) (n : Int) (s t : ByteArray) (ps : List Tm) : filT l (.mk 10 n s t ps) = .mk 5 0 ⟨#[]⟩ ⟨#[]⟩ (filTs l ps) := by rw [filT, if_neg (by decide), if_neg (by decide), if_neg (by decide), if_neg (by decide), if_neg (by decide)]
theorem gvTsO_some (f : Tm → Option Tm) (g : Tm → Tm) : ∀ (ps : List Tm), (∀ y ∈ ps, f y = some (g y)) → gvTsO f ps = some (ps.map g)
  | [], _ => rfl
  | x :: ps, h => by
    rw [gvTsO, h x (by simp), gvTsO_some f g ps (fun y hy => h y (by simp [hy]))]
    rfl
theorem gvTsO_map (f : Tm → Option Tm) (g : Tm → Tm) : ∀ (ps vs : List Tm), (∀ y ∈ ps, ∀ v, f y = some v → v = g y) → gvTsO f ps = some vs → vs = ps.map g
  | [], vs, _, h => by simp [gvTsO] at h; subst h; rfl
  | x :: ps, vs, hg, h => by
    rw [gvTsO] at h
    cases hx : f x with
    | none => rw [hx] at h; cases h
    | some v =>
      cases hp : gvTsO f ps with
      | none => rw [hx, hp] at h; cases h
      | some vs0 =>
        rw [hx, hp] at h
        cases h
        rw [hg x (by simp) v hx, gvTsO_map f g ps vs0 (fun y hy => hg y (by simp [hy])) hp]
        rfl
theorem fil_link (l : List Bd) (hm : may10 l = true) (p : Tm) : patB p = true → bndB l p = true → gvT l p = if (filT l p).nodes ≤ 256 then some (filT l p) else none := by
  induction p using Tm.ind with
  | h k n s t ps ih =>
    intro hp hb
    rw [bnd_mk, Bool.and_eq_true] at hb
    have one : ∀ (a b : Int) (c d : ByteArray), (Tm.mk a b c d []).nodes ≤ 256 := fun a b c d => by rw [Tm.nodes_mk]; simp [Tm.pres]
    rcases pat_cases hp with ⟨rfl, rfl, hn⟩ | ⟨rfl, rfl⟩ | ⟨rfl, rfl⟩ | ⟨rfl, rfl⟩ | ⟨hk, hps⟩
    · have h1 := hb.1
      rw [if_pos rfl, may10_any_name hm s] at h1
      obtain ⟨x, hx⟩ := Option.isSome_iff_exists.1 h1
      have hf : filT l (.mk 5 n s t []) = x := by rw [filT_5, hx]; rfl
      rw [gv_leaf, hf]
      unfold putT
      rw [if_pos rfl, may10_any_name hm s, hx, if_pos (check_valid ((may10_len hm).2 _ (findB_mem hx))).2]
    · rw [gv_leaf, filT_6]; refine Eq.trans ?_ (if_pos (one _ _ _ _)).symm; unfold putT; rw [if_neg (by decide), if_pos rfl]
    · rw [gv_leaf, filT_7]; refine Eq.trans ?_ (if_pos (one _ _ _ _)).symm; unfold putT; rw [if_neg (by decide), if_neg (by decide), if_pos rfl]
    · rw [gv_leaf, filT_8]; refine Eq.trans ?_ (if_pos (one _ _ _ _)).symm; unfold putT; rw [if_neg (by decide), if_neg (by decide), if_neg (by decide), if_pos rfl]
    · have hbs : ∀ y ∈ ps, bndB l y = true := List.all_eq_true.1 hb.2
      have hih : ∀ y ∈ ps, gvT l y = if (filT l y).nodes ≤ 256 then some (filT l y) else none := fun y hy => ih y hy (hps y hy) (hbs y hy)
      have hv : ∀ y ∈ ps, ∀ v, gvT l y = some v → v = filT l y := fun y hy v hv => by
        rw [hih y hy] at hv
        split at hv
        · cases hv; rfl
        · cases hv
      have main : ∀ (kk : Int) (R : List Tm → Option Tm), (∀ vs, R vs = some (Tm.mk kk 0 ⟨#[]⟩ ⟨#[]⟩ vs) ∨ R vs = none) → (∀ vs, vs = ps.map (filT l) → (R vs = some (Tm.mk kk 0 ⟨#[]⟩ ⟨#[]⟩ vs) ↔ fitN 1 vs = 0)) → (gvTsO (gvT l) ps).bind R = if (Tm.mk kk 0 ⟨#[]⟩ ⟨#[]⟩ (filTs l ps)).nodes ≤ 256 then some (Tm.mk kk 0 ⟨#[]⟩ ⟨#[]⟩ (filTs l ps)) else none := by
        intro kk R hR hfit
        rw [filTs_map]
        by_cases ht : (Tm.mk kk 0 ⟨#[]⟩ ⟨#[]⟩ (ps.map (filT l))).nodes ≤ 256
        · rw [if_pos ht]
          rw [Tm.nodes_mk] at ht
          have hgs : gvTsO (gvT l) ps = some (ps.map (filT l)) := gvTsO_some _ _ ps (fun y hy => by
            rw [hih y hy, if_pos]
            have h1 := Tm.nodes_mem (List.mem_map_of_mem (f := filT l) hy)
            omega)
          rw [hgs]
          have hck := gvTsO_check (may10_mayL hm) hgs (fun y hy => pat_gua y (hps y hy))
          have h0 : fitN 1 (ps.map (filT l)) = 0 := by
            have h2 := sumN_pres (ps.map (filT l))
            unfold fitN
            rw [if_neg, if_neg (by omega)]
            intro hq
            obtain ⟨y, hy, h3⟩ := List.any_eq_true.1 hq
            rw [hck y hy] at h3; exact absurd h3 (by decide)
          exact (hfit _ rfl).2 h0
        · rw [if_neg ht]
          cases hgs : gvTsO (gvT l) ps with
          | none => rfl
          | some vs =>
            have hvs := gvTsO_map _ _ ps vs hv hgs
            show R vs = none
            rcases hR vs with h | h
            · have h0 := (hfit vs hvs).1 h
              have h1 := (fit_zero h0).1
              have h2 := (sumN_small vs (by omega)).1
              rw [hvs] at h1 h2
              exfalso
              apply ht
              rw [Tm.nodes_mk]
              omega
            · exact h
      rw [gvT_mk]
      rcases hk with ⟨rfl, h2⟩ | rfl
      · rw [filT_9]
        refine main 7 (putT l 9 n s) (fun vs => ?_) (fun vs hvs => ?_)
        · unfold putT
          rw [if_neg (by decide), if_neg (by decide), if_neg (by decide), if_neg (by decide), if_pos rfl]
          unfold consR
          split
          · split
            · exact .inl rfl
            · exact .inr rfl
          · exact .inr rfl
        · obtain ⟨a, b, rfl⟩ := two_of (vs := vs) (by rw [hvs, List.length_map]; exact h2)
          unfold putT
          rw [if_neg (by decide), if_neg (by decide), if_neg (by decide), if_neg (by decide), if_pos rfl]
          unfold consR
          dsimp only
          by_cases h0 : fitN 1 [a, b] = 0
          · rw [if_pos h0]; exact ⟨fun _ => h0, fun _ => rfl⟩
          · rw [if_neg h0]; exact ⟨fun h => (by cases h), fun h => absurd h h0⟩
      · rw [filT_10]
        refine main 5 (putT l 10 n s) (fun vs => ?_) (fun vs hvs => ?_)
        · unfold putT
          rw [if_neg (by decide), if_neg (by decide), if_neg (by decide), if_neg (by decide), if_neg (by decide), if_pos rfl]
          unfold tupR
          split
          · exact .inl rfl
          · exact .inr rfl
        · unfold putT
          rw [if_neg (by decide), if_neg (by decide), if_neg (by decide), if_neg (by decide), if_neg (by decide), if_pos rfl]
          unfold tupR
          by_cases h0 : fitN 1 vs = 0
          · rw [if_pos h0]; exact ⟨fun _ => h0, fun _ => rfl⟩
          · rw [if_neg h0]; exact ⟨fun h => (by cases h), fun h => absurd h h0⟩
end Go.Proofs.YtkceoiaaiaomoaaGreatDoor
end
