/- Layer 10: patterns, the names that they bind, and what they are filled to (MatchFill, plain). -/
import Derived.Test.YtkceoiaaiaomoaaGreatDoorKMt19
section
set_option linter.unusedVariables false
set_option linter.unusedSimpArgs false
namespace Go.Proofs.YtkceoiaaiaomoaaGreatDoor
open Go.RowKit

def filOk (p : Tm) (l : List Bd) : Bool := patOk p && may10 l
def fillE (p : Tm) (l : List Bd) : Int := if filOk p l = true then filE l p else 2
def fillV (p : Tm) (l : List Bd) : Tm := if filOk p l = true then (gvT l p).getD (intT 0) else intT 0
def FillP (E : Int) (V : Tm) (w : World) (e : Ending) (w' : World) : Prop :=
  ∃ (k n : Int) (s t : ByteArray) (A : Option Addr) (m c : Nat), e = .returned (.tuple #[.agg #[.int .i8 k, .int .i64 n, .string s, .string t, .slice A m c], .int .i64 E]) ∧ TmAt (· < w'.heap.size) w' V (.agg #[.int .i8 k, .int .i64 n, .string s, .string t, .slice A m c]) ∧ Below w.heap.size w w'
theorem zero_at (P : Nat → Prop) (w : World) : TmAt P w (intT 0) (.agg #[.int .i8 0, .int .i64 0, .string ⟨#[]⟩, .string ⟨#[]⟩, .slice none 0 0]) := TmAt.of_row (.nil _ _ none 0) (by decide) (by decide) (by decide) (by decide)
set_option maxHeartbeats 8000000 in
set_option maxRecDepth 100000 in
theorem Fill_any (p : Tm) (l : List Bd) (v : Value) (A : Option Addr) (n cap : Nat) (W : World) (hP : TmAt (· < W.heap.size) W p v) (hR : BRow (· < W.heap.size) W A n cap l) (hN : p.nodes ≤ 8200) (hE : Env7 W) :
    Calls Tryz.prog 35 #[v, .slice A n cap] W (FillP (fillE p l) (fillV p l) W) := by
  obtain rfl := hR.len
  obtain ⟨PP, hPP⟩ : ∃ q, q = p := ⟨_, rfl⟩
  obtain ⟨xk, xn, xs, xt, ps⟩ := p
  obtain ⟨NA, nc, rfl, hRn, -⟩ := hP.parts
  rw [← hPP] at hP hN ⊢
  have HPP := Lib.hid hPP
  obtain ⟨W2, hW2⟩ : ∃ w1, w1 = (W.alloc (.cells #[.int .i8 xk, .int .i64 xn, .string xs, .string xt, .slice NA ps.length nc] 25)).alloc (.cells #[.int .i8 0, .int .i64 0, .string ⟨#[]⟩, .string ⟨#[]⟩, .slice none 0 0] 44) := ⟨_, rfl⟩
  have g0 := there_of (.cells #[.int .i8 0, .int .i64 0, .string ⟨#[]⟩, .string ⟨#[]⟩, .slice none 0 0] 44) (block_alloc W (.cells #[.int .i8 xk, .int .i64 xn, .string xs, .string xt, .slice NA ps.length nc] 25))
  have g1 := block_alloc (W.alloc (.cells #[.int .i8 xk, .int .i64 xn, .string xs, .string xt, .slice NA ps.length nc] 25)) (.cells #[.int .i8 0, .int .i64 0, .string ⟨#[]⟩, .string ⟨#[]⟩, .slice none 0 0] 44)
  rw [World.size_alloc] at g1
  have b2 : Below W.heap.size W W2 := by rw [hW2]; exact ((Below.refl _ W).alloc (Nat.le_refl _) _).alloc (by simp) _
  have z2 : W2.heap.size = W.heap.size + 2 := by rw [hW2, World.size_alloc, World.size_alloc]
  rw [← hW2] at g0 g1
  have HB2 := Lib.hid b2
  have HG0 := Lib.hid g0
  have HG1 := Lib.hid g1
  have HZ2 := Lib.hid z2
  have HP := Lib.hid hP
  have HR := Lib.hid hR
  have HN := Lib.hid hN
  have HE := Lib.hid hE
  have HPC : Hid (Calls Tryz.prog 79 #[.agg #[.int .i8 xk, .int .i64 xn, .string xs, .string xt, .slice NA ps.length nc]] W2 fun e w' => e = .returned (.bool (patOk PP)) ∧ Below W2.heap.size W2 w') := Lib.hid (pattern7_ok PP _ W2 (hP.later b2) hN (hE.under b2))
  have hcap := hR.cap
  have hmx := hR.max
  unfold maxLen at hmx
  obtain ⟨EE, hEE⟩ : ∃ x, x = fillE PP l := ⟨_, rfl⟩
  obtain ⟨VV0, hVV⟩ : ∃ x, x = fillV PP l := ⟨_, rfl⟩
  rw [← hEE, ← hVV]
  obtain ⟨PB, hPB⟩ : ∃ b, b = patOk PP := ⟨_, rfl⟩
  obtain ⟨MB, hMB⟩ : ∃ b, b = may10 l := ⟨_, rfl⟩
  have HNO : Hid ((PB && MB) = false → EE = 2 ∧ VV0 = intT 0) := Lib.hid (fun h => by
    rw [hEE, hVV]
    unfold fillE fillV filOk
    rw [← hPB, ← hMB, h]
    exact ⟨rfl, rfl⟩)
  have HYES : Hid ((PB && MB) = true → EE = filE l PP ∧ VV0 = (gvT l PP).getD (intT 0)) := Lib.hid (fun h => by
    rw [hEE, hVV]
    unfold fillE fillV filOk
    rw [← hPB, ← hMB, h]
    exact ⟨rfl, rfl⟩)
  rw [← hPB] at HPC
  have HPB := Lib.hid hPB
  have HMB := Lib.hid hMB
  obtain ⟨x0, x1, x2, x3, x4⟩ := five_of g0
  clear hP hR hRn hN hE g0 g1 b2 z2 hEE hVV hPB hMB hPP
  go_enter Tryz.func35, Tryz.ntmps35
  go_upto_region 1 with fail
  rw [← hW2]
  clear hW2
  go_wp2_with fail
  refine HPC.out.mono ?_
  rintro e W3 ⟨rfl, b3⟩
  have HB3 := Lib.hid (HB2.out.trans (b3.mono HB2.out.size))
  have HG03 := Lib.hid ((b3.block _ (heap_lt HG0.out)).trans HG0.out)
  have HG13 := Lib.hid ((b3.block _ (heap_lt HG1.out)).trans HG1.out)
  clear b3 x0 x1 x2 x3 x4
  cases PB with
  | false =>
    have HNN := Lib.hid (HNO.out rfl)
    have g9 := HG13.out
    obtain ⟨⟨r0, r1, r2, r3, r4⟩, rf0, rf1, rf2, rf3, rf4⟩ := five_fr g9
    have S5 := Lib.hid (set_five (.int .i8 0) (.int .i64 0) (.string ⟨#[]⟩) (.string ⟨#[]⟩) (.slice none 0 0) g9)
    go_wp2_with fail
    obtain ⟨s5, m5⟩ := S5.out
    generalize ((((((W3).setCell ⟨W.heap.size + 1, 0, none⟩ (.int .i8 0)).setCell ⟨W.heap.size + 1, 1, none⟩ (.int .i64 0)).setCell ⟨W.heap.size + 1, 2, none⟩ (.string ⟨#[]⟩)).setCell ⟨W.heap.size + 1, 3, none⟩ (.string ⟨#[]⟩)).setCell ⟨W.heap.size + 1, 4, none⟩ (.slice none 0 0)) = VX at s5 m5 ⊢
    obtain ⟨z0, z1, z2, z3, z4⟩ := five_of s5
    refine bodyPost_ret (v := .tuple #[.agg #[.int .i8 0, .int .i64 0, .string ⟨#[]⟩, .string ⟨#[]⟩, .slice none 0 0], .int .i64 2]) (by simp [results, Tryz.f35, go_sem, z0, z1, z2, z3, z4]) rfl ?_
    exact ⟨_, _, _, _, _, _, _, by rw [HNN.out.1], by rw [HNN.out.2]; exact zero_at _ _, HB3.out.trans (m5.below HB3.out.size (fun q (e : q = _) => by omega))⟩
  | true =>
  have HMY := Lib.hid (May10_any l A l.length cap W3 (HR.out.later HB3.out) (HE.out.under HB3.out).spans)
  rw [← HMB.out] at HMY
  go_wp2_with fail
  refine HMY.out.mono ?_
  rintro e W4 ⟨rfl, b4⟩
  have HB4 := Lib.hid (HB3.out.trans (b4.mono HB3.out.size))
  have HB24 : Hid (W2.heap.size ≤ W4.heap.size) := by have h1 := heap_lt HG13.out; have h2 := b4.size; have h3 := HZ2.out; show _ ≤ _; omega
  have HG04 := Lib.hid ((b4.block _ (heap_lt HG03.out)).trans HG03.out)
  have HG14 := Lib.hid ((b4.block _ (heap_lt HG13.out)).trans HG13.out)
  clear b4
  cases MB with
  | false =>
    have HNN := Lib.hid (HNO.out rfl)
    have g9 := HG14.out
    obtain ⟨⟨r0, r1, r2, r3, r4⟩, rf0, rf1, rf2, rf3, rf4⟩ := five_fr g9
    have S5 := Lib.hid (set_five (.int .i8 0) (.int .i64 0) (.string ⟨#[]⟩) (.string ⟨#[]⟩) (.slice none 0 0) g9)
    go_wp2_with fail
    obtain ⟨s5, m5⟩ := S5.out
    generalize ((((((W4).setCell ⟨W.heap.size + 1, 0, none⟩ (.int .i8 0)).setCell ⟨W.heap.size + 1, 1, none⟩ (.int .i64 0)).setCell ⟨W.heap.size + 1, 2, none⟩ (.string ⟨#[]⟩)).setCell ⟨W.heap.size + 1, 3, none⟩ (.string ⟨#[]⟩)).setCell ⟨W.heap.size + 1, 4, none⟩ (.slice none 0 0)) = VX at s5 m5 ⊢
    obtain ⟨z0, z1, z2, z3, z4⟩ := five_of s5
    refine bodyPost_ret (v := .tuple #[.agg #[.int .i8 0, .int .i64 0, .string ⟨#[]⟩, .string ⟨#[]⟩, .slice none 0 0], .int .i64 2]) (by simp [results, Tryz.f35, go_sem, z0, z1, z2, z3, z4]) rfl ?_
    exact ⟨_, _, _, _, _, _, _, by rw [HNN.out.1], by rw [HNN.out.2]; exact zero_at _ _, HB4.out.trans (m5.below HB4.out.size (fun q (e : q = _) => by omega))⟩
  | true =>
  have HY := Lib.hid (HYES.out rfl)
  have hpat : patB PP = true := by have h := HPB.out.symm; unfold patOk at h; rw [Bool.and_eq_true] at h; exact h.2
  have HFG := Lib.hid (fil_any l PP hpat (by have := HN.out; omega))
  have HSP : Hid (∀ V, Mod (fun q => q = W.heap.size + 1) W4 V → Below W.heap.size W V) := fun V mV => HB4.out.trans (mV.below HB4.out.size (fun q (e : q = _) => by omega))
  clear hpat
  go_upto_region 3 with fail
  refine wp_region_held (S := fun V => Mod (fun q => q = W.heap.size + 1) W4 V) (by kernel_rfl) ?_
  show wpAnyH _ _ _ _ _ _ _ _ W4.drew
  have hS : Mod (fun q => q = W.heap.size + 1) W4 W4.drew := Mod.drew _ _
  have hg0 : W4.drew.heap[W.heap.size + 1]? = some (.cells #[.int .i8 0, .int .i64 0, .string ⟨#[]⟩, .string ⟨#[]⟩, .slice none 0 0] 44 (0, 0)) := HG14.out
  generalize W4.drew = V0 at hS hg0 ⊢
  refine wpAnyH_take (i := 0) (oi := ⟨some 15, _, _, _, _, _⟩) (v := ?_) rfl (by kernel_rfl) (by kernel_rfl) (by kernel_rfl) (fun _ _ _ h => h) (Or.inl ⟨by kernel_rfl, ?_⟩) (by assumption) ?_; rotate_left; (intro VV hSw; (try dsimp only at hSw); go_simp; first | done | with_reducible rfl); (try simp only [Act.put, sI, sZ, sS])
  refine wpAnyH_take (i := 2) (oi := ⟨some 17, _, _, _, _, _⟩) (v := ?_) rfl (by kernel_rfl) (by kernel_rfl) (by kernel_rfl) (fun _ _ _ h => h) (Or.inl ⟨by kernel_rfl, ?_⟩) (by assumption) ?_; rotate_left; (intro VV hSw; (try dsimp only at hSw); go_simp; first | done | with_reducible rfl); (try simp only [Act.put, sI, sZ, sS])
  refine wpAnyH_take (i := 3) (oi := ⟨some 18, _, _, _, _, _⟩) (v := ?_) rfl (by kernel_rfl) (by kernel_rfl) (by kernel_rfl) (fun _ _ _ h => h) (Or.inl ⟨by kernel_rfl, ?_⟩) (by assumption) ?_; rotate_left; (intro VV hSw; (try dsimp only at hSw); have hr := (hSw.block _ (heap_lt HG04.out) (by omega)).trans HG04.out; obtain ⟨x0, x1, x2, x3, x4⟩ := five_of hr; go_simp; first | done | with_reducible rfl); (try simp only [Act.put, sI, sZ, sS])
  refine wpAnyH_take (i := 8) (oi := ⟨some 23, _, _, _, _, _⟩) (v := ?_) rfl (by kernel_rfl) (by kernel_rfl) (by kernel_rfl) (fun _ _ _ h => h) (Or.inl ⟨by kernel_rfl, ?_⟩) (by assumption) ?_; rotate_left; (intro VV hSw; (try dsimp only at hSw); have hr := (hSw.block _ (heap_lt HG04.out) (by omega)).trans HG04.out; obtain ⟨x0, x1, x2, x3, x4⟩ := five_of hr; go_simp; first | done | with_reducible rfl); (try simp only [Act.put, sI, sZ, sS])
  refine wpAnyH_ready (rs := [1]) (by kernel_rfl) (by simp) ?_
  refine AllReadyH.cons (o := ⟨some 16, _, _, _, _, _⟩) rfl (fun K hK => ?_) AllReadyH.nil
  · rw [if_pos (by rfl)]
    go_simp
    have hBV := HSP.out V0 hS
    refine (newF_any W.heap.size l A l.length cap V0 (HR.out.keep (fun b hb => hBV.block b hb) (fun _ h => h)) hBV.size ((HE.out.under hBV).spans) HMB.out.symm).mono ?_
    rintro e V1 ⟨X, mb, rfl, hF1, b1⟩
    have hS1 := hS.trans (Mod.of_below (F := fun _ => False) b1) (fun _ _ f => f.elim)
    have hg1 := (b1.block _ (heap_lt hg0)).trans hg0
    have hXne : ¬ X = W.heap.size + 1 := fun e => by
      have h := hF1.box
      rw [e, hg1] at h
      injection h with h
      injection h with _ h _
      exact absurd h (by decide)
    obtain ⟨F, B, j, hkj, hj, hcell, hent, hcon⟩ := HFG.out W.heap.size V0 X mb
    rw [HPP.out] at hkj
    obtain rfl : xk = (j : Int) := hkj
    have hj0 : (0 : Int) ≤ (j : Int) := by omega
    have hj1 : (j : Int) < 11 := by omega
    have HBX : Hid (∀ V, Mod (fun q => q = W.heap.size + 1) V1 V → V.cell? ⟨X, 1 + j, none⟩ = some (.func (.func F) B #[])) := fun V mV => cell_of_row (i := 1 + j) ((mV.block _ (heap_lt hF1.box) hXne).trans hF1.box) hcell
    refine hK.out _ _ hS1 (fun hSn => ?_)
    clear hK K hSn; (try simp only [Act.put, sI, sZ, sS])
    refine wpAnyH_take (i := 4) (oi := ⟨some 19, _, _, _, _, _⟩) (v := ?_) rfl (by kernel_rfl) (by kernel_rfl) (by kernel_rfl) (fun _ _ _ h => h) (Or.inl ⟨by kernel_rfl, ?_⟩) (by assumption) ?_; rotate_left; (intro VV hSw; (try dsimp only at hSw); go_simp; first | done | with_reducible rfl); (try simp only [Act.put, sI, sZ, sS])
    refine wpAnyH_take (i := 5) (oi := ⟨some 20, _, _, _, _, _⟩) (v := ?_) rfl (by kernel_rfl) (by kernel_rfl) (by kernel_rfl) (fun _ _ _ h => h) (Or.inl ⟨by kernel_rfl, ?_⟩) (by assumption) ?_; rotate_left; (intro VV hSw; (try dsimp only at hSw); go_simp; first | done | with_reducible rfl); (try simp only [Act.put, sI, sZ, sS])
    refine wpAnyH_take (i := 6) (oi := ⟨some 21, _, _, _, _, _⟩) (v := ?_) rfl (by kernel_rfl) (by kernel_rfl) (by kernel_rfl) (fun _ _ _ h => h) (Or.inl ⟨by kernel_rfl, ?_⟩) (by assumption) ?_; rotate_left; (intro VV hSw; (try dsimp only at hSw); go_simp; first | done | with_reducible rfl); (try simp only [Act.put, sI, sZ, sS])
    refine wpAnyH_ready (rs := [7]) (by kernel_rfl) (by simp) ?_
    refine AllReadyH.cons (o := ⟨some 22, _, _, _, _, _⟩) rfl (fun K hK => ?_) AllReadyH.nil
    · rw [if_pos (by rfl)]
      have hp := HBX.out V1 (Mod.refl _ _)
      go_simp
      refine hK.out _ _ hS1 (fun hSn => ?_)
      clear hK K hSn; (try simp only [Act.put, sI, sZ, sS])
      refine wpAnyH_ready (rs := [9]) (by kernel_rfl) (by simp) ?_
      refine AllReadyH.cons (o := ⟨some 24, _, _, _, _, _⟩) rfl (fun K hK => ?_) AllReadyH.nil
      · rw [if_pos (by rfl)]
        have hen := hent (B.push (.agg #[.int .i8 (j : Int), .int .i64 xn, .string xs, .string xt, .slice NA ps.length nc])) V1
        go_simp
        refine (hcon V1 _ hF1 (HP.out.laterN ((HSP.out V1 hS1)))).mono ?_
        rintro e V2 ⟨k9, n9, s9, t9, A9, m9, c9, rfl, hv, hz, b5⟩
        have hS2 := hS1.trans (Mod.of_below (F := fun _ => False) b5) (fun _ _ f => f.elim)
        have hg2 := (b5.block _ (heap_lt hg1)).trans hg1
        refine hK.out _ _ hS2 (fun hSn => ?_)
        clear hK K hSn; (try simp only [Act.put, sI, sZ, sS])
        refine wpAnyH_take (i := 10) (oi := ⟨some 25, _, _, _, _, _⟩) (v := ?_) rfl (by kernel_rfl) (by kernel_rfl) (by kernel_rfl) (fun _ _ _ h => h) (Or.inl ⟨by kernel_rfl, ?_⟩) (by assumption) ?_; rotate_left; (intro VV hSw; (try dsimp only at hSw); go_simp; first | done | with_reducible rfl); (try simp only [Act.put, sI, sZ, sS])
        refine wpAnyH_take (i := 11) (oi := ⟨some 26, _, _, _, _, _⟩) (v := ?_) rfl (by kernel_rfl) (by kernel_rfl) (by kernel_rfl) (fun _ _ _ h => h) (Or.inl ⟨by kernel_rfl, ?_⟩) (by assumption) ?_; rotate_left; (intro VV hSw; (try dsimp only at hSw); go_simp; first | done | with_reducible rfl); (try simp only [Act.put, sI, sZ, sS])
        obtain ⟨⟨r0, r1, r2, r3, r4⟩, rf0, rf1, rf2, rf3, rf4⟩ := five_fr hg2
        obtain ⟨s5, m5⟩ := set_five (.int .i8 k9) (.int .i64 n9) (.string s9) (.string t9) (.slice A9 m9 c9) hg2
        refine wpAnyH_ready (rs := [12]) (by kernel_rfl) (by simp) ?_
        refine AllReadyH.cons (o := ⟨none, _, _, _, _, _⟩) rfl (fun K hK => ?_) AllReadyH.nil
        · rw [if_pos (by rfl)]
          go_simp
          generalize ((((((V2).setCell ⟨W.heap.size + 1, 0, none⟩ (.int .i8 k9)).setCell ⟨W.heap.size + 1, 1, none⟩ (.int .i64 n9)).setCell ⟨W.heap.size + 1, 2, none⟩ (.string s9)).setCell ⟨W.heap.size + 1, 3, none⟩ (.string t9)).setCell ⟨W.heap.size + 1, 4, none⟩ (.slice A9 m9 c9)) = VX at s5 m5 ⊢
          have hS9 : Mod (fun q => q = W.heap.size + 1) W4 VX := hS2.trans m5 (fun _ _ f => f)
          refine hK.out _ _ hS9 (fun hSn => ?_)
          clear hK K hSn; (try simp only [Act.put, sI, sZ, sS])
          refine wpAnyH_take (i := 13) (oi := ⟨some 5, _, _, _, _, _⟩) (v := ?_) rfl (by kernel_rfl) (by kernel_rfl) (by kernel_rfl) (fun _ _ _ h => h) (Or.inl ⟨by kernel_rfl, ?_⟩) (by assumption) ?_; rotate_left; (intro VV hSw; (try dsimp only at hSw); go_simp; first | done | with_reducible rfl); (try simp only [Act.put, sI, sZ, sS])
          refine wpAnyH_done (by kernel_rfl) ?_ _
          clear r0 rf0 r1 rf1 r2 rf2 r3 rf3 r4 rf4
          obtain ⟨z0, z1, z2, z3, z4⟩ := five_of s5
          go_wp2_with fail
          refine bodyPost_ret (v := .tuple #[.agg #[.int .i8 k9, .int .i64 n9, .string s9, .string t9, .slice A9 m9 c9], .int .i64 (filE l PP)]) (by simp [results, Tryz.f35, go_sem, z0, z1, z2, z3, z4]) rfl ?_
          refine ⟨_, _, _, _, _, _, _, by rw [HY.out.1], ?_, HSP.out VX hS9⟩
          rw [HY.out.2]
          have h1 := hS1.size
          have h2 := b5.size
          have h3 := m5.size
          have h4 := HB24.out
          have h5 := HZ2.out
          cases hg : gvT l PP with
          | none =>
            have he := hz hg
            rw [he]
            exact zero_at _ _
          | some y => exact (hv y hg).keep (fun q hb => m5.block q (by rcases hb with h | h <;> omega) (by rcases hb with h | h <;> omega)) (fun q hb => by show q < _; rcases hb with h | h <;> omega)
end Go.Proofs.YtkceoiaaiaomoaaGreatDoor
end
section
set_option linter.unusedVariables false
set_option linter.unusedSimpArgs false
namespace Go.Proofs.YtkceoiaaiaomoaaGreatDoor
open Go.RowKit

theorem findB_some (a b : List Bd) (s : ByteArray) (x : Tm) (h : findB a s = some x) : findB (a ++ b) s = some x := by rw [findB_app, h]
theorem findB_new (a b : List Bd) (s : ByteArray) (t : Tm) (h : findB a s = none) : findB (a ++ [(s, t)] ++ b) s = some t := by
  rw [findB_app, findB_app, h]
  dsimp only
  rw [findB_one]
theorem pat_cases {k n : Int} {s t : ByteArray} {ps : List Tm} (h : patB (.mk k n s t ps) = true) :
    (k = 5 ∧ ps = [] ∧ nameB s 3 = true) ∨ (k = 6 ∧ ps = []) ∨ (k = 7 ∧ ps = []) ∨ (k = 8 ∧ ps = []) ∨ ((k = 9 ∧ ps.length = 2 ∨ k = 10) ∧ ∀ y ∈ ps, patB y = true) := by
  have h0 := h
  unfold patB leafB at h
  simp only [Bool.or_eq_true, Bool.and_eq_true, beq_iff_eq, List.isEmpty_iff] at h
  rcases h with ⟨⟨h1, _⟩, h2⟩ | h
  · rcases h2 with ((h2 | h2) | h2) | h2
    · exact .inl ⟨h2.1.1, h1, h2.2⟩
    · exact .inr (.inl ⟨h2.1.1, h1⟩)
    · exact .inr (.inr (.inl ⟨h2.1.1, h1⟩))
    · exact .inr (.inr (.inr (.inl ⟨h2.1.1, h1⟩)))
  · refine .inr (.inr (.inr (.inr ⟨?_, ?_⟩)))
    · rcases h.1.1.1.1 with h | h
      · exact .inr h
      · exact .inl h
    · refine pats_of h0 ?_
      rcases h.1.1.1.1 with h | h
      · exact .inr h
      · exact .inl h.1
theorem goPs_nil (ts : List Tm) (l : List Bd) : goPs [] ts l = some l := by
  rw [goPs]; intro a b c d e; cases e
theorem goPs_con (p t : Tm) (ps ts : List Tm) (l : List Bd) : goPs (p :: ps) (t :: ts) l = match goP p t l with | some l' => goPs ps ts l' | none => none := by rw [goPs] <;> (cases goP p t l <;> rfl)
theorem fill_rows {l : List Bd} : ∀ {ps vs : List Tm}, (∀ y ∈ ps, ∀ v, gvT l y = some v → goP y v l = some l) → gvTsO (gvT l) ps = some vs → goPs ps vs l = some l
  | [], vs, _, _ => goPs_nil _ _
  | x :: ps, vs, hg, h => by
    rw [gvTsO] at h
    cases hx : gvT l x with
    | none => rw [hx] at h; cases h
    | some v =>
      cases hp : gvTsO (gvT l) ps with
      | none => rw [hx, hp] at h; cases h
      | some vs0 =>
        rw [hx, hp] at h
        cases h
        rw [goPs_con, hg x (by simp) v hx]
        exact fill_rows (fun y hy => hg y (by simp [hy])) hp
theorem fill_goes (l : List Bd) (p : Tm) : patB p = true → ∀ x, gvT l p = some x → goP p x l = some l := by
  induction p using Tm.ind with
  | h k n s t ps ih =>
    intro hp x h
    rw [gvT_mk] at h
    obtain ⟨vs, hvs, hq⟩ := Option.bind_eq_some_iff.1 h
    clear h
    rcases pat_cases hp with ⟨rfl, rfl, _⟩ | ⟨rfl, rfl⟩ | ⟨rfl, rfl⟩ | ⟨rfl, rfl⟩ | ⟨hk, hps⟩
    · unfold putT varT at hq
      rw [if_pos rfl] at hq
      by_cases hu : s.data.toList = [95]
      · rw [if_pos hu] at hq; cases hq
      · rw [if_neg hu] at hq
        rw [goP_var, if_neg hu, hq]
        exact if_pos (ordN_self x)
    · unfold putT at hq
      rw [if_neg (by decide), if_pos rfl] at hq
      cases hq
      rw [goP_6]; exact if_pos ⟨rfl, rfl⟩
    · unfold putT at hq
      rw [if_neg (by decide), if_neg (by decide), if_pos rfl] at hq
      cases hq
      rw [goP_7]; exact if_pos ⟨rfl, rfl⟩
    · unfold putT at hq
      rw [if_neg (by decide), if_neg (by decide), if_neg (by decide), if_pos rfl] at hq
      cases hq
      rw [goP_8]; exact if_pos rfl
    · have hrow := fill_rows (fun y hy v hv => ih y hy (hps y hy) v hv) hvs
      have hlen := gvTsO_len hvs
      rcases hk with ⟨rfl, h2⟩ | rfl
      · unfold putT at hq
        rw [if_neg (by decide), if_neg (by decide), if_neg (by decide), if_neg (by decide), if_pos rfl] at hq
        obtain ⟨a, b, rfl⟩ := two_of (hlen.trans h2)
        unfold consR at hq
        dsimp only at hq
        split at hq
        · cases hq
          rw [goP_9]
          exact (if_pos ⟨rfl, hlen.symm⟩).trans hrow
        · cases hq
      · unfold putT at hq
        rw [if_neg (by decide), if_neg (by decide), if_neg (by decide), if_neg (by decide), if_neg (by decide), if_pos rfl] at hq
        unfold tupR at hq
        split at hq
        · cases hq
          rw [goP_10]
          exact (if_pos ⟨rfl, hlen.symm⟩).trans hrow
        · cases hq
def Ext (l l' : List Bd) : Prop := ∃ ex, l' = l ++ ex ∧ ∀ b ∈ ex, bdOk b = true
theorem Ext.refl (l : List Bd) : Ext l l := ⟨[], by simp, fun b hb => by cases hb⟩
theorem Ext.trans {a b c : List Bd} (h : Ext a b) (g : Ext b c) : Ext a c := by
  obtain ⟨x, rfl, hx⟩ := h
  obtain ⟨y, rfl, hy⟩ := g
  exact ⟨x ++ y, by rw [List.append_assoc], fun b hb => by rcases List.mem_append.1 hb with h | h; (exact hx b h); (exact hy b h)⟩
def AgainP (p : Tm) : Prop := ∀ t l l', goP p t l = some l' → checkN t = 0 → Ext l l' ∧ ∀ ex, goP p t (l' ++ ex) = some (l' ++ ex)
theorem again_rows : ∀ {ps : List Tm} {ts : List Tm} {l l' : List Bd}, (∀ y ∈ ps, AgainP y) → goPs ps ts l = some l' → (∀ y ∈ ts, checkN y = 0) → Ext l l' ∧ ∀ ex, goPs ps ts (l' ++ ex) = some (l' ++ ex)
  | [], ts, l, l', _, h, _ => by
    rw [goPs_nil] at h
    cases h
    exact ⟨Ext.refl _, fun ex => goPs_nil _ _⟩
  | p :: ps, [], l, l', _, h, _ => by
    have hz : ∀ m, goPs (p :: ps) [] m = some m := fun m => by rw [goPs]; intro a b c d e f; cases f
    rw [hz] at h
    cases h
    exact ⟨Ext.refl _, fun ex => hz _⟩
  | p :: ps, t :: ts, l, l', hp, h, hts => by
    rw [goPs_con] at h
    cases hg : goP p t l with
    | none => rw [hg] at h; cases h
    | some l1 =>
      rw [hg] at h
      obtain ⟨e1, a1⟩ := hp p (by simp) t l l1 hg (hts t (by simp))
      obtain ⟨e2, a2⟩ := again_rows (fun y hy => hp y (by simp [hy])) h (fun y hy => hts y (by simp [hy]))
      refine ⟨e1.trans e2, fun ex => ?_⟩
      obtain ⟨x, hx, -⟩ := e2
      rw [goPs_con, hx, List.append_assoc, a1 (x ++ ex)]
      dsimp only
      rw [← List.append_assoc, ← hx]
      exact a2 ex
theorem again_any (p : Tm) : patB p = true → AgainP p := by
  induction p using Tm.ind with
  | h k n s u ps ih =>
    intro hp t l l' h ht
    rcases pat_cases hp with ⟨rfl, rfl, hn⟩ | ⟨rfl, rfl⟩ | ⟨rfl, rfl⟩ | ⟨rfl, rfl⟩ | ⟨hk, hps⟩
    · rw [goP_var] at h
      by_cases hu : s.data.toList = [95]
      · rw [if_pos hu] at h
        cases h
        exact ⟨Ext.refl _, fun ex => by rw [goP_var, if_pos hu]⟩
      · rw [if_neg hu] at h
        cases hf : findB l s with
        | some x =>
          rw [hf] at h
          dsimp only at h
          by_cases ho : ordN x t = 0
          · rw [if_pos ho] at h
            cases h
            exact ⟨Ext.refl _, fun ex => by rw [goP_var, if_neg hu, findB_some _ _ _ _ hf]; exact if_pos ho⟩
          · rw [if_neg ho] at h; cases h
        | none =>
          rw [hf] at h
          cases h
          refine ⟨⟨[(s, t)], rfl, fun b hb => ?_⟩, fun ex => ?_⟩
          · rw [List.mem_singleton.1 hb]
            unfold bdOk
            dsimp only
            rw [hn, ht, beq_eq_false_iff_ne.2 hu]; rfl
          · rw [goP_var, if_neg hu, findB_new _ _ _ _ hf]
            exact if_pos (ordN_self t)
    · rw [goP_6] at h
      split at h
      · rename_i hc
        cases h
        exact ⟨Ext.refl _, fun ex => by rw [goP_6]; exact if_pos hc⟩
      · cases h
    · rw [goP_7] at h
      split at h
      · rename_i hc
        cases h
        exact ⟨Ext.refl _, fun ex => by rw [goP_7]; exact if_pos hc⟩
      · cases h
    · rw [goP_8] at h
      split at h
      · rename_i hc
        cases h
        exact ⟨Ext.refl _, fun ex => by rw [goP_8]; exact if_pos hc⟩
      · cases h
    · rcases hk with ⟨rfl, h2⟩ | rfl
      · rw [goP_9] at h
        split at h
        · rename_i hc
          obtain ⟨e, a⟩ := again_rows (fun y hy => ih y hy (hps y hy)) h (fun y hy => check_part ht hy)
          exact ⟨e, fun ex => by rw [goP_9, if_pos hc]; exact a ex⟩
        · cases h
      · rw [goP_10] at h
        split at h
        · rename_i hc
          obtain ⟨e, a⟩ := again_rows (fun y hy => ih y hy (hps y hy)) h (fun y hy => check_part ht hy)
          exact ⟨e, fun ex => by rw [goP_10, if_pos hc]; exact a ex⟩
        · cases h
def NoAny (p : Tm) : Prop := ∀ y ∈ p.pre, y.k = 5 → ¬ y.s.data.toList = [95]
theorem NoAny.part {k n : Int} {s t : ByteArray} {ps : List Tm} (h : NoAny (.mk k n s t ps)) : ∀ y ∈ ps, NoAny y := fun y hy z hz => h z (by rw [Tm.pre]; exact List.mem_cons_of_mem _ (pres_sub11 hy hz))
def BackP (p : Tm) : Prop := ∀ t l l', goP p t l = some l' → checkN t = 0 → (∀ b ∈ l, checkN b.2 = 0) → NoAny p → ∀ ex, gvT (l' ++ ex) p = some t
theorem back_rows : ∀ {ps ts : List Tm} {l l' : List Bd}, (∀ y ∈ ps, BackP y ∧ patB y = true ∧ NoAny y) → goPs ps ts l = some l' → ps.length = ts.length → (∀ y ∈ ts, checkN y = 0) → (∀ b ∈ l, checkN b.2 = 0) → ∀ ex, gvTsO (gvT (l' ++ ex)) ps = some ts
  | [], [], l, l', _, h, _, _, _, ex => rfl
  | [], t :: ts, l, l', _, h, hl, _, _, ex => by simp at hl
  | p :: ps, [], l, l', _, h, hl, _, _, ex => by simp at hl
  | p :: ps, t :: ts, l, l', hp, h, hl, hts, hok, ex => by
    rw [goPs_con] at h
    cases hg : goP p t l with
    | none => rw [hg] at h; cases h
    | some l1 =>
      rw [hg] at h
      obtain ⟨hb, hpat, hna⟩ := hp p (by simp)
      have hok1 := goP_ok p t l l1 hg (hts t (by simp)) hok
      have hr := back_rows (fun y hy => hp y (by simp [hy])) h (by simpa using hl) (fun y hy => hts y (by simp [hy])) hok1 ex
      obtain ⟨e2, -⟩ := again_rows (fun y hy => again_any y (hp y (by simp [hy])).2.1) h (fun y hy => hts y (by simp [hy]))
      obtain ⟨x, hx, -⟩ := e2
      have h1 := hb t l l1 hg (hts t (by simp)) hok hna (x ++ ex)
      rw [← List.append_assoc, ← hx] at h1
      rw [gvTsO, h1, hr]
theorem sumN_pres (l : List Tm) : sumN l ≤ (Tm.pres l).length := by
  induction l with
  | nil => simp [sumN]
  | cons x l ih =>
    rw [sumN, Tm.pres, List.length_append]
    show min 257 x.nodes + sumN l ≤ x.nodes + _
    omega
theorem fitN_whole {k n : Int} {s t : ByteArray} {ts : List Tm} (h : checkN (.mk k n s t ts) = 0) : fitN 1 ts = 0 := by
  have h1 := (check_valid h).2
  rw [Tm.nodes_mk] at h1
  have h2 := sumN_pres ts
  unfold fitN
  rw [if_neg, if_neg (by omega)]
  intro hq
  obtain ⟨y, hy, h3⟩ := List.any_eq_true.1 hq
  rw [check_part h (y := y) hy] at h3; exact absurd h3 (by decide)
theorem back_any (p : Tm) : patB p = true → BackP p := by
  induction p using Tm.ind with
  | h k n s u ps ih =>
    intro hp t l l' h ht hok hna ex
    have hv := (check_valid ht).1
    obtain ⟨tk, tn, ts, tu, tl⟩ := t
    have hcs := valid_cases hv.own
    rcases pat_cases hp with ⟨rfl, rfl, hn⟩ | ⟨rfl, rfl⟩ | ⟨rfl, rfl⟩ | ⟨rfl, rfl⟩ | ⟨hk, hps⟩
    · have hu : ¬ s.data.toList = [95] := hna (.mk 5 n s u []) (by rw [Tm.pre]; simp) rfl
      rw [gv_leaf]
      unfold putT varT
      rw [if_pos rfl, if_neg hu]
      rw [goP_var, if_neg hu] at h
      cases hf : findB l s with
      | some x =>
        rw [hf] at h
        dsimp only at h
        by_cases ho : ordN x (.mk tk tn ts tu tl) = 0
        · rw [if_pos ho] at h
          cases h
          have hx := ordN_zero x _ (check_valid (hok _ (findB_mem hf))).1 hv ho
          rw [findB_some _ _ _ _ hf, hx]
        · rw [if_neg ho] at h; cases h
      | none =>
        rw [hf] at h
        cases h
        exact findB_new _ _ _ _ hf
    · rw [gv_leaf]
      unfold putT
      rw [if_neg (by decide), if_pos rfl]
      rw [goP_6] at h
      split at h
      · rename_i hc
        obtain ⟨h1, h2⟩ := hc
        change tk = 0 at h1
        change tn = n at h2
        subst h1 h2
        rcases hcs with h | h | h | h | h | h | h | h
        · obtain ⟨_, rfl, rfl, rfl⟩ := h; rfl
        all_goals exact absurd h.1 (by decide)
      · cases h
    · rw [gv_leaf]
      unfold putT
      rw [if_neg (by decide), if_neg (by decide), if_pos rfl]
      rw [goP_7] at h
      split at h
      · rename_i hc
        obtain ⟨h1, h2⟩ := hc
        change tk = 1 at h1
        change ts = s at h2
        subst h1 h2
        rcases hcs with h | h | h | h | h | h | h | h
        · exact absurd h.1 (by decide)
        · obtain ⟨_, rfl, rfl, rfl⟩ := h; rfl
        all_goals exact absurd h.1 (by decide)
      · cases h
    · rw [gv_leaf]
      unfold putT
      rw [if_neg (by decide), if_neg (by decide), if_neg (by decide), if_pos rfl]
      rw [goP_8] at h
      split at h
      · rename_i hc
        change tk = 6 at hc
        subst hc
        rcases hcs with h | h | h | h | h | h | h | h
        · exact absurd h.1 (by decide)
        · exact absurd h.1 (by decide)
        · exact absurd h.1 (by decide)
        · exact absurd h.1 (by decide)
        · exact absurd h.1 (by decide)
        · exact absurd h.1 (by decide)
        · obtain ⟨_, rfl, rfl, rfl, rfl⟩ := h; rfl
        · exact absurd h.1 (by decide)
      · cases h
    · have hsub : ∀ y ∈ ps, BackP y ∧ patB y = true ∧ NoAny y := fun y hy => ⟨ih y hy (hps y hy), hps y hy, hna.part y hy⟩
      have hfit := fitN_whole ht
      rcases hk with ⟨rfl, h2⟩ | rfl
      · rw [goP_9] at h
        split at h
        · rename_i hc
          obtain ⟨h1, h3⟩ := hc
          change tk = 7 at h1
          change ps.length = tl.length at h3
          subst h1
          have hr := back_rows hsub h h3 (fun y hy => check_part ht hy) hok ex
          rw [gvT_mk, hr]
          show putT _ 9 n s tl = _
          unfold putT
          rw [if_neg (by decide), if_neg (by decide), if_neg (by decide), if_neg (by decide), if_pos rfl]
          obtain ⟨a, b, rfl⟩ := two_of (h3.symm.trans h2)
          unfold consR
          dsimp only
          rw [if_pos hfit]
          rcases hcs with h | h | h | h | h | h | h | h
          · exact absurd h.1 (by decide)
          · exact absurd h.1 (by decide)
          · exact absurd h.1 (by decide)
          · exact absurd h.1 (by decide)
          · exact absurd h.1 (by decide)
          · exact absurd h.1 (by decide)
          · exact absurd h.1 (by decide)
          · obtain ⟨_, rfl, rfl, rfl, _⟩ := h; rfl
        · cases h
      · rw [goP_10] at h
        split at h
        · rename_i hc
          obtain ⟨h1, h3⟩ := hc
          change tk = 5 at h1
          change ps.length = tl.length at h3
          subst h1
          have hr := back_rows hsub h h3 (fun y hy => check_part ht hy) hok ex
          rw [gvT_mk, hr]
          show putT _ 10 n s tl = _
          unfold putT
          rw [if_neg (by decide), if_neg (by decide), if_neg (by decide), if_neg (by decide), if_neg (by decide), if_pos rfl]
          unfold tupR
          rw [if_pos hfit]
          rcases hcs with h | h | h | h | h | h | h | h
          · exact absurd h.1 (by decide)
          · exact absurd h.1 (by decide)
          · exact absurd h.1 (by decide)
          · exact absurd h.1 (by decide)
          · exact absurd h.1 (by decide)
          · obtain ⟨_, rfl, rfl, rfl⟩ := h; rfl
          · exact absurd h.1 (by decide)
          · exact absurd h.1 (by decide)
        · cases h
end Go.Proofs.YtkceoiaaiaomoaaGreatDoor
end
