/- Layer 11: guard.Test, guard.Holds. -/
import Derived.Test.YtkceoiaaiaomoaaGreatDoorKGd8
set_option linter.unusedVariables false
set_option linter.unusedSimpArgs false
namespace Go.Proofs.YtkceoiaaiaomoaaGreatDoor
open Go.RowKit

def tstT (l : List Bd) : Tm → Bool
  | .mk k _ s _ ps => if k = 12 then (match ps with | [a] => isR l s a | _ => false) else (match ps with | [a, b] => cmpT l s a b | _ => false)
theorem tst_cases {k n : Int} {s t : ByteArray} {ps : List Tm} (h : testB (.mk k n s t ps) = true) : (k = 11 ∧ ∃ a b, ps = [a, b] ∧ guaB a = true ∧ guaB b = true) ∨ (k = 12 ∧ ∃ a, ps = [a] ∧ guaB a = true) := by
  simp only [testB, guasB_eq, Bool.or_eq_true, Bool.and_eq_true, beq_iff_eq] at h
  obtain ⟨⟨⟨h1, _⟩, _⟩, h2⟩ := h
  rcases h1 with ⟨⟨h1, _⟩, h3⟩ | ⟨⟨h1, _⟩, h3⟩
  · obtain ⟨a, b, rfl⟩ := two_of h3
    simp at h2
    exact .inl ⟨h1, a, b, rfl, h2.1, h2.2⟩
  · match ps, h3 with
    | [a], _ =>
      simp at h2
      exact .inr ⟨h1, a, rfl, h2⟩
set_option maxHeartbeats 4000000 in
set_option maxRecDepth 100000 in
theorem holdsT_any (n0 : Nat) (w0 : World) (l : List Bd) (gv gp gm : Nat) (x : Tm) (hx : testB x = true) (hn : x.nodes ≤ 100000) (v : Value) (W : World) (hU : Und n0 w0 l gv gp gm W) (hM : mayL l = true) (hW : WTab11 W) (hT : TmAt (· < W.heap.size) W x v) :
    Calls Tryz.prog 98 #[.agg #[vf11 gv gp], v] W fun e w' => e = .returned (.bool (tstT l x)) ∧ Below W.heap.size W w' := by
  obtain ⟨k, n, s, t, ps⟩ := x
  have hnp : (Tm.pres ps).length + 1 ≤ 100000 := by rw [Tm.nodes_mk] at hn; exact hn
  have hnm : ∀ y ∈ ps, y.nodes ≤ 100000 := fun y hy => by have := Tm.nodes_mem hy; omega
  obtain ⟨NA, nc, rfl, hRn, -⟩ := hT.parts
  have g0 := there_of (.cells #[.int .i8 k, .int .i64 n, .string s, .string t, .slice NA ps.length nc] 25) (block_alloc W (.cells #[.func (.func 160) #[] #[.pointer (some ⟨gv, 0, none⟩), .pointer (some ⟨gp, 0, none⟩)]] 137))
  have g1 := block_alloc (W.alloc (.cells #[.func (.func 160) #[] #[.pointer (some ⟨gv, 0, none⟩), .pointer (some ⟨gp, 0, none⟩)]] 137)) (.cells #[.int .i8 k, .int .i64 n, .string s, .string t, .slice NA ps.length nc] 25)
  rw [World.size_alloc] at g1
  have b2 : Below W.heap.size W ((W.alloc (.cells #[.func (.func 160) #[] #[.pointer (some ⟨gv, 0, none⟩), .pointer (some ⟨gp, 0, none⟩)]] 137)).alloc (.cells #[.int .i8 k, .int .i64 n, .string s, .string t, .slice NA ps.length nc] 25)) := ((Below.refl _ W).alloc (Nat.le_refl _) _).alloc (by simp) _
  obtain ⟨W2, hW2⟩ : ∃ W2, W2 = (W.alloc (.cells #[.func (.func 160) #[] #[.pointer (some ⟨gv, 0, none⟩), .pointer (some ⟨gp, 0, none⟩)]] 137)).alloc (.cells #[.int .i8 k, .int .i64 n, .string s, .string t, .slice NA ps.length nc] 25) := ⟨_, rfl⟩
  rw [← hW2] at g0 g1 b2
  have x0 : W2.cell? ⟨W.heap.size, 0, none⟩ = some (.func (.func 160) #[] #[.pointer (some ⟨gv, 0, none⟩), .pointer (some ⟨gp, 0, none⟩)]) := cell_of_row (i := 0) g0 rfl
  obtain ⟨y0, y1, y2, y3, y4⟩ := five_of g1
  rcases tst_cases hx with ⟨rfl, a, b, hab, ha, hb⟩ | ⟨rfl, a, hab, ha⟩
  · have HC := Lib.hid (cmpT_any n0 w0 l gv gp gm 11 n s t a b _ W2 (hU.under b2) hM (hW.under b2) ha (hnm a (by rw [hab]; simp)) hb (hnm b (by rw [hab]; simp)) (by rw [← hab]; exact hT.laterN b2))
    have HPO : Hid (tstT l (.mk 11 n s t ps) = cmpT l s a b) := by show _ = _; rw [hab]; rfl
    have HB2 := Lib.hid b2
    unfold vf11 at HC ⊢
    clear g0 g1 b2 hT hU hW hRn hx ha hb hnm hn hnp hab
    go_enter Tryz.func98, Tryz.ntmps98
    go_upto_region 1 with fail
    rw [← hW2]
    clear hW2
    go_wp2_with fail
    refine HC.out.mono ?_
    rintro e W3 ⟨rfl, b3⟩
    go_wp2_with fail
    go_ret
    exact ⟨ret_bool HPO.out.symm, HB2.out.trans (b3.mono HB2.out.size)⟩
  · have HC := Lib.hid (isT_any n0 w0 l gv gp gm 12 n s t a _ W2 (hU.under b2) hM (hW.under b2) ha (hnm a (by rw [hab]; simp)) (by rw [← hab]; exact hT.laterN b2))
    have HPO : Hid (tstT l (.mk 12 n s t ps) = isR l s a) := by show _ = _; rw [hab]; rfl
    have HB2 := Lib.hid b2
    unfold vf11 at HC ⊢
    clear g0 g1 b2 hT hU hW hRn hx ha hnm hn hnp hab
    go_enter Tryz.func98, Tryz.ntmps98
    go_upto_region 1 with fail
    rw [← hW2]
    clear hW2
    go_wp2_with fail
    refine HC.out.mono ?_
    rintro e W3 ⟨rfl, b3⟩
    go_wp2_with fail
    go_ret
    exact ⟨ret_bool HPO.out.symm, HB2.out.trans (b3.mono HB2.out.size)⟩
structure Env11 (w : World) : Prop where
  env : Env7 w
  words : WTab11 w
theorem Env11.under {w w' : World} (h : Env11 w) (b : Below w.heap.size w w') : Env11 w' := ⟨h.env.under b, h.words.under b⟩
def testR (l : List Bd) (x : Tm) : Bool := (fitsB x && testB x) && (mayL l && tstT l x)
def holdR (l : List Bd) (g : Tm) : Bool := (fitsB g && guardB g) && (mayL l && g.l.all (tstT l))
set_option maxHeartbeats 4000000 in
set_option maxRecDepth 100000 in
theorem Test_any (l : List Bd) (x : Tm) (v : Value) (A : Option Addr) (m cap : Nat) (W : World) (hT : TmAt (· < W.heap.size) W x v) (hR : BRow (· < W.heap.size) W A m cap l) (hN : x.nodes ≤ 8200) (hE : Env11 W) :
    Calls Tryz.prog 47 #[v, .slice A m cap] W fun e w' => e = .returned (.bool (testR l x)) ∧ Below W.heap.size W w' := by
  obtain ⟨X, hX⟩ : ∃ X, X = x := ⟨_, rfl⟩
  obtain ⟨k, n, s, t, ps⟩ := x
  obtain ⟨NA, nc, rfl, hRn, -⟩ := hT.parts
  rw [← hX] at hT hN ⊢
  have HX := Lib.hid hX
  clear hX
  have b2 : Below W.heap.size W (W.alloc (.cells #[.int .i8 k, .int .i64 n, .string s, .string t, .slice NA ps.length nc] 25)) := (Below.refl _ W).alloc (Nat.le_refl _) _
  have g0 := block_alloc W (.cells #[.int .i8 k, .int .i64 n, .string s, .string t, .slice NA ps.length nc] 25)
  obtain ⟨W2, hW2⟩ : ∃ W2, W2 = W.alloc (.cells #[.int .i8 k, .int .i64 n, .string s, .string t, .slice NA ps.length nc] 25) := ⟨_, rfl⟩
  rw [← hW2] at g0 b2
  have HB2 := Lib.hid b2
  have HG0 := Lib.hid g0
  have HT := Lib.hid hT
  have HR := Lib.hid hR
  have HE := Lib.hid hE
  have HN := Lib.hid hN
  obtain ⟨x0, x1, x2, x3, x4⟩ := five_of g0
  clear g0 b2 hT hR hE hN hRn
  go_enter Tryz.func47, Tryz.ntmps47
  go_upto_region 1 with fail
  rw [← hW2]
  clear hW2
  refine wp_region_held (S := fun V => Below W2.heap.size W2 V) (by kernel_rfl) ?_
  show wpAnyH _ _ _ _ _ _ _ _ W2.drew
  have hS : Below W2.heap.size W2 W2.drew := ⟨rfl, rfl, rfl, Nat.le_refl _, fun _ _ => rfl⟩
  generalize W2.drew = V0 at hS ⊢
  refine wpAnyH_take (i := 0) (oi := ⟨some 5, _, _, _, _, _⟩) (v := ?_) rfl (by kernel_rfl) (by kernel_rfl) (by kernel_rfl) (fun _ _ _ h => h) (Or.inl ⟨by kernel_rfl, ?_⟩) (by assumption) ?_; rotate_left; (intro VV hSw; (try dsimp only at hSw); have hr := (hSw.block _ (heap_lt HG0.out)).trans HG0.out; obtain ⟨y0, y1, y2, y3, y4⟩ := five_of hr; go_simp; first | done | with_reducible rfl); (try simp only [Act.put, sI, sZ, sS])
  refine wpAnyH_ready (rs := [1]) (by kernel_rfl) (by simp) ?_
  refine AllReadyH.cons (o := ⟨some 6, _, _, _, _, _⟩) rfl (fun K hK => ?_) AllReadyH.nil
  · rw [if_pos (by rfl)]
    go_simp
    refine (test7_ok X _ V0 (HT.out.laterN (HB2.out.trans (hS.mono HB2.out.size))) HN.out (HE.out.env.under (HB2.out.trans (hS.mono HB2.out.size)))).mono ?_
    rintro e V1 ⟨rfl, b1⟩
    have hS1 := hS.trans (b1.mono hS.size)
    refine hK.out _ _ hS1 (fun hSn => ?_)
    clear hK K hSn; (try simp only [Act.put, sI, sZ, sS])
    clear hS b1
    have hS := hS1
    clear hS1
    refine wpAnyH_take (i := 2) (oi := ⟨some 7, _, _, _, _, _⟩) (v := ?_) rfl (by kernel_rfl) (by kernel_rfl) (by kernel_rfl) (fun _ _ _ h => h) (Or.inl ⟨by kernel_rfl, ?_⟩) (by assumption) ?_; rotate_left; (intro VV hSw; (try dsimp only at hSw); go_simp; first | done | with_reducible rfl); (try simp only [Act.put, sI, sZ, sS])
    cases hbt : (fitsB X && testB X) with
    | false =>
      refine wpAnyH_take (i := 3) (oi := ⟨some 8, _, _, _, _, _⟩) (v := undef) rfl (by kernel_rfl) (by kernel_rfl) (by kernel_rfl) (fun _ _ _ h => h) (Or.inr ⟨by kernel_rfl, rfl⟩) (by assumption) ?_; (try simp only [Act.put, sI, sZ, sS])
      refine wpAnyH_take (i := 4) (oi := ⟨some 9, _, _, _, _, _⟩) (v := undef) rfl (by kernel_rfl) (by kernel_rfl) (by kernel_rfl) (fun _ _ _ h => h) (Or.inr ⟨by kernel_rfl, rfl⟩) (by assumption) ?_; (try simp only [Act.put, sI, sZ, sS])
      refine wpAnyH_take (i := 5) (oi := ⟨some 10, _, _, _, _, _⟩) (v := ?_) rfl (by kernel_rfl) (by kernel_rfl) (by kernel_rfl) (fun _ _ _ h => h) (Or.inl ⟨by kernel_rfl, ?_⟩) (by assumption) ?_; rotate_left; (intro VV hSw; (try dsimp only at hSw); go_simp; first | done | with_reducible rfl); (try simp only [Act.put, sI, sZ, sS])
      refine wpAnyH_take (i := 6) (oi := ⟨some 11, _, _, _, _, _⟩) (v := ?_) rfl (by kernel_rfl) (by kernel_rfl) (by kernel_rfl) (fun _ _ _ h => h) (Or.inl ⟨by kernel_rfl, ?_⟩) (by assumption) ?_; rotate_left; (intro VV hSw; (try dsimp only at hSw); go_simp; first | done | with_reducible rfl); (try simp only [Act.put, sI, sZ, sS])
      refine wpAnyH_take (i := 7) (oi := ⟨some 12, _, _, _, _, _⟩) (v := undef) rfl (by kernel_rfl) (by kernel_rfl) (by kernel_rfl) (fun _ _ _ h => h) (Or.inr ⟨by kernel_rfl, rfl⟩) (by assumption) ?_; (try simp only [Act.put, sI, sZ, sS])
      refine wpAnyH_take (i := 8) (oi := ⟨some 13, _, _, _, _, _⟩) (v := undef) rfl (by kernel_rfl) (by kernel_rfl) (by kernel_rfl) (fun _ _ _ h => h) (Or.inr ⟨by kernel_rfl, rfl⟩) (by assumption) ?_; (try simp only [Act.put, sI, sZ, sS])
      refine wpAnyH_take (i := 9) (oi := ⟨some 14, _, _, _, _, _⟩) (v := undef) rfl (by kernel_rfl) (by kernel_rfl) (by kernel_rfl) (fun _ _ _ h => h) (Or.inr ⟨by kernel_rfl, rfl⟩) (by assumption) ?_; (try simp only [Act.put, sI, sZ, sS])
      refine wpAnyH_take (i := 10) (oi := ⟨some 15, _, _, _, _, _⟩) (v := undef) rfl (by kernel_rfl) (by kernel_rfl) (by kernel_rfl) (fun _ _ _ h => h) (Or.inr ⟨by kernel_rfl, rfl⟩) (by assumption) ?_; (try simp only [Act.put, sI, sZ, sS])
      refine wpAnyH_take (i := 11) (oi := ⟨some 16, _, _, _, _, _⟩) (v := undef) rfl (by kernel_rfl) (by kernel_rfl) (by kernel_rfl) (fun _ _ _ h => h) (Or.inr ⟨by kernel_rfl, rfl⟩) (by assumption) ?_; (try simp only [Act.put, sI, sZ, sS])
      refine wpAnyH_take (i := 12) (oi := ⟨some 17, _, _, _, _, _⟩) (v := ?_) rfl (by kernel_rfl) (by kernel_rfl) (by kernel_rfl) (fun _ _ _ h => h) (Or.inl ⟨by kernel_rfl, ?_⟩) (by assumption) ?_; rotate_left; (intro VV hSw; (try dsimp only at hSw); go_simp; first | done | with_reducible rfl); (try simp only [Act.put, sI, sZ, sS])
      refine wpAnyH_take (i := 13) (oi := ⟨some 4, _, _, _, _, _⟩) (v := ?_) rfl (by kernel_rfl) (by kernel_rfl) (by kernel_rfl) (fun _ _ _ h => h) (Or.inl ⟨by kernel_rfl, ?_⟩) (by assumption) ?_; rotate_left; (intro VV hSw; (try dsimp only at hSw); go_simp; first | done | with_reducible rfl); (try simp only [Act.put, sI, sZ, sS])
      refine wpAnyH_done (by kernel_rfl) ?_ _
      have HFIN := Lib.hid (HB2.out.trans (hS.mono HB2.out.size))
      go_wp2_with fail
      go_ret
      exact ⟨ret_bool (by unfold testR; rw [hbt]; rfl), HFIN.out⟩
    | true =>
      refine wpAnyH_take (i := 3) (oi := ⟨some 8, _, _, _, _, _⟩) (v := ?_) rfl (by kernel_rfl) (by kernel_rfl) (by kernel_rfl) (fun _ _ _ h => h) (Or.inl ⟨by kernel_rfl, ?_⟩) (by assumption) ?_; rotate_left; (intro VV hSw; (try dsimp only at hSw); go_simp; first | done | with_reducible rfl); (try simp only [Act.put, sI, sZ, sS])
      refine wpAnyH_ready (rs := [4]) (by kernel_rfl) (by simp) ?_
      refine AllReadyH.cons (o := ⟨some 9, _, _, _, _, _⟩) rfl (fun K hK => ?_) AllReadyH.nil
      · rw [if_pos (by rfl)]
        go_simp
        have hbw := HB2.out.trans (hS.mono HB2.out.size)
        refine (may11_any l A m cap V1 (HR.out.later hbw) (HE.out.env.under hbw).spans).mono ?_
        rintro e V2 ⟨rfl, b2⟩
        have hS1 := hS.trans (b2.mono hS.size)
        refine hK.out _ _ hS1 (fun hSn => ?_)
        clear hK K hSn; (try simp only [Act.put, sI, sZ, sS])
        clear hS b2 hbw
        have hS := hS1
        clear hS1
        refine wpAnyH_take (i := 5) (oi := ⟨some 10, _, _, _, _, _⟩) (v := ?_) rfl (by kernel_rfl) (by kernel_rfl) (by kernel_rfl) (fun _ _ _ h => h) (Or.inl ⟨by kernel_rfl, ?_⟩) (by assumption) ?_; rotate_left; (intro VV hSw; (try dsimp only at hSw); go_simp; first | done | with_reducible rfl); (try simp only [Act.put, sI, sZ, sS])
        refine wpAnyH_take (i := 6) (oi := ⟨some 11, _, _, _, _, _⟩) (v := ?_) rfl (by kernel_rfl) (by kernel_rfl) (by kernel_rfl) (fun _ _ _ h => h) (Or.inl ⟨by kernel_rfl, ?_⟩) (by assumption) ?_; rotate_left; (intro VV hSw; (try dsimp only at hSw); go_simp; first | done | with_reducible rfl); (try simp only [Act.put, sI, sZ, sS])
        cases hbm : mayL l with
        | false =>
          refine wpAnyH_take (i := 7) (oi := ⟨some 12, _, _, _, _, _⟩) (v := undef) rfl (by kernel_rfl) (by kernel_rfl) (by kernel_rfl) (fun _ _ _ h => h) (Or.inr ⟨by kernel_rfl, rfl⟩) (by assumption) ?_; (try simp only [Act.put, sI, sZ, sS])
          refine wpAnyH_take (i := 8) (oi := ⟨some 13, _, _, _, _, _⟩) (v := undef) rfl (by kernel_rfl) (by kernel_rfl) (by kernel_rfl) (fun _ _ _ h => h) (Or.inr ⟨by kernel_rfl, rfl⟩) (by assumption) ?_; (try simp only [Act.put, sI, sZ, sS])
          refine wpAnyH_take (i := 9) (oi := ⟨some 14, _, _, _, _, _⟩) (v := undef) rfl (by kernel_rfl) (by kernel_rfl) (by kernel_rfl) (fun _ _ _ h => h) (Or.inr ⟨by kernel_rfl, rfl⟩) (by assumption) ?_; (try simp only [Act.put, sI, sZ, sS])
          refine wpAnyH_take (i := 10) (oi := ⟨some 15, _, _, _, _, _⟩) (v := undef) rfl (by kernel_rfl) (by kernel_rfl) (by kernel_rfl) (fun _ _ _ h => h) (Or.inr ⟨by kernel_rfl, rfl⟩) (by assumption) ?_; (try simp only [Act.put, sI, sZ, sS])
          refine wpAnyH_take (i := 11) (oi := ⟨some 16, _, _, _, _, _⟩) (v := undef) rfl (by kernel_rfl) (by kernel_rfl) (by kernel_rfl) (fun _ _ _ h => h) (Or.inr ⟨by kernel_rfl, rfl⟩) (by assumption) ?_; (try simp only [Act.put, sI, sZ, sS])
          refine wpAnyH_take (i := 12) (oi := ⟨some 17, _, _, _, _, _⟩) (v := ?_) rfl (by kernel_rfl) (by kernel_rfl) (by kernel_rfl) (fun _ _ _ h => h) (Or.inl ⟨by kernel_rfl, ?_⟩) (by assumption) ?_; rotate_left; (intro VV hSw; (try dsimp only at hSw); go_simp; first | done | with_reducible rfl); (try simp only [Act.put, sI, sZ, sS])
          refine wpAnyH_take (i := 13) (oi := ⟨some 4, _, _, _, _, _⟩) (v := ?_) rfl (by kernel_rfl) (by kernel_rfl) (by kernel_rfl) (fun _ _ _ h => h) (Or.inl ⟨by kernel_rfl, ?_⟩) (by assumption) ?_; rotate_left; (intro VV hSw; (try dsimp only at hSw); go_simp; first | done | with_reducible rfl); (try simp only [Act.put, sI, sZ, sS])
          refine wpAnyH_done (by kernel_rfl) ?_ _
          have HFIN := Lib.hid (HB2.out.trans (hS.mono HB2.out.size))
          go_wp2_with fail
          go_ret
          exact ⟨ret_bool (by unfold testR; rw [hbt, hbm]; rfl), HFIN.out⟩
        | true =>
          refine wpAnyH_take (i := 7) (oi := ⟨some 12, _, _, _, _, _⟩) (v := ?_) rfl (by kernel_rfl) (by kernel_rfl) (by kernel_rfl) (fun _ _ _ h => h) (Or.inl ⟨by kernel_rfl, ?_⟩) (by assumption) ?_; rotate_left; (intro VV hSw; (try dsimp only at hSw); go_simp; first | done | with_reducible rfl); (try simp only [Act.put, sI, sZ, sS])
          refine wpAnyH_take (i := 10) (oi := ⟨some 15, _, _, _, _, _⟩) (v := ?_) rfl (by kernel_rfl) (by kernel_rfl) (by kernel_rfl) (fun _ _ _ h => h) (Or.inl ⟨by kernel_rfl, ?_⟩) (by assumption) ?_; rotate_left; (intro VV hSw; (try dsimp only at hSw); have hr := (hSw.block _ (heap_lt HG0.out)).trans HG0.out; obtain ⟨y0, y1, y2, y3, y4⟩ := five_of hr; go_simp; first | done | with_reducible rfl); (try simp only [Act.put, sI, sZ, sS])
          refine wpAnyH_ready (rs := [8]) (by kernel_rfl) (by simp) ?_
          refine AllReadyH.cons (o := ⟨some 13, _, _, _, _, _⟩) rfl (fun K hK => ?_) AllReadyH.nil
          · rw [if_pos (by rfl)]
            go_simp
            have hbw := HB2.out.trans (hS.mono HB2.out.size)
            refine (under_any V2.heap.size l A m cap V2 (HR.out.later hbw) (Nat.le_refl _) (HE.out.env.under hbw).spans).mono ?_
            rintro e V3 ⟨gv, gp, gm, rfl, hu, b3⟩
            have hS1 := hS.trans (b3.mono hS.size)
            unfold vf11
            refine hK.out _ _ hS1 (fun hSn => ?_)
            clear hK K hSn; (try simp only [Act.put, sI, sZ, sS])
            clear hS b3 hbw
            have hS := hS1
            clear hS1
            refine wpAnyH_take (i := 9) (oi := ⟨some 14, _, _, _, _, _⟩) (v := ?_) rfl (by kernel_rfl) (by kernel_rfl) (by kernel_rfl) (fun _ _ _ h => h) (Or.inl ⟨by kernel_rfl, ?_⟩) (by assumption) ?_; rotate_left; (intro VV hSw; (try dsimp only at hSw); go_simp; first | done | with_reducible rfl); (try simp only [Act.put, sI, sZ, sS])
            refine wpAnyH_ready (rs := [11]) (by kernel_rfl) (by simp) ?_
            refine AllReadyH.cons (o := ⟨some 16, _, _, _, _, _⟩) rfl (fun K hK => ?_) AllReadyH.nil
            · rw [if_pos (by rfl)]
              go_simp
              have hbw := HB2.out.trans (hS.mono HB2.out.size)
              have htb : testB X = true := by simp at hbt; exact hbt.2
              refine (holdsT_any _ V2 l gv gp gm X htb (by have := HN.out; omega) _ V3 hu hbm (HE.out.words.under hbw) (HT.out.laterN hbw)).mono ?_
              rintro e V4 ⟨rfl, b4⟩
              have hS1 := hS.trans (b4.mono hS.size)
              refine hK.out _ _ hS1 (fun hSn => ?_)
              clear hK K hSn; (try simp only [Act.put, sI, sZ, sS])
              refine wpAnyH_take (i := 12) (oi := ⟨some 17, _, _, _, _, _⟩) (v := ?_) rfl (by kernel_rfl) (by kernel_rfl) (by kernel_rfl) (fun _ _ _ h => h) (Or.inl ⟨by kernel_rfl, ?_⟩) (by assumption) ?_; rotate_left; (intro VV hSw; (try dsimp only at hSw); go_simp; first | done | with_reducible rfl); (try simp only [Act.put, sI, sZ, sS])
              refine wpAnyH_take (i := 13) (oi := ⟨some 4, _, _, _, _, _⟩) (v := ?_) rfl (by kernel_rfl) (by kernel_rfl) (by kernel_rfl) (fun _ _ _ h => h) (Or.inl ⟨by kernel_rfl, ?_⟩) (by assumption) ?_; rotate_left; (intro VV hSw; (try dsimp only at hSw); go_simp; first | done | with_reducible rfl); (try simp only [Act.put, sI, sZ, sS])
              refine wpAnyH_done (by kernel_rfl) ?_ _
              have HFIN := Lib.hid (HB2.out.trans (hS1.mono HB2.out.size))
              go_wp2_with fail
              go_ret
              exact ⟨ret_bool (by unfold testR; rw [hbt, hbm]; rfl), HFIN.out⟩
end Go.Proofs.YtkceoiaaiaomoaaGreatDoor
