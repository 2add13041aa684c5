/- The reader: the least integer. -/
import Derived.Test.YtohbljgagbnjoaaDoorRdInt
import Derived.Test.YtohbljgagbnjoaaDoorTextT
import Derived.Deep.RegionHeld
import Derived.OrdersHeld
set_option linter.unusedVariables false
namespace Go.Proofs.YtohbljgagbnjoaaDoor
open Go.RowKit
open Go.Lib (decDigits itoa)

theorem RS.pow {w0 W : World} {rb pos bg : Nat} {s : ByteArray} (h : RS w0 rb s pos bg W) (hp : PowTab w0) : PowTab W := Go.Lib.tabBelow_of_tabIs hp W h.below

theorem cut_eq {s : ByteArray} {p : Nat} {l r : List UInt8} (h : s.data.toList.drop p = l ++ r) : s.extract p (p + l.length) = ⟨l.toArray⟩ := by
  apply ByteArray.ext
  apply Array.toList_inj.1
  rw [ByteArray.data_extract, Array.toList_extract, List.extract_eq_take_drop, Nat.add_sub_cancel_left, h, List.take_left]

set_option maxHeartbeats 8000000 in
set_option maxRecDepth 100000 in
theorem int_min {w0 W : World} {rb pos bg : Nat} {s : ByteArray} (h : RS w0 rb s pos bg W) (hpt : PowTab w0) (hs : s.size ≤ 1099511627776) (n : Nat) (hn : n = 576460752303423488) {r : List UInt8} (hr : Sep r) (hd : s.data.toList.drop pos = 45 :: (decDigits n ++ r)) :
    Calls Tryd.prog 78 #[.pointer (some ⟨rb, 0, none⟩)] W fun e W' => e = .returned (.tuple #[.agg #[.int .i8 0, .int .i64 (-576460752303423488), .string ⟨#[]⟩, .string ⟨#[]⟩, .slice none 0 0], .int .i64 0]) ∧ RS w0 rb s (pos + 1 + (decDigits n).length) bg W' ∧ Mod (fun k => k = rb) W W' := by
  have hrb := h.lt
  obtain ⟨m, hm⟩ : ∃ m : Int, m = -576460752303423488 := ⟨_, rfl⟩
  rw [← hm]
  have HM := Lib.hid hm
  clear hm
  have hI := inBox_of h
  obtain ⟨-, -, -, hd2⟩ := drop_one hd
  obtain ⟨q1, hq1⟩ : ∃ q1, q1 = pos + 1 := ⟨_, rfl⟩
  obtain ⟨q2, hq2⟩ : ∃ q2, q2 = pos + 1 + (decDigits n).length := ⟨_, rfl⟩
  rw [← hq2]
  have hcut : s.extract q1 q2 = ⟨(itoa 576460752303423488).toArray⟩ := by
    have hni : (576460752303423488 : Int) = (n : Int) := by omega
    have := cut_eq hd2
    rw [← hq2, ← hq1] at this
    rw [hni, this]; unfold itoa; rw [if_neg (by omega), Int.toNat_natCast]
  have hne := (dec_facts n).2.2.2.2
  have hle := (drop_more hd2).2 hne
  have hq12 : q1 ≤ q2 ∧ q2 ≤ s.size := by omega
  have T1 : Hid (∀ V, RS w0 rb s pos bg V → Calls Tryd.prog 93 #[.pointer (some ⟨rb, 0, none⟩), .string ⟨#[45]⟩] V fun e W' => e = .returned (.bool true) ∧ RS w0 rb s q1 bg W' ∧ Mod (fun k => k = rb) V W') := fun V hV => by rw [hq1]; exact take_at hV hs 45 hd
  have T2 : Hid (∀ V, RS w0 rb s q1 bg V → Calls Tryd.prog 96 #[.pointer (some ⟨rb, 0, none⟩)] V fun e W' => e = .returned (.tuple #[.int .i64 0, .int .i64 11]) ∧ RS w0 rb s q2 bg W' ∧ Mod (fun k => k = rb) V W') := fun V hV => by
    rw [hq1] at hV
    rw [hq2]
    refine digits_is hV hs 0 (decDigits n).length 11 (by rw [hd2, readR_dec _ hr, if_pos (by omega)]) hle ?_
    intro h1 hlt
    obtain ⟨c, t, e, hc⟩ := (dec_facts n).2.2.1 (by omega)
    rw [e] at hd2
    obtain ⟨_, e2, -, -⟩ := drop_one hd2
    rw [e2]; exact hc
  have HIT : Hid (∀ V, RS w0 rb s q2 bg V → Calls Tryd.prog 97 #[.int .i64 576460752303423488] V fun e w' => e = .returned (.string (s.extract q1 q2)) ∧ Below V.heap.size V w') := fun V hV => by
    refine (Tryd.strconv_Itoa 576460752303423488 (by decide) (by decide) V (hV.pow hpt)).mono ?_
    rintro e w' ⟨he, k, os, rfl⟩
    exact ⟨by rw [he, hcut], Go.Lib.below_grow _ _ (Nat.le_refl _) _ _⟩
  have HI := Lib.hid hI
  have HRB := Lib.hid hrb
  have HQL := Lib.hid hq12
  have h12 : q1 ≤ q2 := hq12.1
  have h2s : q2 ≤ s.size := hq12.2
  clear h hd hI hn hr hrb hd2 hq1 hq2 hcut hne hle hq12
  go_enter Tryd.func78, Tryd.ntmps78
  go_wp2_with fail
  refine (T1.out _ HI.out.rs).mono ?_
  rintro e V1 ⟨rfl, h1, m1⟩
  have i1 := HI.out.on HRB.out h1 m1
  have c1 : V1.cell? ⟨rb, 1, none⟩ = some (.int .i64 q1) := cell_of_row i1.rs.rd rfl
  have I1 := Lib.hid i1
  clear h1 m1 i1
  go_wp2_with fail
  refine (T2.out _ I1.out.rs).mono ?_
  rintro e V2 ⟨rfl, h1, m1⟩
  have I2 := Lib.hid (I1.out.on HRB.out h1 m1)
  clear h1 m1 c1
  go_wp2_with fail
  have hS0 : InBox w0 W rb s q2 bg V2.drew := I2.out.under ⟨rfl, rfl, rfl, Nat.le_refl _, fun _ _ => rfl⟩
  refine wp_region_held (S := InBox w0 W rb s q2 bg) (by kernel_rfl) ?_
  refine wpAnyH_take (i := 0) (oi := ⟨some 30, _, _, _, _, _⟩) (v := ?_) rfl (by kernel_rfl) (by kernel_rfl) (by kernel_rfl) (fun _ _ _ h => h) (Or.inl ⟨by kernel_rfl, ?_⟩) (by assumption) ?_; rotate_left; (intro w hSw; (try dsimp only at hSw); have z0 := cell_of_row (i := 0) hSw.rs.rd rfl; have z1 := cell_of_row (i := 1) hSw.rs.rd rfl; have hql := HQL.out; go_simp; first | done | with_reducible rfl); (try simp only [Act.put, List.setIfInBounds_toArray, List.set_cons_zero, List.set_cons_succ])
  refine wpAnyH_take (i := 1) (oi := ⟨some 31, _, _, _, _, _⟩) (v := ?_) rfl (by kernel_rfl) (by kernel_rfl) (by kernel_rfl) (fun _ _ _ h => h) (Or.inl ⟨by kernel_rfl, ?_⟩) (by assumption) ?_; rotate_left; (intro w hSw; (try dsimp only at hSw); have z0 := cell_of_row (i := 0) hSw.rs.rd rfl; have z1 := cell_of_row (i := 1) hSw.rs.rd rfl; have hql := HQL.out; go_simp; first | done | with_reducible rfl); (try simp only [Act.put, List.setIfInBounds_toArray, List.set_cons_zero, List.set_cons_succ])
  refine wpAnyH_take (i := 2) (oi := ⟨some 32, _, _, _, _, _⟩) (v := ?_) rfl (by kernel_rfl) (by kernel_rfl) (by kernel_rfl) (fun _ _ _ h => h) (Or.inl ⟨by kernel_rfl, ?_⟩) (by assumption) ?_; rotate_left; (intro w hSw; (try dsimp only at hSw); have z0 := cell_of_row (i := 0) hSw.rs.rd rfl; have z1 := cell_of_row (i := 1) hSw.rs.rd rfl; have hql := HQL.out; go_simp; first | done | with_reducible rfl); (try simp only [Act.put, List.setIfInBounds_toArray, List.set_cons_zero, List.set_cons_succ])
  refine wpAnyH_take (i := 3) (oi := ⟨some 33, _, _, _, _, _⟩) (v := ?_) rfl (by kernel_rfl) (by kernel_rfl) (by kernel_rfl) (fun _ _ _ h => h) (Or.inl ⟨by kernel_rfl, ?_⟩) (by assumption) ?_; rotate_left; (intro w hSw; (try dsimp only at hSw); have z0 := cell_of_row (i := 0) hSw.rs.rd rfl; have z1 := cell_of_row (i := 1) hSw.rs.rd rfl; have hql := HQL.out; go_simp; first | done | with_reducible rfl); (try simp only [Act.put, List.setIfInBounds_toArray, List.set_cons_zero, List.set_cons_succ])
  refine wpAnyH_take (i := 4) (oi := ⟨some 34, _, _, _, _, _⟩) (v := ?_) rfl (by kernel_rfl) (by kernel_rfl) (by kernel_rfl) (fun _ _ _ h => h) (Or.inl ⟨by kernel_rfl, ?_⟩) (by assumption) ?_; rotate_left; (intro w hSw; (try dsimp only at hSw); have z0 := cell_of_row (i := 0) hSw.rs.rd rfl; have z1 := cell_of_row (i := 1) hSw.rs.rd rfl; have hql := HQL.out; go_simp; first | done | with_reducible rfl); (try simp only [Act.put, List.setIfInBounds_toArray, List.set_cons_zero, List.set_cons_succ])
  refine wpAnyH_take (i := 5) (oi := ⟨some 35, _, _, _, _, _⟩) (v := ?_) rfl (by kernel_rfl) (by kernel_rfl) (by kernel_rfl) (fun _ _ _ h => h) (Or.inl ⟨by kernel_rfl, ?_⟩) (by assumption) ?_; rotate_left; (intro w hSw; (try dsimp only at hSw); have z0 := cell_of_row (i := 0) hSw.rs.rd rfl; have z1 := cell_of_row (i := 1) hSw.rs.rd rfl; have hql := HQL.out; go_simp; first | done | with_reducible rfl); (try simp only [Act.put, List.setIfInBounds_toArray, List.set_cons_zero, List.set_cons_succ])
  refine wpAnyH_take (i := 6) (oi := ⟨some 36, _, _, _, _, _⟩) (v := ?_) rfl (by kernel_rfl) (by kernel_rfl) (by kernel_rfl) (fun _ _ _ h => h) (Or.inl ⟨by kernel_rfl, ?_⟩) (by assumption) ?_; rotate_left; (intro w hSw; (try dsimp only at hSw); have z0 := cell_of_row (i := 0) hSw.rs.rd rfl; have z1 := cell_of_row (i := 1) hSw.rs.rd rfl; have hql := HQL.out; go_simp; first | done | with_reducible rfl); (try simp only [Act.put, List.setIfInBounds_toArray, List.set_cons_zero, List.set_cons_succ])
  refine wpAnyH_take (i := 7) (oi := ⟨some 37, _, _, _, _, _⟩) (v := ?_) rfl (by kernel_rfl) (by kernel_rfl) (by kernel_rfl) (fun _ _ _ h => h) (Or.inl ⟨by kernel_rfl, ?_⟩) (by assumption) ?_; rotate_left; (intro w hSw; (try dsimp only at hSw); have z0 := cell_of_row (i := 0) hSw.rs.rd rfl; have z1 := cell_of_row (i := 1) hSw.rs.rd rfl; have hql := HQL.out; go_simp; first | done | with_reducible rfl); (try simp only [Act.put, List.setIfInBounds_toArray, List.set_cons_zero, List.set_cons_succ])
  refine wpAnyH_take (i := 8) (oi := ⟨some 38, _, _, _, _, _⟩) (v := ?_) rfl (by kernel_rfl) (by kernel_rfl) (by kernel_rfl) (fun _ _ _ h => h) (Or.inl ⟨by kernel_rfl, ?_⟩) (by assumption) ?_; rotate_left; (intro w hSw; (try dsimp only at hSw); have z0 := cell_of_row (i := 0) hSw.rs.rd rfl; have z1 := cell_of_row (i := 1) hSw.rs.rd rfl; have hql := HQL.out; go_simp; first | done | with_reducible rfl); (try simp only [Act.put, List.setIfInBounds_toArray, List.set_cons_zero, List.set_cons_succ])
  refine wpAnyH_take (i := 9) (oi := ⟨some 39, _, _, _, _, _⟩) (v := ?_) rfl (by kernel_rfl) (by kernel_rfl) (by kernel_rfl) (fun _ _ _ h => h) (Or.inl ⟨by kernel_rfl, ?_⟩) (by assumption) ?_; rotate_left; (intro w hSw; (try dsimp only at hSw); have z0 := cell_of_row (i := 0) hSw.rs.rd rfl; have z1 := cell_of_row (i := 1) hSw.rs.rd rfl; have hql := HQL.out; go_simp; first | done | with_reducible rfl); (try simp only [Act.put, List.setIfInBounds_toArray, List.set_cons_zero, List.set_cons_succ])
  refine wpAnyH_take (i := 10) (oi := ⟨some 40, _, _, _, _, _⟩) (v := ?_) rfl (by kernel_rfl) (by kernel_rfl) (by kernel_rfl) (fun _ _ _ h => h) (Or.inl ⟨by kernel_rfl, ?_⟩) (by assumption) ?_; rotate_left; (intro w hSw; (try dsimp only at hSw); have z0 := cell_of_row (i := 0) hSw.rs.rd rfl; have z1 := cell_of_row (i := 1) hSw.rs.rd rfl; have hql := HQL.out; go_simp; first | done | with_reducible rfl); (try simp only [Act.put, List.setIfInBounds_toArray, List.set_cons_zero, List.set_cons_succ])
  refine wpAnyH_take (i := 11) (oi := ⟨some 41, _, _, _, _, _⟩) (v := ?_) rfl (by kernel_rfl) (by kernel_rfl) (by kernel_rfl) (fun _ _ _ h => h) (Or.inl ⟨by kernel_rfl, ?_⟩) (by assumption) ?_; rotate_left; (intro w hSw; (try dsimp only at hSw); have z0 := cell_of_row (i := 0) hSw.rs.rd rfl; have z1 := cell_of_row (i := 1) hSw.rs.rd rfl; have hql := HQL.out; go_simp; first | done | with_reducible rfl); (try simp only [Act.put, List.setIfInBounds_toArray, List.set_cons_zero, List.set_cons_succ])
  refine wpAnyH_take (i := 12) (oi := ⟨some 42, _, _, _, _, _⟩) (v := ?_) rfl (by kernel_rfl) (by kernel_rfl) (by kernel_rfl) (fun _ _ _ h => h) (Or.inl ⟨by kernel_rfl, ?_⟩) (by assumption) ?_; rotate_left; (intro w hSw; (try dsimp only at hSw); have z0 := cell_of_row (i := 0) hSw.rs.rd rfl; have z1 := cell_of_row (i := 1) hSw.rs.rd rfl; have hql := HQL.out; go_simp; first | done | with_reducible rfl); (try simp only [Act.put, List.setIfInBounds_toArray, List.set_cons_zero, List.set_cons_succ])
  refine wpAnyH_ready (rs := [13]) (by kernel_rfl) (by simp) ?_
  refine AllReadyH.cons (o := ⟨some 43, _, _, _, _, _⟩) rfl (fun K hK => ?_) AllReadyH.nil
  rw [if_pos (by rfl)]
  go_simp
  refine (HIT.out _ hS0.rs).mono ?_
  rintro e V3 ⟨rfl, b3⟩
  have hS3 : InBox w0 W rb s q2 bg V3 := hS0.under b3
  clear b3
  refine hK.out _ _ hS3 (fun hSn => ?_)
  clear hK K; (try simp only [Act.put, List.setIfInBounds_toArray, List.set_cons_zero, List.set_cons_succ])
  refine wpAnyH_take (i := 14) (oi := ⟨some 44, _, _, _, _, _⟩) (v := ?_) rfl (by kernel_rfl) (by kernel_rfl) (by kernel_rfl) (fun _ _ _ h => h) (Or.inl ⟨by kernel_rfl, ?_⟩) (by assumption) ?_; rotate_left; (intro w hSw; (try dsimp only at hSw); go_simp; first | done | with_reducible rfl); (try simp only [Act.put, List.setIfInBounds_toArray, List.set_cons_zero, List.set_cons_succ])
  refine wpAnyH_take (i := 15) (oi := ⟨some 45, _, _, _, _, _⟩) (v := ?_) rfl (by kernel_rfl) (by kernel_rfl) (by kernel_rfl) (fun _ _ _ h => h) (Or.inl ⟨by kernel_rfl, ?_⟩) (by assumption) ?_; rotate_left; (intro w hSw; (try dsimp only at hSw); go_simp; first | done | with_reducible rfl); (try simp only [Act.put, List.setIfInBounds_toArray, List.set_cons_zero, List.set_cons_succ])
  refine wpAnyH_done (by kernel_rfl) ?_ _
  have I4 := Lib.hid hS3
  clear hS3
  go_wp2_with fail
  rw [← HM.out]
  refine (termOf_integer m ⟨#[]⟩ ⟨#[]⟩ none 0 0 _).mono ?_
  rintro e V9 ⟨rfl, b9⟩
  have i9 := I4.out.under b9
  have g9 := i9.box
  unfold termZ at g9
  have r0 : (V9).cell? ⟨W.heap.size, 0, none⟩ = some (.int .i8 0) := cell_of_row g9 rfl
  have r1 : (V9).cell? ⟨W.heap.size, 1, none⟩ = some (.int .i64 0) := cell_of_row g9 rfl
  have r2 : (V9).cell? ⟨W.heap.size, 2, none⟩ = some (.string ⟨#[]⟩) := cell_of_row g9 rfl
  have r3 : (V9).cell? ⟨W.heap.size, 3, none⟩ = some (.string ⟨#[]⟩) := cell_of_row g9 rfl
  have r4 : (V9).cell? ⟨W.heap.size, 4, none⟩ = some (.slice none 0 0) := cell_of_row g9 rfl
  have f0 : (V9).frozen? ⟨W.heap.size, 0, none⟩ = false := free_of_row g9
  have f1 : (V9).frozen? ⟨W.heap.size, 1, none⟩ = false := free_of_row g9
  have f2 : (V9).frozen? ⟨W.heap.size, 2, none⟩ = false := free_of_row g9
  have f3 : (V9).frozen? ⟨W.heap.size, 3, none⟩ = false := free_of_row g9
  have f4 : (V9).frozen? ⟨W.heap.size, 4, none⟩ = false := free_of_row g9
  have S5 := Lib.hid (set_five (.int .i8 0) (.int .i64 m) (.string ⟨#[]⟩) (.string ⟨#[]⟩) (.slice none 0 0) g9)
  have I9 := Lib.hid i9
  clear i9 g9 b9
  go_wp2_with fail
  obtain ⟨s5, m5⟩ := S5.out
  generalize ((((((V9).setCell ⟨W.heap.size, 0, none⟩ (.int .i8 0)).setCell ⟨W.heap.size, 1, none⟩ (.int .i64 m)).setCell ⟨W.heap.size, 2, none⟩ (.string ⟨#[]⟩)).setCell ⟨W.heap.size, 3, none⟩ (.string ⟨#[]⟩)).setCell ⟨W.heap.size, 4, none⟩ (.slice none 0 0)) = VX at s5 m5 ⊢
  have z0 : VX.cell? ⟨W.heap.size, 0, none⟩ = some (.int .i8 0) := cell_of_row s5 rfl
  have z1 : VX.cell? ⟨W.heap.size, 1, none⟩ = some (.int .i64 m) := cell_of_row s5 rfl
  have z2 : VX.cell? ⟨W.heap.size, 2, none⟩ = some (.string ⟨#[]⟩) := cell_of_row s5 rfl
  have z3 : VX.cell? ⟨W.heap.size, 3, none⟩ = some (.string ⟨#[]⟩) := cell_of_row s5 rfl
  have z4 : VX.cell? ⟨W.heap.size, 4, none⟩ = some (.slice none 0 0) := cell_of_row s5 rfl
  refine bodyPost_ret (v := .tuple #[.agg #[(.int .i8 0), (.int .i64 m), (.string ⟨#[]⟩), (.string ⟨#[]⟩), (.slice none 0 0)], (.int .i64 0)]) (by simp [results, Tryd.f78, go_sem, z0, z1, z2, z3, z4]) rfl ?_
  exact ⟨rfl, I9.out.done HRB.out m5⟩
end Go.Proofs.YtohbljgagbnjoaaDoor
