/- The document's own answers of layer 7: patterns, guard expressions, tests, guards. -/
import Derived.Test.YtmdcdhdjojimeaaGreatDoorKHas7
import Derived.Test.YtmdcdhdjojimeaaGreatDoorKQuietC
import Derived.Test.YtmdcdhdjojimeaaGreatDoorKSet9
import Derived.Test.YtmdcdhdjojimeaaGreatDoorKRef01
import Derived.Deep.RegionHeld
import Derived.OrdersHeld
section
set_option linter.unusedVariables false
set_option linter.unusedSimpArgs false
namespace Go.Proofs.YtmdcdhdjojimeaaGreatDoor
open Go.RowKit

theorem deeps_take7 : ∀ {l : List Tm} {j : Nat} {y : Tm}, l[j]? = some y → Tm.deeps (l.take (j + 1)) = max (Tm.deeps (l.take j)) y.deep
 | [], j, y, h => by simp at h
 | x :: l, 0, y, h => by
  simp at h; subst h
  simp [Tm.deeps]
 | x :: l, j + 1, y, h => by
  have h' : l[j]? = some y := by simpa using h
  rw [List.take_succ_cons, List.take_succ_cons, Tm.deeps, Tm.deeps, deeps_take7 h']
  omega
set_option maxHeartbeats 1000000 in
set_option maxRecDepth 100000 in
theorem rdeep_any (x : Tm) : ∀ (v : Value) (most : Nat) (w : World), TmAt (· < w.heap.size) w x v → 1 ≤ most → most ≤ 1000000 →
  Calls Tryz.prog 67 #[v, .int .i64 most] w fun e w' => e = .returned (.int .i64 (min x.deep most : Nat)) ∧ Below w.heap.size w w' := by
 induction x using Tm.ind with
 | h k n s t l ih =>
  intro v most w hT h1 hmost
  obtain ⟨A, cap, rfl, hR, hk, hn, hs, ht⟩ := hT.parts
  have hlen := hR.max
  unfold maxLen at hlen
  have HR := Lib.hid hR
  have HIH := Lib.hid ih
  clear hR ih hT
  obtain ⟨w1, hw1⟩ : ∃ w1, w1 = w.alloc (.cells #[.int .i8 k, .int .i64 n, .string s, .string t, .slice A l.length cap] 25) := ⟨_, rfl⟩
  have hB1 : Below w.heap.size w w1 := by rw [hw1]; exact (Below.refl _ w).alloc (Nat.le_refl _) _
  have hs1 : w1.heap.size = w.heap.size + 1 := by rw [hw1]; simp
  have hbox : w1.heap[w.heap.size]? = some (.cells #[.int .i8 k, .int .i64 n, .string s, .string t, .slice A l.length cap] 25) := by rw [hw1]; exact block_alloc _ _
  have HB1 := Lib.hid hB1
  have HS1 := Lib.hid hs1
  clear hB1 hs1
  go_enter Tryz.func67, Tryz.ntmps67
  go_wp2_with fail
  rw [← hw1]
  clear hw1
  have HX := Lib.hid hbox
  clear hbox
  go_loopw [5, 6] (fun r i wr => ∃ j : Nat, j ≤ l.length ∧ i = .int .i64 j ∧ (∃ q : Nat, r = .int .i64 q ∧ q = min (1 + Tm.deeps (l.take j)) most) ∧ Below w1.heap.size w1 wr) (fun _ i _ => l.length - (intOf i).toNat)
  case atStart => exact ⟨0, Nat.zero_le _, rfl, ⟨1, rfl, by simp [Tm.deeps]; omega⟩, Below.refl _ _⟩
  case round =>
   obtain ⟨j, hj, rfl, ⟨q, rfl, hq⟩, hB⟩ := hrel
   have hbw : wr.heap[w.heap.size]? = _ := (hB.block w.heap.size (by rw [HS1.out]; omega)).trans HX.out
   have hc4 : wr.cell? ⟨w.heap.size, 4, none⟩ = some (.slice A l.length cap) := cell_of_row hbw rfl
   have hq1 : 1 ≤ q := by omega
   have hq2 : q ≤ most := by omega
   have HQ := Lib.hid hq
   have HB := Lib.hid hB
   clear hq hB hbw
   by_cases hlt : j < l.length
   ·by_cases hm : 1 < most
    ·obtain ⟨y, hy⟩ : ∃ y, l[j]? = some y := ⟨l[j], List.getElem?_eq_getElem hlt⟩
     obtain ⟨ad, u, rfl, had, hE, hTy⟩ := HR.out.at_ j y hy
     have hEr : ElemAt wr ad j u := hE.keep ((HB.out.block ad.block (by rw [HS1.out]; omega)).trans (HB1.out.block ad.block had))
     have hTr : TmAt (· < wr.heap.size) wr y u := hTy.keep (fun b hb => (HB.out.block b (by rw [HS1.out]; omega)).trans (HB1.out.block b hb)) (fun b hb => by have := HB1.out.size; have := HB.out.size; omega)
     obtain ⟨c0, c1, c2, c3, c4, rfl, e0, e1, e2, e3, e4⟩ := hEr
     have hmem := List.mem_of_getElem? hy
     have hpy := Tm.pre_ne y
     have HY := Lib.hid hy
     clear hE hTy hy
     go_wp2_with fail
     have he : (most : Int) - 1 = ((most - 1 : Nat) : Int) := by omega
     rw [he]
     refine (HIH.out y hmem _ (most - 1) _ hTr (by omega) (by omega)).mono ?_
     rintro e w2 ⟨rfl, b2⟩
     have hr : max q (1 + min y.deep (most - 1)) = min (1 + Tm.deeps (l.take (j + 1))) most := by
      rw [deeps_take7 HY.out]
      have := HQ.out
      omega
     have HRR := Lib.hid hr
     have hle : min y.deep (most - 1) ≤ 1000000 := by omega
     clear hr he
     generalize min y.deep (most - 1) = z at HRR hle ⊢
     go_wp2_with fail
     go_roundw
     case rel => exact ⟨j + 1, by omega, by go_num, ⟨max q (1 + z), by go_num, HRR.out⟩, HB.out.trans (b2.mono HB.out.size)⟩
     case measure => simp [intOf]; omega
    ·obtain rfl : most = 1 := by omega
     go_wp2_with fail
     go_ret
     refine ⟨ret_int ?_, HB1.out.trans (HB.out.mono (by rw [HS1.out]; omega))⟩
     have : 1 ≤ (Tm.mk k n s t l).deep := by rw [Tm.deep]; omega
     omega
   ·obtain rfl : j = l.length := by omega
    go_wp2_with fail
    go_ret
    refine ⟨ret_int ?_, HB1.out.trans (HB.out.mono (by rw [HS1.out]; omega))⟩
    have h := HQ.out
    rw [List.take_length] at h
    rw [Tm.deep]
    omega

set_option maxHeartbeats 1000000 in
set_option maxRecDepth 100000 in
theorem rSizeN_any (x : Tm) (v : Value) (w : World) (hT : TmAt (· < w.heap.size) w x v) :
  Calls Tryz.prog 49 #[v] w fun e w' => e = .returned (.tuple #[.int .i64 (min x.nodes 4097 : Nat), .int .i64 (min x.deep 65 : Nat)]) ∧ Below w.heap.size w w' := by
 obtain ⟨X, hX⟩ : ∃ X, X = x := ⟨_, rfl⟩
 obtain ⟨k, n, s, t, l⟩ := x
 obtain ⟨A, cap, rfl, -⟩ := hT.parts
 rw [← hX] at hT
 rw [← hX]
 obtain ⟨w1, hw1⟩ : ∃ w1, w1 = w.alloc (.cells #[.int .i8 k, .int .i64 n, .string s, .string t, .slice A l.length cap] 25) := ⟨_, rfl⟩
 have hB1 : Below w.heap.size w w1 := by rw [hw1]; exact (Below.refl _ w).alloc (Nat.le_refl _) _
 have hbox : w1.heap[w.heap.size]? = some (.cells #[.int .i8 k, .int .i64 n, .string s, .string t, .slice A l.length cap] 25) := by rw [hw1]; exact block_alloc _ _
 have HT := Lib.hid (hT.laterN hB1)
 have HB1 := Lib.hid hB1
 have HX := Lib.hid hbox
 clear hT hB1 hX hbox
 go_enter Tryz.func49, Tryz.ntmps49
 go_wp2_with fail
 rw [← hw1]
 clear hw1
 refine wp_region_qC (C := fun V => Below w1.heap.size w1 V) (by kernel_rfl) (by kernel_rfl) (drewC w1) ?_
 refine wpqC (v := ?_) (by kernel_rfl) ?_ ?_; rotate_left; (intro V hV; (try dsimp only at hV); have hx := (hV.block _ (heap_lt HX.out)).trans HX.out; have x0 := cell_of_row (i := 0) hx rfl; have x1 := cell_of_row (i := 1) hx rfl; have x2 := cell_of_row (i := 2) hx rfl; have x3 := cell_of_row (i := 3) hx rfl; have x4 := cell_of_row (i := 4) hx rfl; go_simp; first | done | with_reducible rfl); (try simp only [Act.put, sI, sZ, sS])
 refine wpqC (v := .int .i64 (min X.nodes 4097 : Nat)) (by kernel_rfl) ?_ ?_; (· intro V hV; (try dsimp only at hV); go_simp; refine (rnodes_any X _ 4097 V (HT.out.laterN hV) (by omega) (by omega)).mono ?_; rintro e V2 ⟨rfl, b2⟩; exact ⟨rfl, hV.trans (b2.mono hV.size)⟩); (try simp only [Act.put, sI, sZ, sS])
 refine wpq1 ?_; (try simp only [Act.put, sI, sZ, sS])
 refine wpqC (v := ?_) (by kernel_rfl) ?_ ?_; rotate_left; (intro V hV; (try dsimp only at hV); have hx := (hV.block _ (heap_lt HX.out)).trans HX.out; have x0 := cell_of_row (i := 0) hx rfl; have x1 := cell_of_row (i := 1) hx rfl; have x2 := cell_of_row (i := 2) hx rfl; have x3 := cell_of_row (i := 3) hx rfl; have x4 := cell_of_row (i := 4) hx rfl; go_simp; first | done | with_reducible rfl); (try simp only [Act.put, sI, sZ, sS])
 refine wpqC (v := .int .i64 (min X.deep 65 : Nat)) (by kernel_rfl) ?_ ?_; (· intro V hV; (try dsimp only at hV); go_simp; refine (rdeep_any X _ 65 V (HT.out.laterN hV) (by omega) (by omega)).mono ?_; rintro e V2 ⟨rfl, b2⟩; exact ⟨rfl, hV.trans (b2.mono hV.size)⟩); (try simp only [Act.put, sI, sZ, sS])
 refine wpq1 ?_; (try simp only [Act.put, sI, sZ, sS])
 refine wpq1 ?_; (try simp only [Act.put, sI, sZ, sS])
 refine wpq1 ?_; (try simp only [Act.put, sI, sZ, sS])
 refine wpQuiet_nil ?_
 intro V9 h9
 (try dsimp only at h9)
 have HB9 := Lib.hid h9
 clear h9
 go_wp2_with fail
 all_goals first
  | (exfalso; omega)
  | exact bodyPost_ret (v := .tuple #[.int .i64 (min X.nodes 4097 : Nat), .int .i64 (min X.deep 65 : Nat)]) (by simp [results, Tryz.f49, go_sem]) rfl ⟨rfl, HB1.out.trans (HB9.out.mono HB1.out.size)⟩
set_option maxHeartbeats 1000000 in
set_option maxRecDepth 100000 in
theorem rFits_any (x : Tm) (v : Value) (w : World) (hT : TmAt (· < w.heap.size) w x v) :
  Calls Tryz.prog 30 #[v] w fun e w' => e = .returned (.bool (fitsB x)) ∧ Below w.heap.size w w' := by
 obtain ⟨X, hX⟩ : ∃ X, X = x := ⟨_, rfl⟩
 obtain ⟨k, n, s, t, l⟩ := x
 obtain ⟨A, cap, rfl, -⟩ := hT.parts
 rw [← hX] at hT
 rw [← hX]
 obtain ⟨w1, hw1⟩ : ∃ w1, w1 = w.alloc (.cells #[.int .i8 k, .int .i64 n, .string s, .string t, .slice A l.length cap] 25) := ⟨_, rfl⟩
 have hB1 : Below w.heap.size w w1 := by rw [hw1]; exact (Below.refl _ w).alloc (Nat.le_refl _) _
 have HT := Lib.hid (hT.laterN hB1)
 have HB1 := Lib.hid hB1
 have HF : Hid (fitsB X = (decide (min X.nodes 4097 ≤ 4096) && decide (min X.deep 65 ≤ 64))) := Lib.hid (by
  unfold fitsB
  rw [Bool.eq_iff_iff]
  simp only [decide_eq_true_eq, Bool.and_eq_true]
  omega)
 clear hT hB1 hX
 go_enter Tryz.func30, Tryz.ntmps30
 go_wp2_with fail
 rw [← hw1]
 clear hw1
 refine (rSizeN_any X _ w1 HT.out).mono ?_
 rintro e w2 ⟨rfl, b2⟩
 have HB2 := Lib.hid (HB1.out.trans (b2.mono HB1.out.size))
 clear b2
 generalize min X.nodes 4097 = z1 at HF ⊢
 generalize min X.deep 65 = z2 at HF ⊢
 go_wp2_with fail
 all_goals
  go_ret
  refine ⟨ret_bool ?_, HB2.out⟩
  rw [HF.out]
  rw [Bool.eq_iff_iff]
  simp only [decide_eq_true_eq, Bool.and_eq_true, Bool.false_eq_true, false_iff]
  omega
end Go.Proofs.YtmdcdhdjojimeaaGreatDoor
end
section
set_option linter.unusedVariables false
namespace Go.Proofs.YtmdcdhdjojimeaaGreatDoor
open Go.RowKit

theorem kindN0 (c : Int) : kindN c = 0 ↔ ¬ ((97 ≤ c ∧ c ≤ 122) ∨ (65 ≤ c ∧ c ≤ 90) ∨ (48 ≤ c ∧ c ≤ 57) ∨ c = 95) := by
 unfold kindN
 split <;> (try split) <;> (try split) <;> (try split) <;> omega
set_option maxHeartbeats 2000000 in
theorem rname7_any (s : ByteArray) (w : World) (hs : s.size ≤ maxLen) :
    Calls Tryz.prog 134 #[.string s] w fun e w' => e = .returned (.bool (nameB s 3)) ∧ w = w' := by
  unfold maxLen at hs
  by_cases h0 : 0 < s.size
  · have hI := Lib.hid (nameB_iff s 3 h0)
    have hL := Lib.hid (fun (h : ∀ j, j < s.size → kd s j ≠ 0) => prefN_eq s s.size (Nat.le_refl _) h (.inl rfl))
    have hP := Lib.hid (fun (k : Nat) (hk : k < s.size) (h : ∀ j, j < k → kd s j ≠ 0) (hz : kd s k = 0) => prefN_eq s k (Nat.le_of_lt hk) h (.inr ⟨hk, hz⟩))
    by_cases h32 : s.size ≤ 32
    · by_cases hf : kindN ((s[0]).toNat : Int) = 3
      · have hf2 := (kindN3 _).1 hf
        have HF := Lib.hid hf
        clear hf
        go_enter Tryz.func134, Tryz.ntmps134
        go_wp2
        all_goals
          go_loop [3] (fun i => ∃ k : Nat, k ≤ s.size ∧ i = .int .i64 k ∧ Hid (∀ j, j < k → kd s j ≠ 0)) (fun i => s.size - (intOf i).toNat)
          case atStart => exact ⟨0, Nat.zero_le _, rfl, fun j h => by omega⟩
          case round =>
            obtain ⟨k, hk, rfl, hd⟩ := hrel
            by_cases hlt : k < s.size
            · have hkd := kd_at s k hlt
              have hz0 := kindN0 ((s[k]).toNat : Int)
              by_cases hz : kindN ((s[k]).toNat : Int) = 0
              · have hn := hz0.1 hz
                have HZ := Lib.hid (hkd.symm.trans hz)
                clear hz0 hz hkd
                go_wp2
                all_goals first
                  | (exfalso; first | omega | (simp only [bne_eq_false_iff_eq] at *; omega))
                  | (go_ret; refine ⟨ret_bool ?_, rfl⟩; rw [eq_comm, Bool.eq_false_iff]; intro hb; have h1 := ((hI.out.1 hb).2.2); have h2 := hP.out k hlt hd.out HZ.out; omega)
              · have hn : ¬ ¬ _ := fun h => hz (hz0.2 h)
                have HZ := Lib.hid (fun h => hz (hkd.trans h))
                clear hz0 hz hkd
                go_wp2
                all_goals first
                  | (exfalso; first | omega | (simp only [bne_eq_false_iff_eq] at *; omega))
                  | (go_round
                     case rel => exact ⟨k + 1, by omega, by go_num, fun j hj => by
                       by_cases e : j = k
                       · subst e; exact HZ.out
                       · exact hd.out j (by omega)⟩
                     case measure => simp [intOf]; omega)
            · go_wp2
              go_ret
              refine ⟨ret_bool ?_, rfl⟩
              rw [eq_comm, hI.out]
              exact ⟨h32, HF.out, hL.out fun j hj => hd.out j (by omega)⟩
      · have hf2 := fun h => hf ((kindN3 _).2 h)
        have HF : Hid (nameB s 3 = false) := Lib.hid (by rw [Bool.eq_false_iff]; intro hb; exact hf (hI.out.1 hb).2.1)
        clear hf
        go_enter Tryz.func134, Tryz.ntmps134
        go_wp2
        all_goals first
          | (exfalso; apply hf2; first | omega | (simp only [bne_eq_false_iff_eq] at *; omega))
          | (go_ret; exact ⟨ret_bool HF.out.symm, rfl⟩)
    · have HF : Hid (nameB s 3 = false) := Lib.hid (by rw [Bool.eq_false_iff]; intro hb; exact h32 (hI.out.1 hb).1)
      have h33 : 32 < s.size := by omega
      clear h32
      go_enter Tryz.func134, Tryz.ntmps134
      go_wp2
      all_goals first
        | (exfalso; omega)
        | (go_ret; exact ⟨ret_bool HF.out.symm, rfl⟩)
  · have HZ := Lib.hid (nameB_0 s 3 h0)
    go_enter Tryz.func134, Tryz.ntmps134
    have h00 : s.size < 1 := by omega
    go_wp2
    all_goals first
      | (exfalso; omega)
      | (go_ret; exact ⟨ret_bool HZ.out.symm, rfl⟩)
end Go.Proofs.YtmdcdhdjojimeaaGreatDoor
end
section
set_option linter.unusedVariables false
set_option linter.unusedSimpArgs false
namespace Go.Proofs.YtmdcdhdjojimeaaGreatDoor
open Go.RowKit

theorem rWord7_any (s : ByteArray) (w : World) : Calls Tryz.prog 63 #[.string s] w fun e w' => e = .returned (.bool (wordL s.data.toList)) ∧ w = w' := by
 go_enter Tryz.func63, Tryz.ntmps63
 go_wp2
 all_goals
  go_ret
  refine ⟨ret_bool ?_, rfl⟩
  rw [← Go.Lib.toList_data]
  unfold wordL wordList
  simp only [List.any_cons, List.any_nil]
  simp_all
theorem rAtom7_any (s : ByteArray) (w : World) (hs : s.size ≤ maxLen) : Calls Tryz.prog 43 #[.string s] w fun e w' => e = .returned (.bool (atomB s)) ∧ w = w' := by
 have HM := Lib.hid (rMay_any s w hs)
 have HW := Lib.hid (rWord7_any s w)
 have HA : Hid (atomB s = (nameB s 2 && !wordL s.data.toList)) := Lib.hid rfl
 generalize nameB s 2 = c1 at HM HA
 generalize wordL s.data.toList = c2 at HW HA
 cases c1
 ·go_enter Tryz.func43, Tryz.ntmps43
  go_wp2_with fail
  refine HM.out.mono ?_
  rintro e w' ⟨rfl, rfl⟩
  go_wp2_with fail
  go_ret
  exact ⟨ret_bool (by rw [HA.out]; rfl), rfl⟩
 ·go_enter Tryz.func43, Tryz.ntmps43
  go_wp2_with fail
  refine HM.out.mono ?_
  rintro e w' ⟨rfl, rfl⟩
  go_wp2_with fail
  refine HW.out.mono ?_
  rintro e w' ⟨rfl, rfl⟩
  go_wp2_with fail
  all_goals
   go_ret
   exact ⟨ret_bool (by rw [HA.out]; simp_all), rfl⟩
end Go.Proofs.YtmdcdhdjojimeaaGreatDoor
end
section
set_option linter.unusedVariables false
set_option linter.unusedSimpArgs false
namespace Go.Proofs.YtmdcdhdjojimeaaGreatDoor
open Go.RowKit

def bareB (b1 b2 b3 b4 : Bool) (n : Int) (s t : ByteArray) (len : Nat) : Bool := (b1 || n == 0) && (b2 || emp s) && (b3 || emp t) && (b4 || (len : Int) == 0)
theorem emp_list (s : ByteArray) : emp s = s.toList.isEmpty := by
 unfold emp
 rw [Go.Lib.toList_data, Bool.eq_iff_iff, decide_eq_true_eq, List.isEmpty_iff, ← List.length_eq_zero_iff, Array.length_toList]
 rfl
set_option maxHeartbeats 4000000 in
set_option maxRecDepth 100000 in
theorem rbare_any (b1 b2 b3 b4 : Bool) (n k : Int) (s t : ByteArray) (A : Option Addr) (len cap : Nat) (w : World) :
  Calls Tryz.prog 42 #[.agg #[.int .i8 k, .int .i64 n, .string s, .string t, .slice A len cap], .bool b1, .bool b2, .bool b3, .bool b4] w fun e w' => e = .returned (.bool (bareB b1 b2 b3 b4 n s t len)) ∧ Below w.heap.size w w' := by
 obtain ⟨R, hR⟩ : ∃ R, R = bareB b1 b2 b3 b4 n s t len := ⟨_, rfl⟩
 have HR := Lib.hid hR
 rw [← hR]
 clear hR
 cases b1 <;> cases b2 <;> cases b3 <;> cases b4
 all_goals
  go_enter Tryz.func42, Tryz.ntmps42
  go_wp2_with fail
  all_goals
   go_ret
   exact ⟨ret_bool (by have h := HR.out; rw [h]; unfold bareB; simp_all [emp_list, Bool.and_assoc]), (Below.refl _ w).alloc (Nat.le_refl _) _⟩
theorem len0 (l : List Tm) : ((l.length : Int) == 0) = l.isEmpty := by
 cases l with
 | nil => rfl
 | cons x l => rw [Bool.eq_iff_iff]; simp; omega
theorem leaf5 (n : Int) (s t : ByteArray) (l : List Tm) : leafB 5 n s t l = (bareB false true false false n s t l.length && nameB s 3) := by
 unfold leafB bareB
 rw [len0]
 generalize l.isEmpty = a; generalize emp t = b; generalize emp s = c; generalize (n == 0) = d; generalize nameB s 3 = e; generalize mayB n = f; generalize atomB s = g
 revert a b c d e f g; decide
theorem leaf6 (n : Int) (s t : ByteArray) (l : List Tm) : leafB 6 n s t l = (bareB true false false false n s t l.length && mayB n) := by
 unfold leafB bareB
 rw [len0]
 generalize l.isEmpty = a; generalize emp t = b; generalize emp s = c; generalize (n == 0) = d; generalize nameB s 3 = e; generalize mayB n = f; generalize atomB s = g
 revert a b c d e f g; decide
theorem leaf7 (n : Int) (s t : ByteArray) (l : List Tm) : leafB 7 n s t l = (bareB false true false false n s t l.length && atomB s) := by
 unfold leafB bareB
 rw [len0]
 generalize l.isEmpty = a; generalize emp t = b; generalize emp s = c; generalize (n == 0) = d; generalize nameB s 3 = e; generalize mayB n = f; generalize atomB s = g
 revert a b c d e f g; decide
theorem leaf8 (n : Int) (s t : ByteArray) (l : List Tm) : leafB 8 n s t l = bareB false false false false n s t l.length := by
 unfold leafB bareB
 rw [len0]
 generalize l.isEmpty = a; generalize emp t = b; generalize emp s = c; generalize (n == 0) = d; generalize nameB s 3 = e; generalize mayB n = f; generalize atomB s = g
 revert a b c d e f g; decide
set_option maxHeartbeats 4000000 in
set_option maxRecDepth 100000 in
theorem rleaf_any (k n : Int) (s t : ByteArray) (A : Option Addr) (l : List Tm) (cap : Nat) (w : World) (hs : s.size ≤ maxLen) :
  Calls Tryz.prog 94 #[.agg #[.int .i8 k, .int .i64 n, .string s, .string t, .slice A l.length cap]] w fun e w' => e = .returned (.bool (leafB k n s t l)) ∧ Below w.heap.size w w' := by
 have HN := Lib.hid (fun W => rname7_any s W hs)
 have HA := Lib.hid (fun W => rAtom7_any s W hs)
 have HM := Lib.hid (fun W => rMay1_any n W)
 have HBR := Lib.hid (fun b1 b2 b3 b4 W => rbare_any b1 b2 b3 b4 n k s t A l.length cap W)
 obtain ⟨R, hR⟩ : ∃ R, R = leafB k n s t l := ⟨_, rfl⟩
 have HR := Lib.hid hR
 rw [← hR]
 clear hR
 have HB0 := Lib.hid ((Below.refl _ w).alloc (Nat.le_refl _) (.cells #[.int .i8 k, .int .i64 n, .string s, .string t, .slice A l.length cap] 25))
 obtain ⟨w1, hw1⟩ : ∃ w1, w1 = w.alloc (.cells #[.int .i8 k, .int .i64 n, .string s, .string t, .slice A l.length cap] 25) := ⟨_, rfl⟩
 have HX := Lib.hid (show w1.heap[w.heap.size]? = some _ by rw [hw1]; exact block_alloc _ _)
 by_cases hk5 : k = 5
 ·subst hk5
  obtain ⟨c1, hc1⟩ : ∃ c1, c1 = bareB false true false false n s t l.length := ⟨_, rfl⟩
  have HC1 := Lib.hid hc1
  go_enter Tryz.func94, Tryz.ntmps94
  go_wp2_with fail
  rw [← hw1]
  rw [← hw1] at HB0
  clear hw1
  refine (HBR.out false true false false w1).mono ?_
  rintro e w2 ⟨rfl, b2⟩
  rw [← hc1]
  clear hc1
  have HB2 := Lib.hid (HB0.out.trans (b2.mono HB0.out.size))
  have hx := (b2.block _ (heap_lt HX.out)).trans HX.out
  have x0 := cell_of_row (i := 0) hx rfl
  have x1 := cell_of_row (i := 1) hx rfl
  have x2 := cell_of_row (i := 2) hx rfl
  clear hx b2
  cases c1
  ·go_wp2_with fail
   go_ret
   exact ⟨ret_bool (by rw [HR.out, leaf5, ← HC1.out]; simp_all), HB2.out⟩
  ·go_wp2_with fail
   refine (HN.out w2).mono ?_
   rintro e w3 ⟨rfl, rfl⟩
   go_wp2_with fail
   all_goals
    go_ret
    exact ⟨ret_bool (by rw [HR.out, leaf5, ← HC1.out]; simp_all), HB2.out⟩
 by_cases hk6 : k = 6
 ·subst hk6
  obtain ⟨c1, hc1⟩ : ∃ c1, c1 = bareB true false false false n s t l.length := ⟨_, rfl⟩
  have HC1 := Lib.hid hc1
  go_enter Tryz.func94, Tryz.ntmps94
  go_wp2_with fail
  rw [← hw1]
  rw [← hw1] at HB0
  clear hw1
  refine (HBR.out true false false false w1).mono ?_
  rintro e w2 ⟨rfl, b2⟩
  rw [← hc1]
  clear hc1
  have HB2 := Lib.hid (HB0.out.trans (b2.mono HB0.out.size))
  have hx := (b2.block _ (heap_lt HX.out)).trans HX.out
  have x0 := cell_of_row (i := 0) hx rfl
  have x1 := cell_of_row (i := 1) hx rfl
  have x2 := cell_of_row (i := 2) hx rfl
  clear hx b2
  cases c1
  ·go_wp2_with fail
   go_ret
   exact ⟨ret_bool (by rw [HR.out, leaf6, ← HC1.out]; simp_all), HB2.out⟩
  ·go_wp2_with fail
   refine (HM.out w2).mono ?_
   rintro e w3 ⟨rfl, rfl⟩
   go_wp2_with fail
   all_goals
    go_ret
    exact ⟨ret_bool (by rw [HR.out, leaf6, ← HC1.out]; simp_all), HB2.out⟩
 by_cases hk7 : k = 7
 ·subst hk7
  obtain ⟨c1, hc1⟩ : ∃ c1, c1 = bareB false true false false n s t l.length := ⟨_, rfl⟩
  have HC1 := Lib.hid hc1
  go_enter Tryz.func94, Tryz.ntmps94
  go_wp2_with fail
  rw [← hw1]
  rw [← hw1] at HB0
  clear hw1
  refine (HBR.out false true false false w1).mono ?_
  rintro e w2 ⟨rfl, b2⟩
  rw [← hc1]
  clear hc1
  have HB2 := Lib.hid (HB0.out.trans (b2.mono HB0.out.size))
  have hx := (b2.block _ (heap_lt HX.out)).trans HX.out
  have x0 := cell_of_row (i := 0) hx rfl
  have x1 := cell_of_row (i := 1) hx rfl
  have x2 := cell_of_row (i := 2) hx rfl
  clear hx b2
  cases c1
  ·go_wp2_with fail
   go_ret
   exact ⟨ret_bool (by rw [HR.out, leaf7, ← HC1.out]; simp_all), HB2.out⟩
  ·go_wp2_with fail
   refine (HA.out w2).mono ?_
   rintro e w3 ⟨rfl, rfl⟩
   go_wp2_with fail
   all_goals
    go_ret
    exact ⟨ret_bool (by rw [HR.out, leaf7, ← HC1.out]; simp_all), HB2.out⟩
 by_cases hk8 : k = 8
 ·subst hk8
  obtain ⟨c1, hc1⟩ : ∃ c1, c1 = bareB false false false false n s t l.length := ⟨_, rfl⟩
  have HC1 := Lib.hid hc1
  go_enter Tryz.func94, Tryz.ntmps94
  go_wp2_with fail
  rw [← hw1]
  rw [← hw1] at HB0
  clear hw1
  refine (HBR.out false false false false w1).mono ?_
  rintro e w2 ⟨rfl, b2⟩
  rw [← hc1]
  clear hc1
  have HB2 := Lib.hid (HB0.out.trans (b2.mono HB0.out.size))
  have hx := (b2.block _ (heap_lt HX.out)).trans HX.out
  have x0 := cell_of_row (i := 0) hx rfl
  have x1 := cell_of_row (i := 1) hx rfl
  have x2 := cell_of_row (i := 2) hx rfl
  clear hx b2
  go_wp2_with fail
  go_ret
  exact ⟨ret_bool (by rw [HR.out, leaf8, HC1.out]), HB2.out⟩
 have q5 : (k == 5) = false := by simpa using hk5
 have q6 : (k == 6) = false := by simpa using hk6
 have q7 : (k == 7) = false := by simpa using hk7
 have q8 : (k == 8) = false := by simpa using hk8
 go_enter Tryz.func94, Tryz.ntmps94
 go_wp2_with fail
 go_ret
 exact ⟨ret_bool (by rw [HR.out]; unfold leafB; rw [q5, q6, q7, q8]; simp), HB0.out⟩
end Go.Proofs.YtmdcdhdjojimeaaGreatDoor
end
section
set_option linter.unusedVariables false
set_option linter.unusedSimpArgs false
namespace Go.Proofs.YtmdcdhdjojimeaaGreatDoor
open Go.RowKit

structure Bx7 (w V : World) (c : Array Value) : Prop where
 below : Below w.heap.size w V
 box : V.heap[w.heap.size]? = some (.cells c 25 (0, 0))
theorem bx7_of (w : World) (c : Array Value) (W : World) (h : W = w.alloc (.cells c 25)) : Bx7 w W c := by
 subst h
 exact ⟨(Below.refl _ w).alloc (Nat.le_refl _) _, block_alloc _ _⟩
theorem Bx7.under {w V V' : World} {c : Array Value} (h : Bx7 w V c) (b : Below V.heap.size V V') : Bx7 w V' c :=
 ⟨h.below.trans (b.mono h.below.size), (b.block _ (heap_lt h.box)).trans h.box⟩
theorem Bx7.cell {w V : World} {c : Array Value} (h : Bx7 w V c) (i : Nat) {v : Value} (hv : c[i]? = some v) : V.cell? ⟨w.heap.size, i, none⟩ = some v := cell_of_row (i := i) h.box hv
theorem row_at7 {w V : World} {A : Option Addr} {n cap : Nat} {l : List Tm} (h : TRow (· < w.heap.size) w A n cap l) (hb : Below w.heap.size w V) {j : Nat} {y : Tm} (hy : l[j]? = some y) :
  ∃ g off o c0 c1 c2 c3 c4, A = some ⟨g, off, o⟩ ∧ TmAt (· < V.heap.size) V y (.agg #[c0, c1, c2, c3, c4]) ∧ ElemAt V ⟨g, off, o⟩ j (.agg #[c0, c1, c2, c3, c4]) := by
 obtain ⟨ad, u, rfl, had, hE, hTy⟩ := h.at_ j y hy
 obtain ⟨g, off, o⟩ := ad
 have hE' := hE.keep (hb.block _ had)
 obtain ⟨c0, c1, c2, c3, c4, rfl, -⟩ := hE
 exact ⟨g, off, o, c0, c1, c2, c3, c4, rfl, hTy.laterN hb, hE'⟩
theorem bareFFFT (n : Int) (s t : ByteArray) (len : Nat) : bareB false false false true n s t len = (n == 0 && emp s && emp t) := by
 unfold bareB; simp
set_option maxHeartbeats 4000000 in
set_option maxRecDepth 100000 in
theorem rpattern_any (x : Tm) : ∀ (v : Value) (w : World), TmAt (· < w.heap.size) w x v →
  Calls Tryz.prog 84 #[v] w fun e w' => e = .returned (.bool (patB x)) ∧ Below w.heap.size w w' := by
 induction x using Tm.ind with
 | h k n s t l ih =>
 intro v w hT
 obtain ⟨A, cap, rfl, hR, hk, hn, hs, ht⟩ := hT.parts
 have hlen := hR.max
 unfold maxLen at hlen
 have HR := Lib.hid hR
 have HIH := Lib.hid ih
 have HLF := Lib.hid (fun W => rleaf_any k n s t A l cap W hs)
 have HBR := Lib.hid (fun b1 b2 b3 b4 W => rbare_any b1 b2 b3 b4 n k s t A l.length cap W)
 have HP := Lib.hid (show patB (.mk k n s t l) = (leafB k n s t l || ((k == 10 || (k == 9 && l.length == 2)) && bareB false false false true n s t l.length && patsB l)) by rw [bareFFFT]; unfold patB; simp only [Bool.and_assoc])
 clear hR ih hT hs ht hn
 obtain ⟨R, hRR⟩ : ∃ R, R = patB (.mk k n s t l) := ⟨_, rfl⟩
 rw [← hRR] at HP ⊢
 clear hRR
 obtain ⟨w1, hw1⟩ : ∃ w1, w1 = w.alloc (.cells #[.int .i8 k, .int .i64 n, .string s, .string t, .slice A l.length cap] 25) := ⟨_, rfl⟩
 have hb1 : Bx7 w w1 #[.int .i8 k, .int .i64 n, .string s, .string t, .slice A l.length cap] := bx7_of w _ w1 hw1
 have H1 := Lib.hid hb1
 clear hb1
 go_enter Tryz.func84, Tryz.ntmps84
 go_wp2_with fail
 rw [← hw1]
 clear hw1
 refine (HLF.out w1).mono ?_
 rintro e w2 ⟨rfl, b2⟩
 have H2 := Lib.hid (H1.out.under b2)
 clear b2
 generalize leafB k n s t l = c1 at HP ⊢
 cases c1
 rotate_left
 ·go_wp2_with fail
  go_ret
  exact ⟨ret_bool (by rw [HP.out]; rfl), H2.out.below⟩
 have x0 : w2.cell? ⟨w.heap.size, 0, none⟩ = some (.int .i8 k) := H2.out.cell 0 rfl
 have x1 : w2.cell? ⟨w.heap.size, 1, none⟩ = some (.int .i64 n) := H2.out.cell 1 rfl
 have x2 : w2.cell? ⟨w.heap.size, 2, none⟩ = some (.string s) := H2.out.cell 2 rfl
 have x3 : w2.cell? ⟨w.heap.size, 3, none⟩ = some (.string t) := H2.out.cell 3 rfl
 have x4 : w2.cell? ⟨w.heap.size, 4, none⟩ = some (.slice A l.length cap) := H2.out.cell 4 rfl
 have HG : Hid (k = 10 ∨ (k = 9 ∧ l.length = 2) ∨ (k ≠ 10 ∧ (k ≠ 9 ∨ l.length ≠ 2) ∧ R = false)) := by
  by_cases h1 : k = 10
  ·exact .inl h1
  ·by_cases h2 : k = 9
   ·by_cases h3 : l.length = 2
    ·exact .inr (.inl ⟨h2, h3⟩)
    ·exact .inr (.inr ⟨h1, .inr h3, by rw [HP.out]; simp [h1, h3]⟩)
   ·exact .inr (.inr ⟨h1, .inl h2, by rw [HP.out]; simp [h1, h2]⟩)
 rcases HG.out with rfl | ⟨rfl, hl2⟩ | ⟨h1, h2, hRf⟩
 rotate_right
 ·have q1 : (k == 10) = false := by simpa using h1
  by_cases h9 : k = 9
  ·subst h9
   have h3 : ¬ (l.length : Int) = 2 := by rcases h2 with h2 | h2 <;> omega
   have q3 : ((l.length : Int) == 2) = false := by simpa using h3
   clear HG h2
   go_wp2_with fail
   go_ret
   exact ⟨ret_bool hRf.symm, H2.out.below⟩
  ·have q9 : (k == 9) = false := by simpa using h9
   clear HG h2
   go_wp2_with fail
   go_ret
   exact ⟨ret_bool hRf.symm, H2.out.below⟩
 ·clear HG
  go_wp2_with fail
  refine (HBR.out false false false true w2).mono ?_
  rintro e w3 ⟨rfl, b3⟩
  have H3 := Lib.hid (H2.out.under b3)
  clear b3
  obtain ⟨c2, hc2⟩ : ∃ c2, c2 = bareB false false false true n s t l.length := ⟨_, rfl⟩
  rw [← hc2] at HP ⊢
  clear hc2 x0 x1 x2 x3 x4
  cases c2
  ·go_wp2_with fail
   go_ret
   exact ⟨ret_bool (by rw [HP.out]; simp), H3.out.below⟩
  have x4 : w3.cell? ⟨w.heap.size, 4, none⟩ = some (.slice A l.length cap) := H3.out.cell 4 rfl
  go_wp2_with fail
  go_loopw [3] (fun i wr => ∃ j : Nat, j ≤ l.length ∧ i = .int .i64 j ∧ Bx7 w wr #[.int .i8 10, .int .i64 n, .string s, .string t, .slice A l.length cap] ∧ Hid (∀ y ∈ l.take j, patB y = true)) (fun i _ => l.length - (intOf i).toNat)
  case atStart => exact ⟨0, Nat.zero_le _, rfl, H3.out, Lib.hid (fun y hy => by simp at hy)⟩
  case round =>
   obtain ⟨j, hj, rfl, hbx, hd⟩ := hrel
   have HW := Lib.hid hbx
   have x4 : wr.cell? ⟨w.heap.size, 4, none⟩ = some (.slice A l.length cap) := hbx.cell 4 rfl
   clear hbx
   by_cases hlt : j < l.length
   ·obtain ⟨y, hy⟩ : ∃ y, l[j]? = some y := ⟨l[j], List.getElem?_eq_getElem hlt⟩
    have HMEM := Lib.hid (List.mem_of_getElem? hy)
    obtain ⟨g, off, o, c0, c1, c2, c3, c4, rfl, hTy, hEy⟩ := row_at7 HR.out HW.out.below hy
    obtain ⟨d0, d1, d2, d3, d4, he, e0, e1, e2, e3, e4⟩ := hEy
    cases he
    have HTY := Lib.hid hTy
    have HY := Lib.hid hy
    clear hTy hy
    go_wp2_with fail
    refine (HIH.out y HMEM.out _ _ HTY.out).mono ?_
    rintro e w9 ⟨rfl, b9⟩
    have H9 := Lib.hid (HW.out.under b9)
    clear b9 e0 e1 e2 e3 e4 x4
    obtain ⟨c, hc⟩ : ∃ c, c = patB y := ⟨_, rfl⟩
    rw [← hc]
    have HC := Lib.hid hc
    clear hc
    cases c
    ·go_wp2_with fail
     go_ret
     exact ⟨ret_bool (by rw [HP.out]; have h : patsB l = false := by { rw [Bool.eq_false_iff]; intro h; have := patsB_all.1 h y HMEM.out; rw [← HC.out] at this; cases this }; rw [h]; simp), H9.out.below⟩
    ·go_wp2_with fail
     go_roundw
     case rel => exact ⟨j + 1, by omega, by go_num, H9.out, Lib.hid (fun z hz => by
      rw [List.take_add_one, HY.out] at hz
      rcases List.mem_append.1 hz with hz | hz
      ·exact hd.out z hz
      ·simp at hz; subst hz; exact HC.out.symm)⟩
     case measure => simp [intOf]; omega
   ·obtain rfl : j = l.length := by omega
    have HALL : Hid (∀ y ∈ l, patB y = true) := Lib.hid (fun y hy => hd.out y (by rw [List.take_length]; exact hy))
    clear hd
    go_wp2_with fail
    go_ret
    exact ⟨ret_bool (by rw [HP.out, patsB_all.2 HALL.out]; simp), HW.out.below⟩
 ·clear HG
  have HL2 := Lib.hid hl2
  have q3 : (l.length : Int) = 2 := by rw [hl2]; rfl
  clear hl2
  go_wp2_with fail
  refine (HBR.out false false false true w2).mono ?_
  rintro e w3 ⟨rfl, b3⟩
  have H3 := Lib.hid (H2.out.under b3)
  clear b3
  obtain ⟨c2, hc2⟩ : ∃ c2, c2 = bareB false false false true n s t l.length := ⟨_, rfl⟩
  rw [← hc2] at HP ⊢
  clear hc2 x0 x1 x2 x3 x4 q3
  cases c2
  ·go_wp2_with fail
   go_ret
   exact ⟨ret_bool (by rw [HP.out]; simp), H3.out.below⟩
  have x4 : w3.cell? ⟨w.heap.size, 4, none⟩ = some (.slice A l.length cap) := H3.out.cell 4 rfl
  go_wp2_with fail
  go_loopw [3] (fun i wr => ∃ j : Nat, j ≤ l.length ∧ i = .int .i64 j ∧ Bx7 w wr #[.int .i8 9, .int .i64 n, .string s, .string t, .slice A l.length cap] ∧ Hid (∀ y ∈ l.take j, patB y = true)) (fun i _ => l.length - (intOf i).toNat)
  case atStart => exact ⟨0, Nat.zero_le _, rfl, H3.out, Lib.hid (fun y hy => by simp at hy)⟩
  case round =>
   obtain ⟨j, hj, rfl, hbx, hd⟩ := hrel
   have HW := Lib.hid hbx
   have x4 : wr.cell? ⟨w.heap.size, 4, none⟩ = some (.slice A l.length cap) := hbx.cell 4 rfl
   clear hbx
   by_cases hlt : j < l.length
   ·obtain ⟨y, hy⟩ : ∃ y, l[j]? = some y := ⟨l[j], List.getElem?_eq_getElem hlt⟩
    have HMEM := Lib.hid (List.mem_of_getElem? hy)
    obtain ⟨g, off, o, c0, c1, c2, c3, c4, rfl, hTy, hEy⟩ := row_at7 HR.out HW.out.below hy
    obtain ⟨d0, d1, d2, d3, d4, he, e0, e1, e2, e3, e4⟩ := hEy
    cases he
    have HTY := Lib.hid hTy
    have HY := Lib.hid hy
    clear hTy hy
    go_wp2_with fail
    refine (HIH.out y HMEM.out _ _ HTY.out).mono ?_
    rintro e w9 ⟨rfl, b9⟩
    have H9 := Lib.hid (HW.out.under b9)
    clear b9 e0 e1 e2 e3 e4 x4
    obtain ⟨c, hc⟩ : ∃ c, c = patB y := ⟨_, rfl⟩
    rw [← hc]
    have HC := Lib.hid hc
    clear hc
    cases c
    ·go_wp2_with fail
     go_ret
     exact ⟨ret_bool (by rw [HP.out]; have h : patsB l = false := by { rw [Bool.eq_false_iff]; intro h; have := patsB_all.1 h y HMEM.out; rw [← HC.out] at this; cases this }; rw [h]; simp), H9.out.below⟩
    ·go_wp2_with fail
     go_roundw
     case rel => exact ⟨j + 1, by omega, by go_num, H9.out, Lib.hid (fun z hz => by
      rw [List.take_add_one, HY.out] at hz
      rcases List.mem_append.1 hz with hz | hz
      ·exact hd.out z hz
      ·simp at hz; subst hz; exact HC.out.symm)⟩
     case measure => simp [intOf]; omega
   ·obtain rfl : j = l.length := by omega
    have HALL : Hid (∀ y ∈ l, patB y = true) := Lib.hid (fun y hy => hd.out y (by rw [List.take_length]; exact hy))
    clear hd
    go_wp2_with fail
    go_ret
    exact ⟨ret_bool (by rw [HP.out, patsB_all.2 HALL.out]; simp [HL2.out]), HW.out.below⟩
end Go.Proofs.YtmdcdhdjojimeaaGreatDoor
end
