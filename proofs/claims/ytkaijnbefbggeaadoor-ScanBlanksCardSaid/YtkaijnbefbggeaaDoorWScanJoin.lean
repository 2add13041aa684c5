/- ScanJoin: its walk. -/
import Derived.Test.YtkaijnbefbggeaaDoorScanC
import Derived.Deep.RegionHeld
import Derived.OrdersHeld
set_option linter.unusedVariables false
set_option linter.unusedSimpArgs false
namespace Go.Proofs.YtkaijnbefbggeaaDoor
open Go.RowKit

theorem join_list (a b : ByteArray) : (a ++ ⟨#[10]⟩ ++ b).data.toList = a.data.toList ++ 10 :: b.data.toList := by
  simp [ByteArray.data_append]
theorem join_size (a b : ByteArray) : (a ++ ⟨#[10]⟩ ++ b).size = a.size + 1 + b.size := by
  rw [ByteArray.size_append, ByteArray.size_append]; rfl
theorem scanV_ok {s : ByteArray} (h : s.size ≤ 8192) {L : List PT} (e : scanL s.size 0 s.data.toList = (L, none)) : scanV s = (L.map PT.tk, 0, 0) := by
  unfold scanV; rw [if_neg (by omega)]; simp only [e]
theorem scanV_bad {s : ByteArray} (h : s.size ≤ 8192) {L : List PT} {f : Int} {p : Nat} (e : scanL s.size 0 s.data.toList = (L, some (f, p))) : scanV s = ([], f, (p : Int)) := by
  unfold scanV; rw [if_neg (by omega)]; simp only [e]
theorem join_scan (a b : ByteArray) : scanL (a ++ ⟨#[10]⟩ ++ b).size 0 (a ++ ⟨#[10]⟩ ++ b).data.toList = match (scanL a.size 0 a.data.toList).2 with
    | some e => ((scanL a.size 0 a.data.toList).1, some e)
    | none => ((scanL a.size 0 a.data.toList).1 ++ (scanL b.size 0 b.data.toList).1.map (PT.on (a.size + 1)), (scanL b.size 0 b.data.toList).2.map fun e => (e.1, e.2 + (a.size + 1))) := by
  have h := scan_line b.data.toList a.size 0 a.data.toList (a ++ ⟨#[10]⟩ ++ b).size b.size (by rw [size_list]; exact Nat.le_refl _) (by rw [size_list, size_list, join_size]; omega) (by rw [size_list]; exact Nat.le_refl _)
  rw [join_list, h, size_list]
  have h2 := scan_shift (a.size + 1) b.size 0 b.data.toList
  rw [show 0 + (a.size + 1) = 0 + a.size + 1 by omega] at h2
  rw [h2]
  cases (scanL a.size 0 a.data.toList).2 <;> rfl

set_option maxHeartbeats 16000000 in
set_option maxRecDepth 100000 in
theorem scanJoin_of {E : World → Prop} (hE : ∀ w w', E w → Below w.heap.size w w' → E w') (hC : ScanC E) (a b : ByteArray) (hma : a.size ≤ maxLen) (hmb : b.size ≤ maxLen) (w : World) (hw : E w) :
    Calls Tryd.prog 5 #[.string a, .string b] w fun e w' => e = .returned (.bool true) ∧ Below w.heap.size w w' := by
  have HE := Lib.hid hE
  have HC := Lib.hid hC
  have HW := Lib.hid hw
  unfold maxLen at hma hmb
  clear hE hC hw
  by_cases ha : (3000 : Int) < (a.size : Int)
  · go_enter Tryd.func5, Tryd.ntmps5
    go_wp2_with fail
    refine (wakes6_ok HE.out HC.out w HW.out).mono ?_
    rintro e V ⟨rfl, b6⟩
    go_wp2_with fail
    go_ret
    exact ⟨rfl, b6⟩
  by_cases hb : (3000 : Int) < (b.size : Int)
  · go_enter Tryd.func5, Tryd.ntmps5
    go_wp2_with fail
    refine (wakes6_ok HE.out HC.out w HW.out).mono ?_
    rintro e V ⟨rfl, b6⟩
    go_wp2_with fail
    go_ret
    exact ⟨rfl, b6⟩
  have hj := join_scan a b
  have hss := join_size a b
  obtain ⟨s3, hs3⟩ : ∃ s3, (a ++ ⟨#[10]⟩ ++ b) = s3 := ⟨_, rfl⟩
  rw [hs3] at hj hss
  have HSS := Lib.hid hss
  clear hss
  obtain ⟨LA, ra, hA⟩ : ∃ LA ra, scanL a.size 0 a.data.toList = (LA, ra) := ⟨_, _, rfl⟩
  obtain ⟨LB, rb, hB⟩ : ∃ LB rb, scanL b.size 0 b.data.toList = (LB, rb) := ⟨_, _, rfl⟩
  rw [hA, hB] at hj
  have HJ := Lib.hid hj
  have HA := Lib.hid hA
  have HLB := Lib.hid hB
  clear hj hA hB
  cases ra with
  | some ea =>
    obtain ⟨e1, p1⟩ := ea
    have HV1 : Hid (scanV a = ([], e1, (p1 : Int))) := scanV_bad (by omega) HA.out
    obtain ⟨L2, f2, p2, hv2⟩ : ∃ L2 f2 p2, scanV b = (L2, f2, p2) := ⟨_, _, _, rfl⟩
    have HV2 := Lib.hid hv2
    have HV3 : Hid (scanV s3 = ([], e1, (p1 : Int))) := scanV_bad (by rw [HSS.out]; omega) HJ.out
    have hbad := (scan_bad _ _ _ e1 p1 (by rw [HA.out])).1
    have hne : (e1 != 0) = true := by rw [bne_iff_ne]; omega
    clear hv2 hbad
    go_enter Tryd.func5, Tryd.ntmps5
    go_wp2_with fail
    refine (HC.out a w (by omega) HW.out).mono ?_
    rintro e w1 ⟨A1, cap1, rfl, hr1, b1⟩
    rw [HV1.out] at hr1 ⊢
    dsimp only at hr1 ⊢
    try simp only [List.length_map, List.length_append, List.length_nil]
    obtain ⟨W1, hW1⟩ : ∃ W1, W1 = w1.alloc (.cells #[.int .i64 e1, .int .i64 p1] 28) := ⟨_, rfl⟩
    have c1 : Below w1.heap.size w1 W1 := by rw [hW1]; exact (Below.refl _ _).alloc (Nat.le_refl _) _
    have g1 : W1.heap[w1.heap.size]? = some (.cells #[.int .i64 e1, .int .i64 p1] 28 (0, 0)) := by rw [hW1]; exact block_alloc _ _
    have d1 := b1.trans (c1.mono b1.size)
    have HB1 := Lib.hid (d1)
    have HR1 := Lib.hid (hr1.later c1)
    have HG1 := Lib.hid g1
    have HD1 := Lib.hid d1
    clear hr1 b1 c1 g1 d1
    subst hW1
    go_wp2_with fail
    generalize w1.alloc (.cells #[.int .i64 e1, .int .i64 p1] 28) = W1 at HB1 HR1 HG1 HD1 ⊢
    refine (HC.out b W1 (by omega) (HE.out _ _ HW.out HB1.out)).mono ?_
    rintro e w2 ⟨A2, cap2, rfl, hr2, b2⟩
    rw [HV2.out] at hr2 ⊢
    dsimp only at hr2 ⊢
    try simp only [List.length_map, List.length_append, List.length_nil]
    obtain ⟨W2, hW2⟩ : ∃ W2, W2 = w2.alloc (.cells #[.int .i64 f2, .int .i64 p2] 28) := ⟨_, rfl⟩
    have c2 : Below w2.heap.size w2 W2 := by rw [hW2]; exact (Below.refl _ _).alloc (Nat.le_refl _) _
    have g2 : W2.heap[w2.heap.size]? = some (.cells #[.int .i64 f2, .int .i64 p2] 28 (0, 0)) := by rw [hW2]; exact block_alloc _ _
    have d2 := b2.trans (c2.mono b2.size)
    have HB2 := Lib.hid (HB1.out.trans (d2.mono HB1.out.size))
    have HR2 := Lib.hid (hr2.later c2)
    have HG2 := Lib.hid g2
    have HR12 := Lib.hid (HR1.out.later d2)
    have HG12 := Lib.hid ((d2.block _ (heap_lt HG1.out)).trans HG1.out)
    clear hr2 b2 c2 g2 d2
    subst hW2
    go_wp2_with fail
    generalize w2.alloc (.cells #[.int .i64 f2, .int .i64 p2] 28) = W2 at HB2 HR2 HG2 HR12 HG12 ⊢
    refine (HC.out s3 W2 (by have h5 := HSS.out; omega) (HE.out _ _ HW.out HB2.out)).mono ?_
    rintro e w3 ⟨A3, cap3, rfl, hr3, b3⟩
    rw [HV3.out] at hr3 ⊢
    dsimp only at hr3 ⊢
    try simp only [List.length_map, List.length_append, List.length_nil]
    obtain ⟨W3, hW3⟩ : ∃ W3, W3 = w3.alloc (.cells #[.int .i64 e1, .int .i64 p1] 28) := ⟨_, rfl⟩
    have c3 : Below w3.heap.size w3 W3 := by rw [hW3]; exact (Below.refl _ _).alloc (Nat.le_refl _) _
    have g3 : W3.heap[w3.heap.size]? = some (.cells #[.int .i64 e1, .int .i64 p1] 28 (0, 0)) := by rw [hW3]; exact block_alloc _ _
    have d3 := b3.trans (c3.mono b3.size)
    have HB3 := Lib.hid (HB2.out.trans (d3.mono HB2.out.size))
    have HR3 := Lib.hid (hr3.later c3)
    have HG3 := Lib.hid g3
    have HR13 := Lib.hid (HR12.out.later d3)
    have HR23 := Lib.hid (HR2.out.later d3)
    have HG13 := Lib.hid ((d3.block _ (heap_lt HG12.out)).trans HG12.out)
    have HG23 := Lib.hid ((d3.block _ (heap_lt HG2.out)).trans HG2.out)
    have x0 : W3.cell? ⟨w1.heap.size, 0, none⟩ = some (.int .i64 e1) := cell_of_row HG13.out rfl
    have x1 : W3.cell? ⟨w1.heap.size, 1, none⟩ = some (.int .i64 p1) := cell_of_row HG13.out rfl
    have y0 : W3.cell? ⟨w2.heap.size, 0, none⟩ = some (.int .i64 f2) := cell_of_row HG23.out rfl
    have y1 : W3.cell? ⟨w2.heap.size, 1, none⟩ = some (.int .i64 p2) := cell_of_row HG23.out rfl
    have z0 : W3.cell? ⟨w3.heap.size, 0, none⟩ = some (.int .i64 e1) := cell_of_row g3 rfl
    have z1 : W3.cell? ⟨w3.heap.size, 1, none⟩ = some (.int .i64 p1) := cell_of_row g3 rfl
    clear hr3 b3 c3 g3 d3
    subst hW3
    go_wp2_with fail
    generalize w3.alloc (.cells #[.int .i64 e1, .int .i64 p1] 28) = W3 at HB3 ⊢
    refine (wakes6_ok HE.out HC.out W3 (HE.out _ _ HW.out HB3.out)).mono ?_
    rintro e w6 ⟨rfl, b6⟩
    have HB6 := Lib.hid (HB3.out.trans (b6.mono HB3.out.size))
    clear b6
    go_wp2_with fail
    go_ret
    exact ⟨rfl, HB6.out⟩
  | none =>
    have HV1 : Hid (scanV a = (LA.map PT.tk, 0, 0)) := scanV_ok (by omega) HA.out
    cases rb with
    | some eb =>
      obtain ⟨e1, p1⟩ := eb
      have HV2 : Hid (scanV b = ([], e1, (p1 : Int))) := scanV_bad (by omega) HLB.out
      have HV3 : Hid (scanV s3 = ([], e1, (p1 : Int) + (a.size : Int) + 1)) := by
        show _ = _
        rw [scanV_bad (by rw [HSS.out]; omega) HJ.out]
        rw [Int.natCast_add, Int.natCast_add, Int.add_assoc]; rfl
      have hbad := scan_bad _ _ _ e1 p1 (by rw [HLB.out])
      have hp1 : p1 ≤ 3000 := by have := hbad.2; rw [size_list] at this; omega
      have hne : (e1 != 0) = true := by rw [bne_iff_ne]; have := hbad.1; omega
      clear hbad
      go_enter Tryd.func5, Tryd.ntmps5
      go_wp2_with fail
      refine (HC.out a w (by omega) HW.out).mono ?_
      rintro e w1 ⟨A1, cap1, rfl, hr1, b1⟩
      rw [HV1.out] at hr1 ⊢
      dsimp only at hr1 ⊢
      try simp only [List.length_map, List.length_append, List.length_nil]
      obtain ⟨W1, hW1⟩ : ∃ W1, W1 = w1.alloc (.cells #[.int .i64 0, .int .i64 0] 28) := ⟨_, rfl⟩
      have c1 : Below w1.heap.size w1 W1 := by rw [hW1]; exact (Below.refl _ _).alloc (Nat.le_refl _) _
      have g1 : W1.heap[w1.heap.size]? = some (.cells #[.int .i64 0, .int .i64 0] 28 (0, 0)) := by rw [hW1]; exact block_alloc _ _
      have d1 := b1.trans (c1.mono b1.size)
      have HB1 := Lib.hid (d1)
      have HR1 := Lib.hid (hr1.later c1)
      have HG1 := Lib.hid g1
      have HD1 := Lib.hid d1
      clear hr1 b1 c1 g1 d1
      subst hW1
      go_wp2_with fail
      generalize w1.alloc (.cells #[.int .i64 0, .int .i64 0] 28) = W1 at HB1 HR1 HG1 HD1 ⊢
      refine (HC.out b W1 (by omega) (HE.out _ _ HW.out HB1.out)).mono ?_
      rintro e w2 ⟨A2, cap2, rfl, hr2, b2⟩
      rw [HV2.out] at hr2 ⊢
      dsimp only at hr2 ⊢
      try simp only [List.length_map, List.length_append, List.length_nil]
      obtain ⟨W2, hW2⟩ : ∃ W2, W2 = w2.alloc (.cells #[.int .i64 e1, .int .i64 p1] 28) := ⟨_, rfl⟩
      have c2 : Below w2.heap.size w2 W2 := by rw [hW2]; exact (Below.refl _ _).alloc (Nat.le_refl _) _
      have g2 : W2.heap[w2.heap.size]? = some (.cells #[.int .i64 e1, .int .i64 p1] 28 (0, 0)) := by rw [hW2]; exact block_alloc _ _
      have d2 := b2.trans (c2.mono b2.size)
      have HB2 := Lib.hid (HB1.out.trans (d2.mono HB1.out.size))
      have HR2 := Lib.hid (hr2.later c2)
      have HG2 := Lib.hid g2
      have HR12 := Lib.hid (HR1.out.later d2)
      have HG12 := Lib.hid ((d2.block _ (heap_lt HG1.out)).trans HG1.out)
      clear hr2 b2 c2 g2 d2
      subst hW2
      go_wp2_with fail
      generalize w2.alloc (.cells #[.int .i64 e1, .int .i64 p1] 28) = W2 at HB2 HR2 HG2 HR12 HG12 ⊢
      refine (HC.out s3 W2 (by have h5 := HSS.out; omega) (HE.out _ _ HW.out HB2.out)).mono ?_
      rintro e w3 ⟨A3, cap3, rfl, hr3, b3⟩
      rw [HV3.out] at hr3 ⊢
      dsimp only at hr3 ⊢
      try simp only [List.length_map, List.length_append, List.length_nil]
      obtain ⟨W3, hW3⟩ : ∃ W3, W3 = w3.alloc (.cells #[.int .i64 e1, .int .i64 (p1 + a.size + 1)] 28) := ⟨_, rfl⟩
      have c3 : Below w3.heap.size w3 W3 := by rw [hW3]; exact (Below.refl _ _).alloc (Nat.le_refl _) _
      have g3 : W3.heap[w3.heap.size]? = some (.cells #[.int .i64 e1, .int .i64 (p1 + a.size + 1)] 28 (0, 0)) := by rw [hW3]; exact block_alloc _ _
      have d3 := b3.trans (c3.mono b3.size)
      have HB3 := Lib.hid (HB2.out.trans (d3.mono HB2.out.size))
      have HR3 := Lib.hid (hr3.later c3)
      have HG3 := Lib.hid g3
      have HR13 := Lib.hid (HR12.out.later d3)
      have HR23 := Lib.hid (HR2.out.later d3)
      have HG13 := Lib.hid ((d3.block _ (heap_lt HG12.out)).trans HG12.out)
      have HG23 := Lib.hid ((d3.block _ (heap_lt HG2.out)).trans HG2.out)
      have x0 : W3.cell? ⟨w1.heap.size, 0, none⟩ = some (.int .i64 0) := cell_of_row HG13.out rfl
      have x1 : W3.cell? ⟨w1.heap.size, 1, none⟩ = some (.int .i64 0) := cell_of_row HG13.out rfl
      have y0 : W3.cell? ⟨w2.heap.size, 0, none⟩ = some (.int .i64 e1) := cell_of_row HG23.out rfl
      have y1 : W3.cell? ⟨w2.heap.size, 1, none⟩ = some (.int .i64 p1) := cell_of_row HG23.out rfl
      have z0 : W3.cell? ⟨w3.heap.size, 0, none⟩ = some (.int .i64 e1) := cell_of_row g3 rfl
      have z1 : W3.cell? ⟨w3.heap.size, 1, none⟩ = some (.int .i64 (p1 + a.size + 1)) := cell_of_row g3 rfl
      clear hr3 b3 c3 g3 d3
      subst hW3
      go_wp2_with fail
      generalize w3.alloc (.cells #[.int .i64 e1, .int .i64 (p1 + a.size + 1)] 28) = W3 at HB3 ⊢
      refine (wakes6_ok HE.out HC.out W3 (HE.out _ _ HW.out HB3.out)).mono ?_
      rintro e w6 ⟨rfl, b6⟩
      have HB6 := Lib.hid (HB3.out.trans (b6.mono HB3.out.size))
      clear b6
      go_wp2_with fail
      go_ret
      exact ⟨rfl, HB6.out⟩
    | none =>
      have HV2 : Hid (scanV b = (LB.map PT.tk, 0, 0)) := scanV_ok (by omega) HLB.out
      have HV3 : Hid (scanV s3 = ((LA ++ LB.map (PT.on (a.size + 1))).map PT.tk, 0, 0)) := scanV_ok (by rw [HSS.out]; omega) HJ.out
      have hla : LA.length ≤ 3000 := by have := (scan_count a.size 0 a.data.toList).1; rw [HA.out, size_list] at this; have h5 : LA.length ≤ a.size := this; omega
      have hlb : LB.length ≤ 3000 := by have := (scan_count b.size 0 b.data.toList).1; rw [HLB.out, size_list] at this; have h5 : LB.length ≤ b.size := this; omega
      go_enter Tryd.func5, Tryd.ntmps5
      go_wp2_with fail
      refine (HC.out a w (by omega) HW.out).mono ?_
      rintro e w1 ⟨A1, cap1, rfl, hr1, b1⟩
      rw [HV1.out] at hr1 ⊢
      dsimp only at hr1 ⊢
      try simp only [List.length_map, List.length_append, List.length_nil]
      obtain ⟨W1, hW1⟩ : ∃ W1, W1 = w1.alloc (.cells #[.int .i64 0, .int .i64 0] 28) := ⟨_, rfl⟩
      have c1 : Below w1.heap.size w1 W1 := by rw [hW1]; exact (Below.refl _ _).alloc (Nat.le_refl _) _
      have g1 : W1.heap[w1.heap.size]? = some (.cells #[.int .i64 0, .int .i64 0] 28 (0, 0)) := by rw [hW1]; exact block_alloc _ _
      have d1 := b1.trans (c1.mono b1.size)
      have HB1 := Lib.hid (d1)
      have HR1 := Lib.hid (hr1.later c1)
      have HG1 := Lib.hid g1
      have HD1 := Lib.hid d1
      clear hr1 b1 c1 g1 d1
      subst hW1
      go_wp2_with fail
      generalize w1.alloc (.cells #[.int .i64 0, .int .i64 0] 28) = W1 at HB1 HR1 HG1 HD1 ⊢
      refine (HC.out b W1 (by omega) (HE.out _ _ HW.out HB1.out)).mono ?_
      rintro e w2 ⟨A2, cap2, rfl, hr2, b2⟩
      rw [HV2.out] at hr2 ⊢
      dsimp only at hr2 ⊢
      try simp only [List.length_map, List.length_append, List.length_nil]
      obtain ⟨W2, hW2⟩ : ∃ W2, W2 = w2.alloc (.cells #[.int .i64 0, .int .i64 0] 28) := ⟨_, rfl⟩
      have c2 : Below w2.heap.size w2 W2 := by rw [hW2]; exact (Below.refl _ _).alloc (Nat.le_refl _) _
      have g2 : W2.heap[w2.heap.size]? = some (.cells #[.int .i64 0, .int .i64 0] 28 (0, 0)) := by rw [hW2]; exact block_alloc _ _
      have d2 := b2.trans (c2.mono b2.size)
      have HB2 := Lib.hid (HB1.out.trans (d2.mono HB1.out.size))
      have HR2 := Lib.hid (hr2.later c2)
      have HG2 := Lib.hid g2
      have HR12 := Lib.hid (HR1.out.later d2)
      have HG12 := Lib.hid ((d2.block _ (heap_lt HG1.out)).trans HG1.out)
      clear hr2 b2 c2 g2 d2
      subst hW2
      go_wp2_with fail
      generalize w2.alloc (.cells #[.int .i64 0, .int .i64 0] 28) = W2 at HB2 HR2 HG2 HR12 HG12 ⊢
      refine (HC.out s3 W2 (by have h5 := HSS.out; omega) (HE.out _ _ HW.out HB2.out)).mono ?_
      rintro e w3 ⟨A3, cap3, rfl, hr3, b3⟩
      rw [HV3.out] at hr3 ⊢
      dsimp only at hr3 ⊢
      try simp only [List.length_map, List.length_append, List.length_nil]
      obtain ⟨W3, hW3⟩ : ∃ W3, W3 = w3.alloc (.cells #[.int .i64 0, .int .i64 0] 28) := ⟨_, rfl⟩
      have c3 : Below w3.heap.size w3 W3 := by rw [hW3]; exact (Below.refl _ _).alloc (Nat.le_refl _) _
      have g3 : W3.heap[w3.heap.size]? = some (.cells #[.int .i64 0, .int .i64 0] 28 (0, 0)) := by rw [hW3]; exact block_alloc _ _
      have d3 := b3.trans (c3.mono b3.size)
      have HB3 := Lib.hid (HB2.out.trans (d3.mono HB2.out.size))
      have HR3 := Lib.hid (hr3.later c3)
      have HG3 := Lib.hid g3
      have HR13 := Lib.hid (HR12.out.later d3)
      have HR23 := Lib.hid (HR2.out.later d3)
      have HG13 := Lib.hid ((d3.block _ (heap_lt HG12.out)).trans HG12.out)
      have HG23 := Lib.hid ((d3.block _ (heap_lt HG2.out)).trans HG2.out)
      have x0 : W3.cell? ⟨w1.heap.size, 0, none⟩ = some (.int .i64 0) := cell_of_row HG13.out rfl
      have x1 : W3.cell? ⟨w1.heap.size, 1, none⟩ = some (.int .i64 0) := cell_of_row HG13.out rfl
      have y0 : W3.cell? ⟨w2.heap.size, 0, none⟩ = some (.int .i64 0) := cell_of_row HG23.out rfl
      have y1 : W3.cell? ⟨w2.heap.size, 1, none⟩ = some (.int .i64 0) := cell_of_row HG23.out rfl
      have z0 : W3.cell? ⟨w3.heap.size, 0, none⟩ = some (.int .i64 0) := cell_of_row g3 rfl
      have z1 : W3.cell? ⟨w3.heap.size, 1, none⟩ = some (.int .i64 0) := cell_of_row g3 rfl
      clear hr3 b3 c3 g3 d3
      subst hW3
      go_wp2_with fail
      generalize w3.alloc (.cells #[.int .i64 0, .int .i64 0] 28) = W3 at HB3 HR3 HR13 HR23 ⊢
      clear x0 x1 y0 y1 z0 z1 hs3
      go_loopw [11] (fun i wr => ∃ j : Nat, j ≤ LA.length + LB.length ∧ i = .int .i64 j ∧ Below W3.heap.size W3 wr) (fun i _ => LA.length + LB.length - (intOf i).toNat)
      case atStart => exact ⟨0, Nat.zero_le _, rfl, Below.refl _ _⟩
      case round =>
        obtain ⟨j, hj, rfl, hBB⟩ := hrel
        have HBB := Lib.hid hBB
        clear hBB
        by_cases hlt : j < LA.length
        · obtain ⟨t, ht⟩ : ∃ t, LA[j]? = some t := ⟨LA[j], List.getElem?_eq_getElem hlt⟩
          obtain ⟨ad, rfl, hl1, r1⟩ := HR13.out j t.tk (by rw [List.getElem?_map, ht]; rfl)
          obtain ⟨cd, rfl, hl3, r3⟩ := HR3.out j t.tk (by rw [List.getElem?_map, List.getElem?_append_left hlt, ht]; rfl)
          obtain ⟨tk, tn, tl, ta, te⟩ := t
          obtain ⟨ts, hts⟩ : ∃ ts : ByteArray, ts = ⟨tl.toArray⟩ := ⟨_, rfl⟩
          have e1 : PT.tk ⟨tk, tn, tl, ta, te⟩ = ⟨tk, tn, ts, ta⟩ := by rw [hts]; rfl
          rw [e1] at r1 r3
          have b5 : Below wr.heap.size wr (wr.alloc (.cells #[.int .i8 0, .int .i64 0, .string ⟨#[]⟩, .int .i64 0] 25)) := (Below.refl _ _).alloc (Nat.le_refl _) _
          obtain ⟨p0, p1, p2, p3⟩ := (r1.keep (HBB.out.block _ hl1)).keep (b5.block _ (Nat.lt_of_lt_of_le hl1 HBB.out.size))
          have b8 : Below wr.heap.size wr (wr.alloc (.cells #[.int .i8 tk, .int .i64 tn, .string ts, .int .i64 ta] 25)) := (Below.refl _ _).alloc (Nat.le_refl _) _
          have HR8 := Lib.hid ((r3.keep (HBB.out.block _ hl3)).keep (b8.block _ (Nat.lt_of_lt_of_le hl3 HBB.out.size)))
          have HG8 := Lib.hid (block_alloc wr (.cells #[.int .i8 tk, .int .i64 tn, .string ts, .int .i64 ta] 25))
          have HB8 := Lib.hid (HBB.out.trans (b8.mono HBB.out.size))
          have i0 : (0 : Int) ≤ (j : Int) := by omega
          have i1 : (j : Int) < (LA.length : Int) := by omega
          have i2 : (j : Int) < (LA.length : Int) + (LB.length : Int) := by omega
          clear ht r1 r3 e1 hts b5 b8 hl1 hl3
          go_wp2_with fail
          generalize wr.alloc (.cells #[.int .i8 tk, .int .i64 tn, .string ts, .int .i64 ta] 25) = W8 at HR8 HG8 HB8 ⊢
          have hS0 : RowT W8.drew cd (j) ⟨tk, tn, ts, ta⟩ ∧ W8.drew.heap[wr.heap.size]? = some (.cells #[.int .i8 tk, .int .i64 tn, .string ts, .int .i64 ta] 25 (0, 0)) := ⟨HR8.out, HG8.out⟩
          have HB9 : Hid (Below W3.heap.size W3 W8.drew) := HB8.out.trans (Below.mono ⟨rfl, rfl, rfl, Nat.le_refl _, fun _ _ => rfl⟩ HB8.out.size)
          refine wp_region_held (S := fun V => RowT V cd (j) ⟨tk, tn, ts, ta⟩ ∧ V.heap[wr.heap.size]? = some (.cells #[.int .i8 tk, .int .i64 tn, .string ts, .int .i64 ta] 25 (0, 0))) (by kernel_rfl) ?_
          show wpAnyH _ _ _ _ _ _ _ _ W8.drew
          generalize W8.drew = D at hS0 HB9 ⊢
          refine wpAnyH_take (i := 0) (oi := ⟨some 113, _, _, _, _, _⟩) (v := ?_) rfl (by kernel_rfl) (by kernel_rfl) (by kernel_rfl) (fun _ _ _ h => h) (Or.inl ⟨by kernel_rfl, ?_⟩) (by assumption) ?_; rotate_left; (intro w hSw; (try dsimp only at hSw); obtain ⟨⟨r0, r1, r2, r3⟩, hg⟩ := hSw; dsimp only at r0 r1 r2 r3; have z0 : w.cell? ⟨wr.heap.size, 0, none⟩ = some (.int .i8 tk) := cell_of_row hg rfl; have z1 : w.cell? ⟨wr.heap.size, 1, none⟩ = some (.int .i64 tn) := cell_of_row hg rfl; have z2 : w.cell? ⟨wr.heap.size, 2, none⟩ = some (.string ts) := cell_of_row hg rfl; have z3 : w.cell? ⟨wr.heap.size, 3, none⟩ = some (.int .i64 ta) := cell_of_row hg rfl; go_simp; first | done | with_reducible rfl); (try simp only [Act.put, List.setIfInBounds_toArray, List.set_cons_zero, List.set_cons_succ])
          refine wpAnyH_take (i := 1) (oi := ⟨some 114, _, _, _, _, _⟩) (v := ?_) rfl (by kernel_rfl) (by kernel_rfl) (by kernel_rfl) (fun _ _ _ h => h) (Or.inl ⟨by kernel_rfl, ?_⟩) (by assumption) ?_; rotate_left; (intro w hSw; (try dsimp only at hSw); obtain ⟨⟨r0, r1, r2, r3⟩, hg⟩ := hSw; dsimp only at r0 r1 r2 r3; have z0 : w.cell? ⟨wr.heap.size, 0, none⟩ = some (.int .i8 tk) := cell_of_row hg rfl; have z1 : w.cell? ⟨wr.heap.size, 1, none⟩ = some (.int .i64 tn) := cell_of_row hg rfl; have z2 : w.cell? ⟨wr.heap.size, 2, none⟩ = some (.string ts) := cell_of_row hg rfl; have z3 : w.cell? ⟨wr.heap.size, 3, none⟩ = some (.int .i64 ta) := cell_of_row hg rfl; go_simp; first | done | with_reducible rfl); (try simp only [Act.put, List.setIfInBounds_toArray, List.set_cons_zero, List.set_cons_succ])
          refine wpAnyH_take (i := 2) (oi := ⟨some 115, _, _, _, _, _⟩) (v := ?_) rfl (by kernel_rfl) (by kernel_rfl) (by kernel_rfl) (fun _ _ _ h => h) (Or.inl ⟨by kernel_rfl, ?_⟩) (by assumption) ?_; rotate_left; (intro w hSw; (try dsimp only at hSw); obtain ⟨⟨r0, r1, r2, r3⟩, hg⟩ := hSw; dsimp only at r0 r1 r2 r3; have z0 : w.cell? ⟨wr.heap.size, 0, none⟩ = some (.int .i8 tk) := cell_of_row hg rfl; have z1 : w.cell? ⟨wr.heap.size, 1, none⟩ = some (.int .i64 tn) := cell_of_row hg rfl; have z2 : w.cell? ⟨wr.heap.size, 2, none⟩ = some (.string ts) := cell_of_row hg rfl; have z3 : w.cell? ⟨wr.heap.size, 3, none⟩ = some (.int .i64 ta) := cell_of_row hg rfl; go_simp; first | done | with_reducible rfl); (try simp only [Act.put, List.setIfInBounds_toArray, List.set_cons_zero, List.set_cons_succ])
          refine wpAnyH_take (i := 3) (oi := ⟨some 116, _, _, _, _, _⟩) (v := ?_) rfl (by kernel_rfl) (by kernel_rfl) (by kernel_rfl) (fun _ _ _ h => h) (Or.inl ⟨by kernel_rfl, ?_⟩) (by assumption) ?_; rotate_left; (intro w hSw; (try dsimp only at hSw); obtain ⟨⟨r0, r1, r2, r3⟩, hg⟩ := hSw; dsimp only at r0 r1 r2 r3; have z0 : w.cell? ⟨wr.heap.size, 0, none⟩ = some (.int .i8 tk) := cell_of_row hg rfl; have z1 : w.cell? ⟨wr.heap.size, 1, none⟩ = some (.int .i64 tn) := cell_of_row hg rfl; have z2 : w.cell? ⟨wr.heap.size, 2, none⟩ = some (.string ts) := cell_of_row hg rfl; have z3 : w.cell? ⟨wr.heap.size, 3, none⟩ = some (.int .i64 ta) := cell_of_row hg rfl; go_simp; first | done | with_reducible rfl); (try simp only [Act.put, List.setIfInBounds_toArray, List.set_cons_zero, List.set_cons_succ])
          refine wpAnyH_take (i := 4) (oi := ⟨some 117, _, _, _, _, _⟩) (v := ?_) rfl (by kernel_rfl) (by kernel_rfl) (by kernel_rfl) (fun _ _ _ h => h) (Or.inl ⟨by kernel_rfl, ?_⟩) (by assumption) ?_; rotate_left; (intro w hSw; (try dsimp only at hSw); obtain ⟨⟨r0, r1, r2, r3⟩, hg⟩ := hSw; dsimp only at r0 r1 r2 r3; have z0 : w.cell? ⟨wr.heap.size, 0, none⟩ = some (.int .i8 tk) := cell_of_row hg rfl; have z1 : w.cell? ⟨wr.heap.size, 1, none⟩ = some (.int .i64 tn) := cell_of_row hg rfl; have z2 : w.cell? ⟨wr.heap.size, 2, none⟩ = some (.string ts) := cell_of_row hg rfl; have z3 : w.cell? ⟨wr.heap.size, 3, none⟩ = some (.int .i64 ta) := cell_of_row hg rfl; go_simp; first | done | with_reducible rfl); (try simp only [Act.put, List.setIfInBounds_toArray, List.set_cons_zero, List.set_cons_succ])
          refine wpAnyH_take (i := 5) (oi := ⟨some 118, _, _, _, _, _⟩) (v := ?_) rfl (by kernel_rfl) (by kernel_rfl) (by kernel_rfl) (fun _ _ _ h => h) (Or.inl ⟨by kernel_rfl, ?_⟩) (by assumption) ?_; rotate_left; (intro w hSw; (try dsimp only at hSw); obtain ⟨⟨r0, r1, r2, r3⟩, hg⟩ := hSw; dsimp only at r0 r1 r2 r3; have z0 : w.cell? ⟨wr.heap.size, 0, none⟩ = some (.int .i8 tk) := cell_of_row hg rfl; have z1 : w.cell? ⟨wr.heap.size, 1, none⟩ = some (.int .i64 tn) := cell_of_row hg rfl; have z2 : w.cell? ⟨wr.heap.size, 2, none⟩ = some (.string ts) := cell_of_row hg rfl; have z3 : w.cell? ⟨wr.heap.size, 3, none⟩ = some (.int .i64 ta) := cell_of_row hg rfl; go_simp; first | done | with_reducible rfl); (try simp only [Act.put, List.setIfInBounds_toArray, List.set_cons_zero, List.set_cons_succ])
          refine wpAnyH_done (by kernel_rfl) ?_ _
          go_wp2_with fail
          go_roundw
          case rel => exact ⟨j + 1, by omega, by go_num, HB9.out⟩
          case measure => simp [intOf]; omega
        · by_cases hlt2 : j < LA.length + LB.length
          · obtain ⟨q, hjq⟩ : ∃ q, j = LA.length + q := ⟨j - LA.length, by omega⟩
            have hjI : (j : Int) - (LA.length : Int) = (q : Int) := by omega
            have hq : q < LB.length := by omega
            obtain ⟨t, ht⟩ : ∃ t, LB[q]? = some t := ⟨LB[q], List.getElem?_eq_getElem hq⟩
            obtain ⟨ad, rfl, hl1, r1⟩ := HR23.out q t.tk (by rw [List.getElem?_map, ht]; rfl)
            obtain ⟨cd, rfl, hl3, r3⟩ := HR3.out j (t.on (a.size + 1)).tk (by rw [hjq, List.getElem?_map, List.getElem?_append_right (by omega), Nat.add_sub_cancel_left, List.getElem?_map, ht]; rfl)
            have hta := (scan_count b.size 0 b.data.toList).2 t (by rw [HLB.out]; exact List.mem_of_getElem? ht)
            rw [size_list] at hta
            obtain ⟨tk, tn, tl, ta, te⟩ := t
            have hta2 : ta ≤ 3000 := by have h5 : ta ≤ 0 + b.size := hta; omega
            obtain ⟨ts, hts⟩ : ∃ ts : ByteArray, ts = ⟨tl.toArray⟩ := ⟨_, rfl⟩
            have e1 : PT.tk ⟨tk, tn, tl, ta, te⟩ = ⟨tk, tn, ts, ta⟩ := by rw [hts]; rfl
            have e2 : (PT.on (a.size + 1) ⟨tk, tn, tl, ta, te⟩).tk = ⟨tk, tn, ts, (ta : Int) + (a.size : Int) + 1⟩ := by
              rw [hts, Int.add_assoc]; rfl
            rw [e1] at r1
            rw [e2] at r3
            have b5 : Below wr.heap.size wr (wr.alloc (.cells #[.int .i8 0, .int .i64 0, .string ⟨#[]⟩, .int .i64 0] 25)) := (Below.refl _ _).alloc (Nat.le_refl _) _
            obtain ⟨p0, p1, p2, p3⟩ := (r1.keep (HBB.out.block _ hl1)).keep (b5.block _ (Nat.lt_of_lt_of_le hl1 HBB.out.size))
            have b8 : Below wr.heap.size wr (wr.alloc (.cells #[.int .i8 tk, .int .i64 tn, .string ts, .int .i64 (ta + a.size + 1)] 25)) := (Below.refl _ _).alloc (Nat.le_refl _) _
            have HR8 := Lib.hid ((r3.keep (HBB.out.block _ hl3)).keep (b8.block _ (Nat.lt_of_lt_of_le hl3 HBB.out.size)))
            have HG8 := Lib.hid (block_alloc wr (.cells #[.int .i8 tk, .int .i64 tn, .string ts, .int .i64 (ta + a.size + 1)] 25))
            have HB8 := Lib.hid (HBB.out.trans (b8.mono HBB.out.size))
            have i0 : (0 : Int) ≤ (q : Int) := by omega
            have i1 : (q : Int) < (LB.length : Int) := by omega
            have i2 : ¬ (j : Int) < (LA.length : Int) := by omega
            have i3 : (j : Int) < (LA.length : Int) + (LB.length : Int) := by omega
            have i4 : (0 : Int) ≤ (j : Int) := by omega
            clear ht r1 r3 e1 e2 hts hta b5 b8 hl1 hl3 hjq
            go_wp2_with fail
            generalize wr.alloc (.cells #[.int .i8 tk, .int .i64 tn, .string ts, .int .i64 (ta + a.size + 1)] 25) = W8 at HR8 HG8 HB8 ⊢
            have hS0 : RowT W8.drew cd (j) ⟨tk, tn, ts, (ta : Int) + (a.size : Int) + 1⟩ ∧ W8.drew.heap[wr.heap.size]? = some (.cells #[.int .i8 tk, .int .i64 tn, .string ts, .int .i64 (ta + a.size + 1)] 25 (0, 0)) := ⟨HR8.out, HG8.out⟩
            have HB9 : Hid (Below W3.heap.size W3 W8.drew) := HB8.out.trans (Below.mono ⟨rfl, rfl, rfl, Nat.le_refl _, fun _ _ => rfl⟩ HB8.out.size)
            refine wp_region_held (S := fun V => RowT V cd (j) ⟨tk, tn, ts, (ta : Int) + (a.size : Int) + 1⟩ ∧ V.heap[wr.heap.size]? = some (.cells #[.int .i8 tk, .int .i64 tn, .string ts, .int .i64 (ta + a.size + 1)] 25 (0, 0))) (by kernel_rfl) ?_
            show wpAnyH _ _ _ _ _ _ _ _ W8.drew
            generalize W8.drew = D at hS0 HB9 ⊢
            refine wpAnyH_take (i := 0) (oi := ⟨some 113, _, _, _, _, _⟩) (v := ?_) rfl (by kernel_rfl) (by kernel_rfl) (by kernel_rfl) (fun _ _ _ h => h) (Or.inl ⟨by kernel_rfl, ?_⟩) (by assumption) ?_; rotate_left; (intro w hSw; (try dsimp only at hSw); obtain ⟨⟨r0, r1, r2, r3⟩, hg⟩ := hSw; dsimp only at r0 r1 r2 r3; have z0 : w.cell? ⟨wr.heap.size, 0, none⟩ = some (.int .i8 tk) := cell_of_row hg rfl; have z1 : w.cell? ⟨wr.heap.size, 1, none⟩ = some (.int .i64 tn) := cell_of_row hg rfl; have z2 : w.cell? ⟨wr.heap.size, 2, none⟩ = some (.string ts) := cell_of_row hg rfl; have z3 : w.cell? ⟨wr.heap.size, 3, none⟩ = some (.int .i64 (ta + a.size + 1)) := cell_of_row hg rfl; go_simp; first | done | with_reducible rfl); (try simp only [Act.put, List.setIfInBounds_toArray, List.set_cons_zero, List.set_cons_succ])
            refine wpAnyH_take (i := 1) (oi := ⟨some 114, _, _, _, _, _⟩) (v := ?_) rfl (by kernel_rfl) (by kernel_rfl) (by kernel_rfl) (fun _ _ _ h => h) (Or.inl ⟨by kernel_rfl, ?_⟩) (by assumption) ?_; rotate_left; (intro w hSw; (try dsimp only at hSw); obtain ⟨⟨r0, r1, r2, r3⟩, hg⟩ := hSw; dsimp only at r0 r1 r2 r3; have z0 : w.cell? ⟨wr.heap.size, 0, none⟩ = some (.int .i8 tk) := cell_of_row hg rfl; have z1 : w.cell? ⟨wr.heap.size, 1, none⟩ = some (.int .i64 tn) := cell_of_row hg rfl; have z2 : w.cell? ⟨wr.heap.size, 2, none⟩ = some (.string ts) := cell_of_row hg rfl; have z3 : w.cell? ⟨wr.heap.size, 3, none⟩ = some (.int .i64 (ta + a.size + 1)) := cell_of_row hg rfl; go_simp; first | done | with_reducible rfl); (try simp only [Act.put, List.setIfInBounds_toArray, List.set_cons_zero, List.set_cons_succ])
            refine wpAnyH_take (i := 2) (oi := ⟨some 115, _, _, _, _, _⟩) (v := ?_) rfl (by kernel_rfl) (by kernel_rfl) (by kernel_rfl) (fun _ _ _ h => h) (Or.inl ⟨by kernel_rfl, ?_⟩) (by assumption) ?_; rotate_left; (intro w hSw; (try dsimp only at hSw); obtain ⟨⟨r0, r1, r2, r3⟩, hg⟩ := hSw; dsimp only at r0 r1 r2 r3; have z0 : w.cell? ⟨wr.heap.size, 0, none⟩ = some (.int .i8 tk) := cell_of_row hg rfl; have z1 : w.cell? ⟨wr.heap.size, 1, none⟩ = some (.int .i64 tn) := cell_of_row hg rfl; have z2 : w.cell? ⟨wr.heap.size, 2, none⟩ = some (.string ts) := cell_of_row hg rfl; have z3 : w.cell? ⟨wr.heap.size, 3, none⟩ = some (.int .i64 (ta + a.size + 1)) := cell_of_row hg rfl; go_simp; first | done | with_reducible rfl); (try simp only [Act.put, List.setIfInBounds_toArray, List.set_cons_zero, List.set_cons_succ])
            refine wpAnyH_take (i := 3) (oi := ⟨some 116, _, _, _, _, _⟩) (v := ?_) rfl (by kernel_rfl) (by kernel_rfl) (by kernel_rfl) (fun _ _ _ h => h) (Or.inl ⟨by kernel_rfl, ?_⟩) (by assumption) ?_; rotate_left; (intro w hSw; (try dsimp only at hSw); obtain ⟨⟨r0, r1, r2, r3⟩, hg⟩ := hSw; dsimp only at r0 r1 r2 r3; have z0 : w.cell? ⟨wr.heap.size, 0, none⟩ = some (.int .i8 tk) := cell_of_row hg rfl; have z1 : w.cell? ⟨wr.heap.size, 1, none⟩ = some (.int .i64 tn) := cell_of_row hg rfl; have z2 : w.cell? ⟨wr.heap.size, 2, none⟩ = some (.string ts) := cell_of_row hg rfl; have z3 : w.cell? ⟨wr.heap.size, 3, none⟩ = some (.int .i64 (ta + a.size + 1)) := cell_of_row hg rfl; go_simp; first | done | with_reducible rfl); (try simp only [Act.put, List.setIfInBounds_toArray, List.set_cons_zero, List.set_cons_succ])
            refine wpAnyH_take (i := 4) (oi := ⟨some 117, _, _, _, _, _⟩) (v := ?_) rfl (by kernel_rfl) (by kernel_rfl) (by kernel_rfl) (fun _ _ _ h => h) (Or.inl ⟨by kernel_rfl, ?_⟩) (by assumption) ?_; rotate_left; (intro w hSw; (try dsimp only at hSw); obtain ⟨⟨r0, r1, r2, r3⟩, hg⟩ := hSw; dsimp only at r0 r1 r2 r3; have z0 : w.cell? ⟨wr.heap.size, 0, none⟩ = some (.int .i8 tk) := cell_of_row hg rfl; have z1 : w.cell? ⟨wr.heap.size, 1, none⟩ = some (.int .i64 tn) := cell_of_row hg rfl; have z2 : w.cell? ⟨wr.heap.size, 2, none⟩ = some (.string ts) := cell_of_row hg rfl; have z3 : w.cell? ⟨wr.heap.size, 3, none⟩ = some (.int .i64 (ta + a.size + 1)) := cell_of_row hg rfl; go_simp; first | done | with_reducible rfl); (try simp only [Act.put, List.setIfInBounds_toArray, List.set_cons_zero, List.set_cons_succ])
            refine wpAnyH_take (i := 5) (oi := ⟨some 118, _, _, _, _, _⟩) (v := ?_) rfl (by kernel_rfl) (by kernel_rfl) (by kernel_rfl) (fun _ _ _ h => h) (Or.inl ⟨by kernel_rfl, ?_⟩) (by assumption) ?_; rotate_left; (intro w hSw; (try dsimp only at hSw); obtain ⟨⟨r0, r1, r2, r3⟩, hg⟩ := hSw; dsimp only at r0 r1 r2 r3; have z0 : w.cell? ⟨wr.heap.size, 0, none⟩ = some (.int .i8 tk) := cell_of_row hg rfl; have z1 : w.cell? ⟨wr.heap.size, 1, none⟩ = some (.int .i64 tn) := cell_of_row hg rfl; have z2 : w.cell? ⟨wr.heap.size, 2, none⟩ = some (.string ts) := cell_of_row hg rfl; have z3 : w.cell? ⟨wr.heap.size, 3, none⟩ = some (.int .i64 (ta + a.size + 1)) := cell_of_row hg rfl; go_simp; first | done | with_reducible rfl); (try simp only [Act.put, List.setIfInBounds_toArray, List.set_cons_zero, List.set_cons_succ])
            refine wpAnyH_done (by kernel_rfl) ?_ _
            go_wp2_with fail
            go_roundw
            case rel => exact ⟨j + 1, by omega, by go_num, HB9.out⟩
            case measure => simp [intOf]; omega
          · go_wp2_with fail
            refine (wakes6_ok HE.out HC.out wr (HE.out _ _ HW.out (HB3.out.trans (HBB.out.mono HB3.out.size)))).mono ?_
            rintro e w6 ⟨rfl, b6⟩
            have HB6 := Lib.hid ((HB3.out.trans (HBB.out.mono HB3.out.size)).trans (b6.mono (Nat.le_trans HB3.out.size HBB.out.size)))
            clear b6
            go_wp2_with fail
            go_ret
            exact ⟨rfl, HB6.out⟩
end Go.Proofs.YtkaijnbefbggeaaDoor
