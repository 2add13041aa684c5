/- Layer 7: the functions that write one kind of node each: contracts. Layer 7: the writer's functions of nodes with a first child: contracts. Layer 7: the writer's functions of clauses, functions, receives: contracts. Layer 7: the writer's numbers, node, String: contracts. Layer 7: the Builder's String, of the writer's state. Layer 7: written, from what node writes. -/
import Derived.Test.YtcallgoglnkkiaaGreatDoorWea7
import Derived.Deep.MidRow
set_option linter.unusedVariables false
set_option linter.unusedSimpArgs false
namespace Go.Proofs.YtcallgoglnkkiaaGreatDoor
open Go.RowKit Go.Lib

set_option maxHeartbeats 4000000 in
set_option maxRecDepth 100000 in
theorem fm_mods {w0 : World} {B WB PB : Nat} (k : Int) (n : Int) (s t : ByteArray) (l : List Tm) (T : Tm → List UInt8) (hM : ∀ y ∈ l, NodeW w0 B WB PB y (T y)) : CallW w0 B WB PB (fun _ => True) 32 (clo PB) (.mk k n s t l) (sepT [] (l.map T)) := by
  intro v l0 W hT hS _ hlen
  obtain ⟨A, cap, rfl, hR, hk, hn, hs, ht⟩ := hT.parts
  have hmx := hR.max
  unfold maxLen at hmx
  have hcap := hR.cap
  obtain ⟨W1, hW1⟩ : ∃ W1, W1 = W.alloc (.cells #[.int .i8 k, .int .i64 n, .string s, .string t, .slice A l.length cap] 25) := ⟨_, rfl⟩
  have B1 : Below W.heap.size W W1 := by rw [hW1]; exact (Below.refl _ _).alloc (Nat.le_refl _) _
  have g1 : W1.heap[W.heap.size]? = some (.cells #[.int .i8 k, .int .i64 n, .string s, .string t, .slice A l.length cap] 25 (0, 0)) := by rw [hW1]; exact block_alloc _ _
  have hne : W.heap.size ≠ WB := by have := hS.base; have := hS.wb; omega
  have HNE := Lib.hid hne
  have HG1 := Lib.hid g1
  have HS1 := Lib.hid (hS.under B1)
  have HK1 := Lib.hid (Wk.of_below (w0 := w0) (B := B) (WB := WB) B1)
  have HLEN := Lib.hid hlen
  have HR := Lib.hid hR
  have HM := Lib.hid hM
  clear hM hT hS hlen hR B1 g1 hne hk hn hs ht
  show Calls Tryz.prog 32 #[.agg #[.int .i8 k, .int .i64 n, .string s, .string t, .slice A l.length cap], .pointer (some ⟨PB, 0, none⟩)] W _
  go_enter Tryz.func32, Tryz.ntmps32
  go_upto_region 1 with fail
  rw [← hW1]
  clear hW1
  have q0 : W1.cell? ⟨W.heap.size, 0, none⟩ = some (.int .i8 k) := cell_of_row HG1.out rfl
  have q1 : W1.cell? ⟨W.heap.size, 1, none⟩ = some (.int .i64 n) := cell_of_row HG1.out rfl
  have q2 : W1.cell? ⟨W.heap.size, 2, none⟩ = some (.string s) := cell_of_row HG1.out rfl
  have q3 : W1.cell? ⟨W.heap.size, 3, none⟩ = some (.string t) := cell_of_row HG1.out rfl
  have q4 : W1.cell? ⟨W.heap.size, 4, none⟩ = some (.slice A l.length cap) := cell_of_row HG1.out rfl
  have qp : W1.cell? ⟨PB, 0, none⟩ = some (.pointer (some ⟨WB, 0, none⟩)) := cell_of_row HS1.out.pb rfl
  go_wp2_with fail
  refine (list_any l T (A) (l.length) (cap) ⟨#[]⟩ (HR.out) HS1.out (HM.out) (by have h9 := HLEN.out; simp [catL] at h9 ⊢; omega)).mono ?_
  rintro e W2 ⟨rfl, h, k9⟩
  have HS2 := Lib.hid h
  have HK2 := Lib.hid (HK1.out.trans k9)
  have HG2 := Lib.hid (k9.block HG1.out HNE.out node_ne_u8)
  clear h k9 q0 q1 q2 q3 q4 qp
  go_wp2_with fail
  go_end0
  exact ⟨rfl, cast (congrArg (fun z => WSt w0 B WB PB z _) (by simp [catL])) HS2.out, HK2.out⟩

set_option maxHeartbeats 4000000 in
set_option maxRecDepth 100000 in
theorem fm_mod {w0 : World} {B WB PB : Nat} (k : Int) (n : Int) (s t : ByteArray) (l : List Tm) (T : Tm → List UInt8) (hM : ∀ y ∈ l, NodeW w0 B WB PB y (T y)) : CallW w0 B WB PB (fun _ => True) 34 (mth WB) (.mk k n s t l) ([109, 111, 100, 117, 108, 101, 32] ++ (s.data.toList ++ ([46, 10] ++ sepT [] (l.map T)))) := by
  intro v l0 W hT hS _ hlen
  obtain ⟨A, cap, rfl, hR, hk, hn, hs, ht⟩ := hT.parts
  have hmx := hR.max
  unfold maxLen at hmx
  have hcap := hR.cap
  obtain ⟨W1, hW1⟩ : ∃ W1, W1 = W.alloc (.cells #[.int .i8 k, .int .i64 n, .string s, .string t, .slice A l.length cap] 25) := ⟨_, rfl⟩
  have B1 : Below W.heap.size W W1 := by rw [hW1]; exact (Below.refl _ _).alloc (Nat.le_refl _) _
  have g1 : W1.heap[W.heap.size]? = some (.cells #[.int .i8 k, .int .i64 n, .string s, .string t, .slice A l.length cap] 25 (0, 0)) := by rw [hW1]; exact block_alloc _ _
  have hne : W.heap.size ≠ WB := by have := hS.base; have := hS.wb; omega
  have HNE := Lib.hid hne
  have HG1 := Lib.hid g1
  have HS1 := Lib.hid (hS.under B1)
  have HK1 := Lib.hid (Wk.of_below (w0 := w0) (B := B) (WB := WB) B1)
  have HLEN := Lib.hid hlen
  have HR := Lib.hid hR
  have HM := Lib.hid hM
  clear hM hT hS hlen hR B1 g1 hne hk hn hs ht
  show Calls Tryz.prog 34 #[.pointer (some ⟨WB, 0, none⟩), .agg #[.int .i8 k, .int .i64 n, .string s, .string t, .slice A l.length cap]] W _
  go_enter Tryz.func34, Tryz.ntmps34
  go_upto_region 1 with fail
  rw [← hW1]
  clear hW1
  have q0 : W1.cell? ⟨W.heap.size, 0, none⟩ = some (.int .i8 k) := cell_of_row HG1.out rfl
  have q1 : W1.cell? ⟨W.heap.size, 1, none⟩ = some (.int .i64 n) := cell_of_row HG1.out rfl
  have q2 : W1.cell? ⟨W.heap.size, 2, none⟩ = some (.string s) := cell_of_row HG1.out rfl
  have q3 : W1.cell? ⟨W.heap.size, 3, none⟩ = some (.string t) := cell_of_row HG1.out rfl
  have q4 : W1.cell? ⟨W.heap.size, 4, none⟩ = some (.slice A l.length cap) := cell_of_row HG1.out rfl
  go_wp2_with fail
  refine (put_row [⟨#[109, 111, 100, 117, 108, 101, 32]⟩, s, ⟨#[46, 10]⟩] _ (by decide) HS1.out (Nat.le_of_ble_eq_true rfl) (by have h9 := HLEN.out; simp [catL] at h9 ⊢; omega) rfl rfl).mono ?_
  rintro e W2 ⟨rfl, h, k9⟩
  have HS2 := Lib.hid h
  have HK2 := Lib.hid (HK1.out.trans k9)
  have HG2 := Lib.hid (k9.block HG1.out HNE.out node_ne_u8)
  clear h k9 q0 q1 q2 q3 q4
  have q0 : W2.cell? ⟨W.heap.size, 0, none⟩ = some (.int .i8 k) := cell_of_row HG2.out rfl
  have q1 : W2.cell? ⟨W.heap.size, 1, none⟩ = some (.int .i64 n) := cell_of_row HG2.out rfl
  have q2 : W2.cell? ⟨W.heap.size, 2, none⟩ = some (.string s) := cell_of_row HG2.out rfl
  have q3 : W2.cell? ⟨W.heap.size, 3, none⟩ = some (.string t) := cell_of_row HG2.out rfl
  have q4 : W2.cell? ⟨W.heap.size, 4, none⟩ = some (.slice A l.length cap) := cell_of_row HG2.out rfl
  go_wp2_with fail
  refine (list_any l T (A) (l.length) (cap) ⟨#[]⟩ (HR.out) HS2.out (HM.out) (by have h9 := HLEN.out; simp [catL] at h9 ⊢; omega)).mono ?_
  rintro e W3 ⟨rfl, h, k9⟩
  have HS3 := Lib.hid h
  have HK3 := Lib.hid (HK2.out.trans k9)
  have HG3 := Lib.hid (k9.block HG2.out HNE.out node_ne_u8)
  clear h k9 q0 q1 q2 q3 q4
  go_wp2_with fail
  go_end0
  exact ⟨rfl, cast (congrArg (fun z => WSt w0 B WB PB z _) (by simp [catL])) HS3.out, HK3.out⟩

set_option maxHeartbeats 4000000 in
set_option maxRecDepth 100000 in
theorem fm_name {w0 : World} {B WB PB : Nat} (k : Int) (n : Int) (s t : ByteArray) (l : List Tm) : CallW w0 B WB PB (fun _ => True) 38 (mth WB) (.mk k n s t l) (s.data.toList) := by
  intro v l0 W hT hS _ hlen
  obtain ⟨A, cap, rfl, hR, hk, hn, hs, ht⟩ := hT.parts
  have hmx := hR.max
  unfold maxLen at hmx
  have hcap := hR.cap
  obtain ⟨W1, hW1⟩ : ∃ W1, W1 = W.alloc (.cells #[.int .i8 k, .int .i64 n, .string s, .string t, .slice A l.length cap] 25) := ⟨_, rfl⟩
  have B1 : Below W.heap.size W W1 := by rw [hW1]; exact (Below.refl _ _).alloc (Nat.le_refl _) _
  have g1 : W1.heap[W.heap.size]? = some (.cells #[.int .i8 k, .int .i64 n, .string s, .string t, .slice A l.length cap] 25 (0, 0)) := by rw [hW1]; exact block_alloc _ _
  have hne : W.heap.size ≠ WB := by have := hS.base; have := hS.wb; omega
  have HNE := Lib.hid hne
  have HG1 := Lib.hid g1
  have HS1 := Lib.hid (hS.under B1)
  have HK1 := Lib.hid (Wk.of_below (w0 := w0) (B := B) (WB := WB) B1)
  have HLEN := Lib.hid hlen
  have HR := Lib.hid hR
  clear  hT hS hlen hR B1 g1 hne hk hn hs ht
  show Calls Tryz.prog 38 #[.pointer (some ⟨WB, 0, none⟩), .agg #[.int .i8 k, .int .i64 n, .string s, .string t, .slice A l.length cap]] W _
  go_enter Tryz.func38, Tryz.ntmps38
  go_upto_region 1 with fail
  rw [← hW1]
  clear hW1
  have q0 : W1.cell? ⟨W.heap.size, 0, none⟩ = some (.int .i8 k) := cell_of_row HG1.out rfl
  have q1 : W1.cell? ⟨W.heap.size, 1, none⟩ = some (.int .i64 n) := cell_of_row HG1.out rfl
  have q2 : W1.cell? ⟨W.heap.size, 2, none⟩ = some (.string s) := cell_of_row HG1.out rfl
  have q3 : W1.cell? ⟨W.heap.size, 3, none⟩ = some (.string t) := cell_of_row HG1.out rfl
  have q4 : W1.cell? ⟨W.heap.size, 4, none⟩ = some (.slice A l.length cap) := cell_of_row HG1.out rfl
  go_wp2_with fail
  refine (put_row [s] _ (by decide) HS1.out (Nat.le_of_ble_eq_true rfl) (by have h9 := HLEN.out; simp [catL] at h9 ⊢; omega) rfl rfl).mono ?_
  rintro e W2 ⟨rfl, h, k9⟩
  have HS2 := Lib.hid h
  have HK2 := Lib.hid (HK1.out.trans k9)
  have HG2 := Lib.hid (k9.block HG1.out HNE.out node_ne_u8)
  clear h k9 q0 q1 q2 q3 q4
  go_wp2_with fail
  go_end0
  exact ⟨rfl, cast (congrArg (fun z => WSt w0 B WB PB z _) (by simp [catL])) HS2.out, HK2.out⟩

set_option maxHeartbeats 4000000 in
set_option maxRecDepth 100000 in
theorem fm_nil {w0 : World} {B WB PB : Nat} (k : Int) (n : Int) (s t : ByteArray) (l : List Tm) : CallW w0 B WB PB (fun _ => True) 42 (clo PB) (.mk k n s t l) ([91, 93]) := by
  intro v l0 W hT hS _ hlen
  obtain ⟨A, cap, rfl, hR, hk, hn, hs, ht⟩ := hT.parts
  have hmx := hR.max
  unfold maxLen at hmx
  have hcap := hR.cap
  obtain ⟨W1, hW1⟩ : ∃ W1, W1 = W.alloc (.cells #[.int .i8 k, .int .i64 n, .string s, .string t, .slice A l.length cap] 25) := ⟨_, rfl⟩
  have B1 : Below W.heap.size W W1 := by rw [hW1]; exact (Below.refl _ _).alloc (Nat.le_refl _) _
  have g1 : W1.heap[W.heap.size]? = some (.cells #[.int .i8 k, .int .i64 n, .string s, .string t, .slice A l.length cap] 25 (0, 0)) := by rw [hW1]; exact block_alloc _ _
  have hne : W.heap.size ≠ WB := by have := hS.base; have := hS.wb; omega
  have HNE := Lib.hid hne
  have HG1 := Lib.hid g1
  have HS1 := Lib.hid (hS.under B1)
  have HK1 := Lib.hid (Wk.of_below (w0 := w0) (B := B) (WB := WB) B1)
  have HLEN := Lib.hid hlen
  have HR := Lib.hid hR
  clear  hT hS hlen hR B1 g1 hne hk hn hs ht
  show Calls Tryz.prog 42 #[.agg #[.int .i8 k, .int .i64 n, .string s, .string t, .slice A l.length cap], .pointer (some ⟨PB, 0, none⟩)] W _
  go_enter Tryz.func42, Tryz.ntmps42
  go_upto_region 1 with fail
  rw [← hW1]
  clear hW1
  have q0 : W1.cell? ⟨W.heap.size, 0, none⟩ = some (.int .i8 k) := cell_of_row HG1.out rfl
  have q1 : W1.cell? ⟨W.heap.size, 1, none⟩ = some (.int .i64 n) := cell_of_row HG1.out rfl
  have q2 : W1.cell? ⟨W.heap.size, 2, none⟩ = some (.string s) := cell_of_row HG1.out rfl
  have q3 : W1.cell? ⟨W.heap.size, 3, none⟩ = some (.string t) := cell_of_row HG1.out rfl
  have q4 : W1.cell? ⟨W.heap.size, 4, none⟩ = some (.slice A l.length cap) := cell_of_row HG1.out rfl
  have qp : W1.cell? ⟨PB, 0, none⟩ = some (.pointer (some ⟨WB, 0, none⟩)) := cell_of_row HS1.out.pb rfl
  go_wp2_with fail
  refine (put_row [⟨#[91, 93]⟩] _ (by decide) HS1.out (Nat.le_of_ble_eq_true rfl) (by have h9 := HLEN.out; simp [catL] at h9 ⊢; omega) rfl rfl).mono ?_
  rintro e W2 ⟨rfl, h, k9⟩
  have HS2 := Lib.hid h
  have HK2 := Lib.hid (HK1.out.trans k9)
  have HG2 := Lib.hid (k9.block HG1.out HNE.out node_ne_u8)
  clear h k9 q0 q1 q2 q3 q4 qp
  go_wp2_with fail
  go_end0
  exact ⟨rfl, cast (congrArg (fun z => WSt w0 B WB PB z _) (by simp [catL])) HS2.out, HK2.out⟩

set_option maxHeartbeats 4000000 in
set_option maxRecDepth 100000 in
theorem fm_cons {w0 : World} {B WB PB : Nat} (k : Int) (n : Int) (s t : ByteArray) (l : List Tm) (T : Tm → List UInt8) (hM : ∀ y ∈ l, NodeW w0 B WB PB y (T y)) : CallW w0 B WB PB (fun _ => True) 43 (clo PB) (.mk k n s t l) ([91] ++ (sepT ([124]) (l.map T) ++ [93])) := by
  intro v l0 W hT hS _ hlen
  obtain ⟨A, cap, rfl, hR, hk, hn, hs, ht⟩ := hT.parts
  have hmx := hR.max
  unfold maxLen at hmx
  have hcap := hR.cap
  obtain ⟨W1, hW1⟩ : ∃ W1, W1 = W.alloc (.cells #[.int .i8 k, .int .i64 n, .string s, .string t, .slice A l.length cap] 25) := ⟨_, rfl⟩
  have B1 : Below W.heap.size W W1 := by rw [hW1]; exact (Below.refl _ _).alloc (Nat.le_refl _) _
  have g1 : W1.heap[W.heap.size]? = some (.cells #[.int .i8 k, .int .i64 n, .string s, .string t, .slice A l.length cap] 25 (0, 0)) := by rw [hW1]; exact block_alloc _ _
  have hne : W.heap.size ≠ WB := by have := hS.base; have := hS.wb; omega
  have HNE := Lib.hid hne
  have HG1 := Lib.hid g1
  have HS1 := Lib.hid (hS.under B1)
  have HK1 := Lib.hid (Wk.of_below (w0 := w0) (B := B) (WB := WB) B1)
  have HLEN := Lib.hid hlen
  have HR := Lib.hid hR
  have HM := Lib.hid hM
  clear hM hT hS hlen hR B1 g1 hne hk hn hs ht
  show Calls Tryz.prog 43 #[.agg #[.int .i8 k, .int .i64 n, .string s, .string t, .slice A l.length cap], .pointer (some ⟨PB, 0, none⟩)] W _
  go_enter Tryz.func43, Tryz.ntmps43
  go_upto_region 1 with fail
  rw [← hW1]
  clear hW1
  have q0 : W1.cell? ⟨W.heap.size, 0, none⟩ = some (.int .i8 k) := cell_of_row HG1.out rfl
  have q1 : W1.cell? ⟨W.heap.size, 1, none⟩ = some (.int .i64 n) := cell_of_row HG1.out rfl
  have q2 : W1.cell? ⟨W.heap.size, 2, none⟩ = some (.string s) := cell_of_row HG1.out rfl
  have q3 : W1.cell? ⟨W.heap.size, 3, none⟩ = some (.string t) := cell_of_row HG1.out rfl
  have q4 : W1.cell? ⟨W.heap.size, 4, none⟩ = some (.slice A l.length cap) := cell_of_row HG1.out rfl
  have qp : W1.cell? ⟨PB, 0, none⟩ = some (.pointer (some ⟨WB, 0, none⟩)) := cell_of_row HS1.out.pb rfl
  go_wp2_with fail
  refine (between_any ⟨#[91]⟩ l T A l.length cap ⟨#[124]⟩ ⟨#[93]⟩ HR.out HS1.out HM.out (by have h9 := HLEN.out; simp [catL] at h9 ⊢; omega)).mono ?_
  rintro e W2 ⟨rfl, h, k9⟩
  have HS2 := Lib.hid h
  have HK2 := Lib.hid (HK1.out.trans k9)
  have HG2 := Lib.hid (k9.block HG1.out HNE.out node_ne_u8)
  clear h k9 q0 q1 q2 q3 q4 qp
  go_wp2_with fail
  go_end0
  exact ⟨rfl, cast (congrArg (fun z => WSt w0 B WB PB z _) (by simp [catL])) HS2.out, HK2.out⟩

set_option maxHeartbeats 4000000 in
set_option maxRecDepth 100000 in
theorem fm_tuple {w0 : World} {B WB PB : Nat} (k : Int) (n : Int) (s t : ByteArray) (l : List Tm) (T : Tm → List UInt8) (hM : ∀ y ∈ l, NodeW w0 B WB PB y (T y)) : CallW w0 B WB PB (fun _ => True) 45 (clo PB) (.mk k n s t l) ([123] ++ (sepT ([44, 32]) (l.map T) ++ [125])) := by
  intro v l0 W hT hS _ hlen
  obtain ⟨A, cap, rfl, hR, hk, hn, hs, ht⟩ := hT.parts
  have hmx := hR.max
  unfold maxLen at hmx
  have hcap := hR.cap
  obtain ⟨W1, hW1⟩ : ∃ W1, W1 = W.alloc (.cells #[.int .i8 k, .int .i64 n, .string s, .string t, .slice A l.length cap] 25) := ⟨_, rfl⟩
  have B1 : Below W.heap.size W W1 := by rw [hW1]; exact (Below.refl _ _).alloc (Nat.le_refl _) _
  have g1 : W1.heap[W.heap.size]? = some (.cells #[.int .i8 k, .int .i64 n, .string s, .string t, .slice A l.length cap] 25 (0, 0)) := by rw [hW1]; exact block_alloc _ _
  have hne : W.heap.size ≠ WB := by have := hS.base; have := hS.wb; omega
  have HNE := Lib.hid hne
  have HG1 := Lib.hid g1
  have HS1 := Lib.hid (hS.under B1)
  have HK1 := Lib.hid (Wk.of_below (w0 := w0) (B := B) (WB := WB) B1)
  have HLEN := Lib.hid hlen
  have HR := Lib.hid hR
  have HM := Lib.hid hM
  clear hM hT hS hlen hR B1 g1 hne hk hn hs ht
  show Calls Tryz.prog 45 #[.agg #[.int .i8 k, .int .i64 n, .string s, .string t, .slice A l.length cap], .pointer (some ⟨PB, 0, none⟩)] W _
  go_enter Tryz.func45, Tryz.ntmps45
  go_upto_region 1 with fail
  rw [← hW1]
  clear hW1
  have q0 : W1.cell? ⟨W.heap.size, 0, none⟩ = some (.int .i8 k) := cell_of_row HG1.out rfl
  have q1 : W1.cell? ⟨W.heap.size, 1, none⟩ = some (.int .i64 n) := cell_of_row HG1.out rfl
  have q2 : W1.cell? ⟨W.heap.size, 2, none⟩ = some (.string s) := cell_of_row HG1.out rfl
  have q3 : W1.cell? ⟨W.heap.size, 3, none⟩ = some (.string t) := cell_of_row HG1.out rfl
  have q4 : W1.cell? ⟨W.heap.size, 4, none⟩ = some (.slice A l.length cap) := cell_of_row HG1.out rfl
  have qp : W1.cell? ⟨PB, 0, none⟩ = some (.pointer (some ⟨WB, 0, none⟩)) := cell_of_row HS1.out.pb rfl
  go_wp2_with fail
  refine (between_any ⟨#[123]⟩ l T A l.length cap ⟨#[44, 32]⟩ ⟨#[125]⟩ HR.out HS1.out HM.out (by have h9 := HLEN.out; simp [catL] at h9 ⊢; omega)).mono ?_
  rintro e W2 ⟨rfl, h, k9⟩
  have HS2 := Lib.hid h
  have HK2 := Lib.hid (HK1.out.trans k9)
  have HG2 := Lib.hid (k9.block HG1.out HNE.out node_ne_u8)
  clear h k9 q0 q1 q2 q3 q4 qp
  go_wp2_with fail
  go_end0
  exact ⟨rfl, cast (congrArg (fun z => WSt w0 B WB PB z _) (by simp [catL])) HS2.out, HK2.out⟩

theorem sep_sp (s : ByteArray) : ((⟨#[32]⟩ : ByteArray) ++ s ++ ⟨#[32]⟩).data.toList = [32] ++ s.data.toList ++ [32] := by simp [ByteArray.data_append]

set_option maxHeartbeats 4000000 in
set_option maxRecDepth 100000 in
theorem fm_op {w0 : World} {B WB PB : Nat} (k : Int) (n : Int) (s t : ByteArray) (l : List Tm) (T : Tm → List UInt8) (hM : ∀ y ∈ l, NodeW w0 B WB PB y (T y)) (hsz : s.size ≤ 100000000) : CallW w0 B WB PB (fun _ => True) 46 (clo PB) (.mk k n s t l) ([40] ++ (sepT ([32] ++ s.data.toList ++ [32]) (l.map T) ++ [41])) := by
  intro v l0 W hT hS _ hlen
  obtain ⟨A, cap, rfl, hR, hk, hn, hs, ht⟩ := hT.parts
  obtain ⟨sp, hsp⟩ : ∃ sp, sp = (⟨#[32]⟩ : ByteArray) ++ s ++ ⟨#[32]⟩ := ⟨_, rfl⟩
  have hspd : [32] ++ s.data.toList ++ [32] = sp.data.toList := by rw [hsp, sep_sp]
  rw [hspd] at hlen ⊢
  have HSP := Lib.hid hsp
  clear hspd hsp
  have hmx := hR.max
  unfold maxLen at hmx
  have hcap := hR.cap
  obtain ⟨W1, hW1⟩ : ∃ W1, W1 = W.alloc (.cells #[.int .i8 k, .int .i64 n, .string s, .string t, .slice A l.length cap] 25) := ⟨_, rfl⟩
  have B1 : Below W.heap.size W W1 := by rw [hW1]; exact (Below.refl _ _).alloc (Nat.le_refl _) _
  have g1 : W1.heap[W.heap.size]? = some (.cells #[.int .i8 k, .int .i64 n, .string s, .string t, .slice A l.length cap] 25 (0, 0)) := by rw [hW1]; exact block_alloc _ _
  have hne : W.heap.size ≠ WB := by have := hS.base; have := hS.wb; omega
  have HNE := Lib.hid hne
  have HG1 := Lib.hid g1
  have HS1 := Lib.hid (hS.under B1)
  have HK1 := Lib.hid (Wk.of_below (w0 := w0) (B := B) (WB := WB) B1)
  have HLEN := Lib.hid hlen
  have HR := Lib.hid hR
  have HM := Lib.hid hM
  clear hM hT hS hlen hR B1 g1 hne hk hn hs ht
  show Calls Tryz.prog 46 #[.agg #[.int .i8 k, .int .i64 n, .string s, .string t, .slice A l.length cap], .pointer (some ⟨PB, 0, none⟩)] W _
  go_enter Tryz.func46, Tryz.ntmps46
  go_upto_region 1 with fail
  rw [← hW1]
  clear hW1
  have q0 : W1.cell? ⟨W.heap.size, 0, none⟩ = some (.int .i8 k) := cell_of_row HG1.out rfl
  have q1 : W1.cell? ⟨W.heap.size, 1, none⟩ = some (.int .i64 n) := cell_of_row HG1.out rfl
  have q2 : W1.cell? ⟨W.heap.size, 2, none⟩ = some (.string s) := cell_of_row HG1.out rfl
  have q3 : W1.cell? ⟨W.heap.size, 3, none⟩ = some (.string t) := cell_of_row HG1.out rfl
  have q4 : W1.cell? ⟨W.heap.size, 4, none⟩ = some (.slice A l.length cap) := cell_of_row HG1.out rfl
  have qp : W1.cell? ⟨PB, 0, none⟩ = some (.pointer (some ⟨WB, 0, none⟩)) := cell_of_row HS1.out.pb rfl
  go_wp2_with fail
  rw [← HSP.out]
  refine (between_any ⟨#[40]⟩ l T A l.length cap sp ⟨#[41]⟩ HR.out HS1.out HM.out (by have h9 := HLEN.out; simp [catL] at h9 ⊢; omega)).mono ?_
  rintro e W2 ⟨rfl, h, k9⟩
  have HS2 := Lib.hid h
  have HK2 := Lib.hid (HK1.out.trans k9)
  have HG2 := Lib.hid (k9.block HG1.out HNE.out node_ne_u8)
  clear h k9 q0 q1 q2 q3 q4 qp
  go_wp2_with fail
  go_end0
  exact ⟨rfl, cast (congrArg (fun z => WSt w0 B WB PB z _) (by simp [catL])) HS2.out, HK2.out⟩

set_option maxHeartbeats 4000000 in
set_option maxRecDepth 100000 in
theorem fm_match {w0 : World} {B WB PB : Nat} (k : Int) (n : Int) (s t : ByteArray) (l : List Tm) (T : Tm → List UInt8) (hM : ∀ y ∈ l, NodeW w0 B WB PB y (T y)) : CallW w0 B WB PB (fun _ => True) 48 (clo PB) (.mk k n s t l) ([40] ++ (sepT ([32, 61, 32]) (l.map T) ++ [41])) := by
  intro v l0 W hT hS _ hlen
  obtain ⟨A, cap, rfl, hR, hk, hn, hs, ht⟩ := hT.parts
  have hmx := hR.max
  unfold maxLen at hmx
  have hcap := hR.cap
  obtain ⟨W1, hW1⟩ : ∃ W1, W1 = W.alloc (.cells #[.int .i8 k, .int .i64 n, .string s, .string t, .slice A l.length cap] 25) := ⟨_, rfl⟩
  have B1 : Below W.heap.size W W1 := by rw [hW1]; exact (Below.refl _ _).alloc (Nat.le_refl _) _
  have g1 : W1.heap[W.heap.size]? = some (.cells #[.int .i8 k, .int .i64 n, .string s, .string t, .slice A l.length cap] 25 (0, 0)) := by rw [hW1]; exact block_alloc _ _
  have hne : W.heap.size ≠ WB := by have := hS.base; have := hS.wb; omega
  have HNE := Lib.hid hne
  have HG1 := Lib.hid g1
  have HS1 := Lib.hid (hS.under B1)
  have HK1 := Lib.hid (Wk.of_below (w0 := w0) (B := B) (WB := WB) B1)
  have HLEN := Lib.hid hlen
  have HR := Lib.hid hR
  have HM := Lib.hid hM
  clear hM hT hS hlen hR B1 g1 hne hk hn hs ht
  show Calls Tryz.prog 48 #[.agg #[.int .i8 k, .int .i64 n, .string s, .string t, .slice A l.length cap], .pointer (some ⟨PB, 0, none⟩)] W _
  go_enter Tryz.func48, Tryz.ntmps48
  go_upto_region 1 with fail
  rw [← hW1]
  clear hW1
  have q0 : W1.cell? ⟨W.heap.size, 0, none⟩ = some (.int .i8 k) := cell_of_row HG1.out rfl
  have q1 : W1.cell? ⟨W.heap.size, 1, none⟩ = some (.int .i64 n) := cell_of_row HG1.out rfl
  have q2 : W1.cell? ⟨W.heap.size, 2, none⟩ = some (.string s) := cell_of_row HG1.out rfl
  have q3 : W1.cell? ⟨W.heap.size, 3, none⟩ = some (.string t) := cell_of_row HG1.out rfl
  have q4 : W1.cell? ⟨W.heap.size, 4, none⟩ = some (.slice A l.length cap) := cell_of_row HG1.out rfl
  have qp : W1.cell? ⟨PB, 0, none⟩ = some (.pointer (some ⟨WB, 0, none⟩)) := cell_of_row HS1.out.pb rfl
  go_wp2_with fail
  refine (between_any ⟨#[40]⟩ l T A l.length cap ⟨#[32, 61, 32]⟩ ⟨#[41]⟩ HR.out HS1.out HM.out (by have h9 := HLEN.out; simp [catL] at h9 ⊢; omega)).mono ?_
  rintro e W2 ⟨rfl, h, k9⟩
  have HS2 := Lib.hid h
  have HK2 := Lib.hid (HK1.out.trans k9)
  have HG2 := Lib.hid (k9.block HG1.out HNE.out node_ne_u8)
  clear h k9 q0 q1 q2 q3 q4 qp
  go_wp2_with fail
  go_end0
  exact ⟨rfl, cast (congrArg (fun z => WSt w0 B WB PB z _) (by simp [catL])) HS2.out, HK2.out⟩

set_option maxHeartbeats 4000000 in
set_option maxRecDepth 100000 in
theorem fm_call {w0 : World} {B WB PB : Nat} (k : Int) (n : Int) (s t : ByteArray) (l : List Tm) (T : Tm → List UInt8) (hM : ∀ y ∈ l, NodeW w0 B WB PB y (T y)) : CallW w0 B WB PB (fun _ => True) 47 (mth WB) (.mk k n s t l) (s.data.toList ++ ([40] ++ sepT [44, 32] (l.map T) ++ [41])) := by
  intro v l0 W hT hS _ hlen
  obtain ⟨A, cap, rfl, hR, hk, hn, hs, ht⟩ := hT.parts
  have hmx := hR.max
  unfold maxLen at hmx
  have hcap := hR.cap
  obtain ⟨W1, hW1⟩ : ∃ W1, W1 = W.alloc (.cells #[.int .i8 k, .int .i64 n, .string s, .string t, .slice A l.length cap] 25) := ⟨_, rfl⟩
  have B1 : Below W.heap.size W W1 := by rw [hW1]; exact (Below.refl _ _).alloc (Nat.le_refl _) _
  have g1 : W1.heap[W.heap.size]? = some (.cells #[.int .i8 k, .int .i64 n, .string s, .string t, .slice A l.length cap] 25 (0, 0)) := by rw [hW1]; exact block_alloc _ _
  have hne : W.heap.size ≠ WB := by have := hS.base; have := hS.wb; omega
  have HNE := Lib.hid hne
  have HG1 := Lib.hid g1
  have HS1 := Lib.hid (hS.under B1)
  have HK1 := Lib.hid (Wk.of_below (w0 := w0) (B := B) (WB := WB) B1)
  have HLEN := Lib.hid hlen
  have HR := Lib.hid hR
  have HM := Lib.hid hM
  clear hM hT hS hlen hR B1 g1 hne hk hn hs ht
  show Calls Tryz.prog 47 #[.pointer (some ⟨WB, 0, none⟩), .agg #[.int .i8 k, .int .i64 n, .string s, .string t, .slice A l.length cap]] W _
  go_enter Tryz.func47, Tryz.ntmps47
  go_upto_region 1 with fail
  rw [← hW1]
  clear hW1
  have q0 : W1.cell? ⟨W.heap.size, 0, none⟩ = some (.int .i8 k) := cell_of_row HG1.out rfl
  have q1 : W1.cell? ⟨W.heap.size, 1, none⟩ = some (.int .i64 n) := cell_of_row HG1.out rfl
  have q2 : W1.cell? ⟨W.heap.size, 2, none⟩ = some (.string s) := cell_of_row HG1.out rfl
  have q3 : W1.cell? ⟨W.heap.size, 3, none⟩ = some (.string t) := cell_of_row HG1.out rfl
  have q4 : W1.cell? ⟨W.heap.size, 4, none⟩ = some (.slice A l.length cap) := cell_of_row HG1.out rfl
  go_wp2_with fail
  refine (put_row [s] _ (by decide) HS1.out (Nat.le_of_ble_eq_true rfl) (by have h9 := HLEN.out; simp [catL] at h9 ⊢; omega) rfl rfl).mono ?_
  rintro e W2 ⟨rfl, h, k9⟩
  have HS2 := Lib.hid h
  have HK2 := Lib.hid (HK1.out.trans k9)
  have HG2 := Lib.hid (k9.block HG1.out HNE.out node_ne_u8)
  clear h k9 q0 q1 q2 q3 q4
  have q0 : W2.cell? ⟨W.heap.size, 0, none⟩ = some (.int .i8 k) := cell_of_row HG2.out rfl
  have q1 : W2.cell? ⟨W.heap.size, 1, none⟩ = some (.int .i64 n) := cell_of_row HG2.out rfl
  have q2 : W2.cell? ⟨W.heap.size, 2, none⟩ = some (.string s) := cell_of_row HG2.out rfl
  have q3 : W2.cell? ⟨W.heap.size, 3, none⟩ = some (.string t) := cell_of_row HG2.out rfl
  have q4 : W2.cell? ⟨W.heap.size, 4, none⟩ = some (.slice A l.length cap) := cell_of_row HG2.out rfl
  go_wp2_with fail
  refine (argsW_any l T A l.length cap HR.out HS2.out HM.out (by have h9 := HLEN.out; simp [catL] at h9 ⊢; omega)).mono ?_
  rintro e W3 ⟨rfl, h, k9⟩
  have HS3 := Lib.hid h
  have HK3 := Lib.hid (HK2.out.trans k9)
  have HG3 := Lib.hid (k9.block HG2.out HNE.out node_ne_u8)
  clear h k9 q0 q1 q2 q3 q4
  go_wp2_with fail
  go_end0
  exact ⟨rfl, cast (congrArg (fun z => WSt w0 B WB PB z _) (by simp [catL])) HS3.out, HK3.out⟩

set_option maxHeartbeats 4000000 in
set_option maxRecDepth 100000 in
theorem fm_remote {w0 : World} {B WB PB : Nat} (k : Int) (n : Int) (s t : ByteArray) (l : List Tm) (T : Tm → List UInt8) (hM : ∀ y ∈ l, NodeW w0 B WB PB y (T y)) : CallW w0 B WB PB (fun _ => True) 49 (mth WB) (.mk k n s t l) (s.data.toList ++ [58] ++ t.data.toList ++ ([40] ++ sepT [44, 32] (l.map T) ++ [41])) := by
  intro v l0 W hT hS _ hlen
  obtain ⟨A, cap, rfl, hR, hk, hn, hs, ht⟩ := hT.parts
  have hmx := hR.max
  unfold maxLen at hmx
  have hcap := hR.cap
  obtain ⟨W1, hW1⟩ : ∃ W1, W1 = W.alloc (.cells #[.int .i8 k, .int .i64 n, .string s, .string t, .slice A l.length cap] 25) := ⟨_, rfl⟩
  have B1 : Below W.heap.size W W1 := by rw [hW1]; exact (Below.refl _ _).alloc (Nat.le_refl _) _
  have g1 : W1.heap[W.heap.size]? = some (.cells #[.int .i8 k, .int .i64 n, .string s, .string t, .slice A l.length cap] 25 (0, 0)) := by rw [hW1]; exact block_alloc _ _
  have hne : W.heap.size ≠ WB := by have := hS.base; have := hS.wb; omega
  have HNE := Lib.hid hne
  have HG1 := Lib.hid g1
  have HS1 := Lib.hid (hS.under B1)
  have HK1 := Lib.hid (Wk.of_below (w0 := w0) (B := B) (WB := WB) B1)
  have HLEN := Lib.hid hlen
  have HR := Lib.hid hR
  have HM := Lib.hid hM
  clear hM hT hS hlen hR B1 g1 hne hk hn hs ht
  show Calls Tryz.prog 49 #[.pointer (some ⟨WB, 0, none⟩), .agg #[.int .i8 k, .int .i64 n, .string s, .string t, .slice A l.length cap]] W _
  go_enter Tryz.func49, Tryz.ntmps49
  go_upto_region 1 with fail
  rw [← hW1]
  clear hW1
  have q0 : W1.cell? ⟨W.heap.size, 0, none⟩ = some (.int .i8 k) := cell_of_row HG1.out rfl
  have q1 : W1.cell? ⟨W.heap.size, 1, none⟩ = some (.int .i64 n) := cell_of_row HG1.out rfl
  have q2 : W1.cell? ⟨W.heap.size, 2, none⟩ = some (.string s) := cell_of_row HG1.out rfl
  have q3 : W1.cell? ⟨W.heap.size, 3, none⟩ = some (.string t) := cell_of_row HG1.out rfl
  have q4 : W1.cell? ⟨W.heap.size, 4, none⟩ = some (.slice A l.length cap) := cell_of_row HG1.out rfl
  go_wp2_with fail
  refine (put_row [s, ⟨#[58]⟩, t] _ (by decide) HS1.out (Nat.le_of_ble_eq_true rfl) (by have h9 := HLEN.out; simp [catL] at h9 ⊢; omega) rfl rfl).mono ?_
  rintro e W2 ⟨rfl, h, k9⟩
  have HS2 := Lib.hid h
  have HK2 := Lib.hid (HK1.out.trans k9)
  have HG2 := Lib.hid (k9.block HG1.out HNE.out node_ne_u8)
  clear h k9 q0 q1 q2 q3 q4
  have q0 : W2.cell? ⟨W.heap.size, 0, none⟩ = some (.int .i8 k) := cell_of_row HG2.out rfl
  have q1 : W2.cell? ⟨W.heap.size, 1, none⟩ = some (.int .i64 n) := cell_of_row HG2.out rfl
  have q2 : W2.cell? ⟨W.heap.size, 2, none⟩ = some (.string s) := cell_of_row HG2.out rfl
  have q3 : W2.cell? ⟨W.heap.size, 3, none⟩ = some (.string t) := cell_of_row HG2.out rfl
  have q4 : W2.cell? ⟨W.heap.size, 4, none⟩ = some (.slice A l.length cap) := cell_of_row HG2.out rfl
  go_wp2_with fail
  refine (argsW_any l T A l.length cap HR.out HS2.out HM.out (by have h9 := HLEN.out; simp [catL] at h9 ⊢; omega)).mono ?_
  rintro e W3 ⟨rfl, h, k9⟩
  have HS3 := Lib.hid h
  have HK3 := Lib.hid (HK2.out.trans k9)
  have HG3 := Lib.hid (k9.block HG2.out HNE.out node_ne_u8)
  clear h k9 q0 q1 q2 q3 q4
  go_wp2_with fail
  go_end0
  exact ⟨rfl, cast (congrArg (fun z => WSt w0 B WB PB z _) (by simp [catL])) HS3.out, HK3.out⟩

set_option maxHeartbeats 4000000 in
set_option maxRecDepth 100000 in
theorem fm_guard {w0 : World} {B WB PB : Nat} (k : Int) (n : Int) (s t : ByteArray) (l : List Tm) (T : Tm → List UInt8) (hM : ∀ y ∈ l, NodeW w0 B WB PB y (T y)) : CallW w0 B WB PB (fun _ => True) 37 (mth WB) (.mk k n s t l) (if l.isEmpty then [] else [32, 119, 104, 101, 110, 32] ++ sepT [44, 32] (l.map T)) := by
  intro v l0 W hT hS _ hlen
  obtain ⟨A, cap, rfl, hR, hk, hn, hs, ht⟩ := hT.parts
  obtain ⟨R, hRR⟩ : ∃ R, R = (if l.isEmpty then [] else [32, 119, 104, 101, 110, 32] ++ sepT [44, 32] (l.map T)) := ⟨_, rfl⟩
  rw [← hRR] at hlen ⊢
  have HRR := Lib.hid hRR
  clear hRR
  have hmx := hR.max
  unfold maxLen at hmx
  have hcap := hR.cap
  obtain ⟨W1, hW1⟩ : ∃ W1, W1 = W.alloc (.cells #[.int .i8 k, .int .i64 n, .string s, .string t, .slice A l.length cap] 25) := ⟨_, rfl⟩
  have B1 : Below W.heap.size W W1 := by rw [hW1]; exact (Below.refl _ _).alloc (Nat.le_refl _) _
  have g1 : W1.heap[W.heap.size]? = some (.cells #[.int .i8 k, .int .i64 n, .string s, .string t, .slice A l.length cap] 25 (0, 0)) := by rw [hW1]; exact block_alloc _ _
  have hne : W.heap.size ≠ WB := by have := hS.base; have := hS.wb; omega
  have HNE := Lib.hid hne
  have HG1 := Lib.hid g1
  have HS1 := Lib.hid (hS.under B1)
  have HK1 := Lib.hid (Wk.of_below (w0 := w0) (B := B) (WB := WB) B1)
  have HLEN := Lib.hid hlen
  have HR := Lib.hid hR
  have HM := Lib.hid hM
  clear hM hT hS hlen hR B1 g1 hne hk hn hs ht
  show Calls Tryz.prog 37 #[.pointer (some ⟨WB, 0, none⟩), .agg #[.int .i8 k, .int .i64 n, .string s, .string t, .slice A l.length cap]] W _
  go_enter Tryz.func37, Tryz.ntmps37
  go_upto_region 1 with fail
  rw [← hW1]
  clear hW1
  by_cases hl : l.length = 0
  · have hl0 : l.isEmpty = true := by rw [List.isEmpty_iff]; exact List.length_eq_zero_iff.1 hl
    have HL0 := Lib.hid hl0
    clear hl0
    rw [hl] at HG1
    have q0 : W1.cell? ⟨W.heap.size, 0, none⟩ = some (.int .i8 k) := cell_of_row HG1.out rfl
    have q1 : W1.cell? ⟨W.heap.size, 1, none⟩ = some (.int .i64 n) := cell_of_row HG1.out rfl
    have q2 : W1.cell? ⟨W.heap.size, 2, none⟩ = some (.string s) := cell_of_row HG1.out rfl
    have q3 : W1.cell? ⟨W.heap.size, 3, none⟩ = some (.string t) := cell_of_row HG1.out rfl
    have q4 : W1.cell? ⟨W.heap.size, 4, none⟩ = some (.slice A 0 cap) := cell_of_row HG1.out rfl
    rw [hl]
    go_wp2_with fail
    go_end0
    exact ⟨rfl, by rw [HRR.out, HL0.out, if_pos rfl, List.append_nil]; exact HS1.out, HK1.out⟩
  · have hl1 : 0 < (l.length : Int) := by omega
    have hl0 : l.isEmpty = false := by rw [List.isEmpty_eq_false_iff]; intro h; rw [h] at hl; exact hl rfl
    have hln := HLEN.out
    rw [HRR.out, hl0, if_neg Bool.false_ne_true] at hln
    have HL0 := Lib.hid hl0
    have HLEN := Lib.hid hln
    clear hl0 hln
    have q0 : W1.cell? ⟨W.heap.size, 0, none⟩ = some (.int .i8 k) := cell_of_row HG1.out rfl
    have q1 : W1.cell? ⟨W.heap.size, 1, none⟩ = some (.int .i64 n) := cell_of_row HG1.out rfl
    have q2 : W1.cell? ⟨W.heap.size, 2, none⟩ = some (.string s) := cell_of_row HG1.out rfl
    have q3 : W1.cell? ⟨W.heap.size, 3, none⟩ = some (.string t) := cell_of_row HG1.out rfl
    have q4 : W1.cell? ⟨W.heap.size, 4, none⟩ = some (.slice A l.length cap) := cell_of_row HG1.out rfl
    go_wp2_with fail
    refine (put_row [⟨#[32, 119, 104, 101, 110, 32]⟩] _ (by decide) HS1.out (Nat.le_of_ble_eq_true rfl) (by have h9 := HLEN.out; simp [catL] at h9 ⊢; omega) rfl rfl).mono ?_
    rintro e W2 ⟨rfl, h, k9⟩
    have HS2 := Lib.hid h
    have HK2 := Lib.hid (HK1.out.trans k9)
    have HG2 := Lib.hid (k9.block HG1.out HNE.out node_ne_u8)
    clear h k9 q0 q1 q2 q3 q4
    have q0 : W2.cell? ⟨W.heap.size, 0, none⟩ = some (.int .i8 k) := cell_of_row HG2.out rfl
    have q1 : W2.cell? ⟨W.heap.size, 1, none⟩ = some (.int .i64 n) := cell_of_row HG2.out rfl
    have q2 : W2.cell? ⟨W.heap.size, 2, none⟩ = some (.string s) := cell_of_row HG2.out rfl
    have q3 : W2.cell? ⟨W.heap.size, 3, none⟩ = some (.string t) := cell_of_row HG2.out rfl
    have q4 : W2.cell? ⟨W.heap.size, 4, none⟩ = some (.slice A l.length cap) := cell_of_row HG2.out rfl
    go_wp2_with fail
    refine (list_any l T (A) (l.length) (cap) ⟨#[44, 32]⟩ (HR.out) HS2.out (HM.out) (by have h9 := HLEN.out; simp [catL] at h9 ⊢; omega)).mono ?_
    rintro e W3 ⟨rfl, h, k9⟩
    have HS3 := Lib.hid h
    have HK3 := Lib.hid (HK2.out.trans k9)
    have HG3 := Lib.hid (k9.block HG2.out HNE.out node_ne_u8)
    clear h k9 q0 q1 q2 q3 q4
    go_wp2_with fail
    go_end0
    exact ⟨rfl, cast (congrArg (fun z => WSt w0 B WB PB z _) (by rw [HRR.out, HL0.out, if_neg Bool.false_ne_true]; simp [catL])) HS3.out, HK3.out⟩
end Go.Proofs.YtcallgoglnkkiaaGreatDoor
set_option linter.unusedVariables false
set_option linter.unusedSimpArgs false
namespace Go.Proofs.YtcallgoglnkkiaaGreatDoor
open Go.RowKit Go.Lib

set_option maxHeartbeats 4000000 in
set_option maxRecDepth 100000 in
theorem fm_apply {w0 : World} {B WB PB : Nat} (k : Int) (n : Int) (s t : ByteArray) (l : List Tm) (y : Tm) (T0 : List UInt8) (T : Tm → List UInt8) (h0 : NodeW w0 B WB PB y T0) (hM : ∀ z ∈ l, NodeW w0 B WB PB z (T z)) : CallW w0 B WB PB (fun _ => True) 50 (mth WB) (.mk k n s t (y :: l)) (T0 ++ ([40] ++ sepT [44, 32] (l.map T) ++ [41])) := by
  intro v l0 W hT hS _ hlen
  obtain ⟨A, cap, rfl, hR, hk, hn, hs, ht⟩ := hT.parts
  obtain ⟨ad, u, hA, had, hEl, hTy⟩ := hR.at_ 0 y rfl
  subst hA
  obtain ⟨k', n', s', t', l', A', cap', hy', rfl⟩ : ∃ k' n' s' t' l' A' cap', y = Tm.mk k' n' s' t' l' ∧ u = .agg #[.int .i8 k', .int .i64 n', .string s', .string t', .slice A' l'.length cap'] := by
    cases hTy; exact ⟨_, _, _, _, _, _, _, rfl, rfl⟩
  have hD : TRow (· < w0.heap.size) w0 (some (ad.add (1 * 5))) ((y :: l).length - 1) (cap - 1) l := hR.drop 1
  rw [← five_on] at hD
  obtain ⟨N, hN⟩ : ∃ N, N = (y :: l).length := ⟨_, rfl⟩
  rw [← hN] at hR hD hT ⊢
  have hN1 : 1 ≤ N := by rw [hN]; simp
  have hNl : N - 1 = l.length := by rw [hN]; simp
  have HNL := Lib.hid hNl
  have HD := Lib.hid hD
  have HEL := Lib.hid hEl
  have HAD := Lib.hid had
  have HTY := Lib.hid hTy
  clear hD hN hNl hEl had hTy hy'
  have hmx := hR.max
  unfold maxLen at hmx
  have hcap := hR.cap
  obtain ⟨W1, hW1⟩ : ∃ W1, W1 = W.alloc (.cells #[.int .i8 k, .int .i64 n, .string s, .string t, .slice (some ad) N cap] 25) := ⟨_, rfl⟩
  have B1 : Below W.heap.size W W1 := by rw [hW1]; exact (Below.refl _ _).alloc (Nat.le_refl _) _
  have g1 : W1.heap[W.heap.size]? = some (.cells #[.int .i8 k, .int .i64 n, .string s, .string t, .slice (some ad) N cap] 25 (0, 0)) := by rw [hW1]; exact block_alloc _ _
  have hne : W.heap.size ≠ WB := by have := hS.base; have := hS.wb; omega
  have HNE := Lib.hid hne
  have HG1 := Lib.hid g1
  have HS1 := Lib.hid (hS.under B1)
  have HK1 := Lib.hid (Wk.of_below (w0 := w0) (B := B) (WB := WB) B1)
  have HLEN := Lib.hid hlen
  have HR := Lib.hid hR
  have H0 := Lib.hid h0
  have HM := Lib.hid hM
  clear h0 hM hT hS hlen hR B1 g1 hne hk hn hs ht
  show Calls Tryz.prog 50 #[.pointer (some ⟨WB, 0, none⟩), .agg #[.int .i8 k, .int .i64 n, .string s, .string t, .slice (some ad) N cap]] W _
  go_enter Tryz.func50, Tryz.ntmps50
  go_upto_region 1 with fail
  rw [← hW1]
  clear hW1
  obtain ⟨z0, z1, z2, z3, z4⟩ := elem_zero (HEL.out.keep (HS1.out.below.block ad.block HAD.out))
  have q0 : W1.cell? ⟨W.heap.size, 0, none⟩ = some (.int .i8 k) := cell_of_row HG1.out rfl
  have q1 : W1.cell? ⟨W.heap.size, 1, none⟩ = some (.int .i64 n) := cell_of_row HG1.out rfl
  have q2 : W1.cell? ⟨W.heap.size, 2, none⟩ = some (.string s) := cell_of_row HG1.out rfl
  have q3 : W1.cell? ⟨W.heap.size, 3, none⟩ = some (.string t) := cell_of_row HG1.out rfl
  have q4 : W1.cell? ⟨W.heap.size, 4, none⟩ = some (.slice (some ad) N cap) := cell_of_row HG1.out rfl
  go_wp2_with fail
  refine (H0.out _ _ W1 HTY.out HS1.out trivial (by have h9 := HLEN.out; simp [catL] at h9 ⊢; omega)).mono ?_
  rintro e W2 ⟨rfl, h, k9⟩
  have HS2 := Lib.hid h
  have HK2 := Lib.hid (HK1.out.trans k9)
  have HG2 := Lib.hid (k9.block HG1.out HNE.out node_ne_u8)
  clear h k9 q0 q1 q2 q3 q4 z0 z1 z2 z3 z4
  by_cases hc1 : cap = 1
  · have hN2 : N = 1 := by omega
    subst hc1
    have hl0 : l = [] := List.length_eq_zero_iff.1 (by have := HNL.out; omega)
    have HL0 := Lib.hid hl0
    have hln := HLEN.out
    rw [hl0] at hln
    have HLEN := Lib.hid hln
    clear hl0 HD HM hln
    subst hN2
    have q0 : W2.cell? ⟨W.heap.size, 0, none⟩ = some (.int .i8 k) := cell_of_row HG2.out rfl
    have q1 : W2.cell? ⟨W.heap.size, 1, none⟩ = some (.int .i64 n) := cell_of_row HG2.out rfl
    have q2 : W2.cell? ⟨W.heap.size, 2, none⟩ = some (.string s) := cell_of_row HG2.out rfl
    have q3 : W2.cell? ⟨W.heap.size, 3, none⟩ = some (.string t) := cell_of_row HG2.out rfl
    have q4 : W2.cell? ⟨W.heap.size, 4, none⟩ = some (.slice (some ad) 1 1) := cell_of_row HG2.out rfl
    go_wp2_with fail
    refine (argsW_any [] T (some ad) (0) (0) (TRow.nil _ _ _ _) HS2.out (fun y hy => by cases hy) (by have h9 := HLEN.out; simp [catL] at h9 ⊢; omega)).mono ?_
    rintro e W3 ⟨rfl, h, k9⟩
    have HS3 := Lib.hid h
    have HK3 := Lib.hid (HK2.out.trans k9)
    have HG3 := Lib.hid (k9.block HG2.out HNE.out node_ne_u8)
    clear h k9 q0 q1 q2 q3 q4
    go_wp2_with fail
    go_end0
    exact ⟨rfl, cast (congrArg (fun z => WSt w0 B WB PB z _) (by rw [HL0.out]; simp [catL, sepT])) HS3.out, HK3.out⟩
  · have hc2 : 1 < cap := by omega
    clear hc1
    have q0 : W2.cell? ⟨W.heap.size, 0, none⟩ = some (.int .i8 k) := cell_of_row HG2.out rfl
    have q1 : W2.cell? ⟨W.heap.size, 1, none⟩ = some (.int .i64 n) := cell_of_row HG2.out rfl
    have q2 : W2.cell? ⟨W.heap.size, 2, none⟩ = some (.string s) := cell_of_row HG2.out rfl
    have q3 : W2.cell? ⟨W.heap.size, 3, none⟩ = some (.string t) := cell_of_row HG2.out rfl
    have q4 : W2.cell? ⟨W.heap.size, 4, none⟩ = some (.slice (some ad) N cap) := cell_of_row HG2.out rfl
    go_wp2_with fail
    refine (argsW_any l T (some ⟨ad.block, ad.off + 5, none⟩) (N - 1) (cap - 1) (HD.out) HS2.out (HM.out) (by have h9 := HLEN.out; simp [catL] at h9 ⊢; omega)).mono ?_
    rintro e W3 ⟨rfl, h, k9⟩
    have HS3 := Lib.hid h
    have HK3 := Lib.hid (HK2.out.trans k9)
    have HG3 := Lib.hid (k9.block HG2.out HNE.out node_ne_u8)
    clear h k9 q0 q1 q2 q3 q4
    go_wp2_with fail
    go_end0
    exact ⟨rfl, cast (congrArg (fun z => WSt w0 B WB PB z _) (by simp [catL])) HS3.out, HK3.out⟩

set_option maxHeartbeats 4000000 in
set_option maxRecDepth 100000 in
theorem fm_after {w0 : World} {B WB PB : Nat} (k : Int) (n : Int) (s t : ByteArray) (l : List Tm) (y : Tm) (T0 : List UInt8) (T : Tm → List UInt8) (h0 : NodeW w0 B WB PB y T0) (hM : ∀ z ∈ l, NodeW w0 B WB PB z (T z)) : CallW w0 B WB PB (fun _ => True) 56 (mth WB) (.mk k n s t (y :: l)) ([32, 97, 102, 116, 101, 114, 32] ++ (T0 ++ ([32, 45, 62, 32] ++ sepT [44, 32] (l.map T)))) := by
  intro v l0 W hT hS _ hlen
  obtain ⟨A, cap, rfl, hR, hk, hn, hs, ht⟩ := hT.parts
  obtain ⟨ad, u, hA, had, hEl, hTy⟩ := hR.at_ 0 y rfl
  subst hA
  obtain ⟨k', n', s', t', l', A', cap', hy', rfl⟩ : ∃ k' n' s' t' l' A' cap', y = Tm.mk k' n' s' t' l' ∧ u = .agg #[.int .i8 k', .int .i64 n', .string s', .string t', .slice A' l'.length cap'] := by
    cases hTy; exact ⟨_, _, _, _, _, _, _, rfl, rfl⟩
  have hD : TRow (· < w0.heap.size) w0 (some (ad.add (1 * 5))) ((y :: l).length - 1) (cap - 1) l := hR.drop 1
  rw [← five_on] at hD
  obtain ⟨N, hN⟩ : ∃ N, N = (y :: l).length := ⟨_, rfl⟩
  rw [← hN] at hR hD hT ⊢
  have hN1 : 1 ≤ N := by rw [hN]; simp
  have hNl : N - 1 = l.length := by rw [hN]; simp
  have HNL := Lib.hid hNl
  have HD := Lib.hid hD
  have HEL := Lib.hid hEl
  have HAD := Lib.hid had
  have HTY := Lib.hid hTy
  clear hD hN hNl hEl had hTy hy'
  have hmx := hR.max
  unfold maxLen at hmx
  have hcap := hR.cap
  obtain ⟨W1, hW1⟩ : ∃ W1, W1 = W.alloc (.cells #[.int .i8 k, .int .i64 n, .string s, .string t, .slice (some ad) N cap] 25) := ⟨_, rfl⟩
  have B1 : Below W.heap.size W W1 := by rw [hW1]; exact (Below.refl _ _).alloc (Nat.le_refl _) _
  have g1 : W1.heap[W.heap.size]? = some (.cells #[.int .i8 k, .int .i64 n, .string s, .string t, .slice (some ad) N cap] 25 (0, 0)) := by rw [hW1]; exact block_alloc _ _
  have hne : W.heap.size ≠ WB := by have := hS.base; have := hS.wb; omega
  have HNE := Lib.hid hne
  have HG1 := Lib.hid g1
  have HS1 := Lib.hid (hS.under B1)
  have HK1 := Lib.hid (Wk.of_below (w0 := w0) (B := B) (WB := WB) B1)
  have HLEN := Lib.hid hlen
  have HR := Lib.hid hR
  have H0 := Lib.hid h0
  have HM := Lib.hid hM
  clear h0 hM hT hS hlen hR B1 g1 hne hk hn hs ht
  show Calls Tryz.prog 56 #[.pointer (some ⟨WB, 0, none⟩), .agg #[.int .i8 k, .int .i64 n, .string s, .string t, .slice (some ad) N cap]] W _
  go_enter Tryz.func56, Tryz.ntmps56
  go_upto_region 1 with fail
  rw [← hW1]
  clear hW1
  have q0 : W1.cell? ⟨W.heap.size, 0, none⟩ = some (.int .i8 k) := cell_of_row HG1.out rfl
  have q1 : W1.cell? ⟨W.heap.size, 1, none⟩ = some (.int .i64 n) := cell_of_row HG1.out rfl
  have q2 : W1.cell? ⟨W.heap.size, 2, none⟩ = some (.string s) := cell_of_row HG1.out rfl
  have q3 : W1.cell? ⟨W.heap.size, 3, none⟩ = some (.string t) := cell_of_row HG1.out rfl
  have q4 : W1.cell? ⟨W.heap.size, 4, none⟩ = some (.slice (some ad) N cap) := cell_of_row HG1.out rfl
  go_wp2_with fail
  refine (put_row [⟨#[32, 97, 102, 116, 101, 114, 32]⟩] _ (by decide) HS1.out (Nat.le_of_ble_eq_true rfl) (by have h9 := HLEN.out; simp [catL] at h9 ⊢; omega) rfl rfl).mono ?_
  rintro e W2 ⟨rfl, h, k9⟩
  have HS2 := Lib.hid h
  have HK2 := Lib.hid (HK1.out.trans k9)
  have HG2 := Lib.hid (k9.block HG1.out HNE.out node_ne_u8)
  clear h k9 q0 q1 q2 q3 q4
  obtain ⟨z0, z1, z2, z3, z4⟩ := elem_zero (HEL.out.keep (HS2.out.below.block ad.block HAD.out))
  have q0 : W2.cell? ⟨W.heap.size, 0, none⟩ = some (.int .i8 k) := cell_of_row HG2.out rfl
  have q1 : W2.cell? ⟨W.heap.size, 1, none⟩ = some (.int .i64 n) := cell_of_row HG2.out rfl
  have q2 : W2.cell? ⟨W.heap.size, 2, none⟩ = some (.string s) := cell_of_row HG2.out rfl
  have q3 : W2.cell? ⟨W.heap.size, 3, none⟩ = some (.string t) := cell_of_row HG2.out rfl
  have q4 : W2.cell? ⟨W.heap.size, 4, none⟩ = some (.slice (some ad) N cap) := cell_of_row HG2.out rfl
  go_wp2_with fail
  refine (H0.out _ _ W2 HTY.out HS2.out trivial (by have h9 := HLEN.out; simp [catL] at h9 ⊢; omega)).mono ?_
  rintro e W3 ⟨rfl, h, k9⟩
  have HS3 := Lib.hid h
  have HK3 := Lib.hid (HK2.out.trans k9)
  have HG3 := Lib.hid (k9.block HG2.out HNE.out node_ne_u8)
  clear h k9 q0 q1 q2 q3 q4 z0 z1 z2 z3 z4
  have q0 : W3.cell? ⟨W.heap.size, 0, none⟩ = some (.int .i8 k) := cell_of_row HG3.out rfl
  have q1 : W3.cell? ⟨W.heap.size, 1, none⟩ = some (.int .i64 n) := cell_of_row HG3.out rfl
  have q2 : W3.cell? ⟨W.heap.size, 2, none⟩ = some (.string s) := cell_of_row HG3.out rfl
  have q3 : W3.cell? ⟨W.heap.size, 3, none⟩ = some (.string t) := cell_of_row HG3.out rfl
  have q4 : W3.cell? ⟨W.heap.size, 4, none⟩ = some (.slice (some ad) N cap) := cell_of_row HG3.out rfl
  go_wp2_with fail
  refine (put_row [⟨#[32, 45, 62, 32]⟩] _ (by decide) HS3.out (Nat.le_of_ble_eq_true rfl) (by have h9 := HLEN.out; simp [catL] at h9 ⊢; omega) rfl rfl).mono ?_
  rintro e W4 ⟨rfl, h, k9⟩
  have HS4 := Lib.hid h
  have HK4 := Lib.hid (HK3.out.trans k9)
  have HG4 := Lib.hid (k9.block HG3.out HNE.out node_ne_u8)
  clear h k9 q0 q1 q2 q3 q4
  by_cases hc1 : cap = 1
  · have hN2 : N = 1 := by omega
    subst hc1
    have hl0 : l = [] := List.length_eq_zero_iff.1 (by have := HNL.out; omega)
    have HL0 := Lib.hid hl0
    have hln := HLEN.out
    rw [hl0] at hln
    have HLEN := Lib.hid hln
    clear hl0 HD HM hln
    subst hN2
    have q0 : W4.cell? ⟨W.heap.size, 0, none⟩ = some (.int .i8 k) := cell_of_row HG4.out rfl
    have q1 : W4.cell? ⟨W.heap.size, 1, none⟩ = some (.int .i64 n) := cell_of_row HG4.out rfl
    have q2 : W4.cell? ⟨W.heap.size, 2, none⟩ = some (.string s) := cell_of_row HG4.out rfl
    have q3 : W4.cell? ⟨W.heap.size, 3, none⟩ = some (.string t) := cell_of_row HG4.out rfl
    have q4 : W4.cell? ⟨W.heap.size, 4, none⟩ = some (.slice (some ad) 1 1) := cell_of_row HG4.out rfl
    go_wp2_with fail
    refine (list_any [] T (some ad) (0) (0) ⟨#[44, 32]⟩ (TRow.nil _ _ _ _) HS4.out (fun y hy => by cases hy) (by have h9 := HLEN.out; simp [catL] at h9 ⊢; omega)).mono ?_
    rintro e W5 ⟨rfl, h, k9⟩
    have HS5 := Lib.hid h
    have HK5 := Lib.hid (HK4.out.trans k9)
    have HG5 := Lib.hid (k9.block HG4.out HNE.out node_ne_u8)
    clear h k9 q0 q1 q2 q3 q4
    go_wp2_with fail
    go_end0
    exact ⟨rfl, cast (congrArg (fun z => WSt w0 B WB PB z _) (by rw [HL0.out]; simp [catL, sepT])) HS5.out, HK5.out⟩
  · have hc2 : 1 < cap := by omega
    clear hc1
    have q0 : W4.cell? ⟨W.heap.size, 0, none⟩ = some (.int .i8 k) := cell_of_row HG4.out rfl
    have q1 : W4.cell? ⟨W.heap.size, 1, none⟩ = some (.int .i64 n) := cell_of_row HG4.out rfl
    have q2 : W4.cell? ⟨W.heap.size, 2, none⟩ = some (.string s) := cell_of_row HG4.out rfl
    have q3 : W4.cell? ⟨W.heap.size, 3, none⟩ = some (.string t) := cell_of_row HG4.out rfl
    have q4 : W4.cell? ⟨W.heap.size, 4, none⟩ = some (.slice (some ad) N cap) := cell_of_row HG4.out rfl
    go_wp2_with fail
    refine (list_any l T (some ⟨ad.block, ad.off + 5, none⟩) (N - 1) (cap - 1) ⟨#[44, 32]⟩ (HD.out) HS4.out (HM.out) (by have h9 := HLEN.out; simp [catL] at h9 ⊢; omega)).mono ?_
    rintro e W5 ⟨rfl, h, k9⟩
    have HS5 := Lib.hid h
    have HK5 := Lib.hid (HK4.out.trans k9)
    have HG5 := Lib.hid (k9.block HG4.out HNE.out node_ne_u8)
    clear h k9 q0 q1 q2 q3 q4
    go_wp2_with fail
    go_end0
    exact ⟨rfl, cast (congrArg (fun z => WSt w0 B WB PB z _) (by simp [catL])) HS5.out, HK5.out⟩

set_option maxHeartbeats 4000000 in
set_option maxRecDepth 100000 in
theorem choice_w {w0 : World} {B WB PB : Nat} (k : Int) (n : Int) (s t : ByteArray) (l : List Tm) (y : Tm) (T0 : List UInt8) (T : Tm → List UInt8) (h0 : NodeW w0 B WB PB y T0) (hM : ∀ z ∈ l, NodeW w0 B WB PB z (T z)) (a b : ByteArray) : CallW w0 B WB PB (fun _ => True) 53 (fun v => #[.pointer (some ⟨WB, 0, none⟩), .string a, v, .string b]) (.mk k n s t (y :: l)) (a.data.toList ++ (T0 ++ (b.data.toList ++ (sepT [59, 32] (l.map T) ++ [32, 101, 110, 100])))) := by
  intro v l0 W hT hS _ hlen
  obtain ⟨A, cap, rfl, hR, hk, hn, hs, ht⟩ := hT.parts
  obtain ⟨ad, u, hA, had, hEl, hTy⟩ := hR.at_ 0 y rfl
  subst hA
  obtain ⟨k', n', s', t', l', A', cap', hy', rfl⟩ : ∃ k' n' s' t' l' A' cap', y = Tm.mk k' n' s' t' l' ∧ u = .agg #[.int .i8 k', .int .i64 n', .string s', .string t', .slice A' l'.length cap'] := by
    cases hTy; exact ⟨_, _, _, _, _, _, _, rfl, rfl⟩
  have hD : TRow (· < w0.heap.size) w0 (some (ad.add (1 * 5))) ((y :: l).length - 1) (cap - 1) l := hR.drop 1
  rw [← five_on] at hD
  obtain ⟨N, hN⟩ : ∃ N, N = (y :: l).length := ⟨_, rfl⟩
  rw [← hN] at hR hD hT ⊢
  have hN1 : 1 ≤ N := by rw [hN]; simp
  have hNl : N - 1 = l.length := by rw [hN]; simp
  have HNL := Lib.hid hNl
  have HD := Lib.hid hD
  have HEL := Lib.hid hEl
  have HAD := Lib.hid had
  have HTY := Lib.hid hTy
  clear hD hN hNl hEl had hTy hy'
  have hmx := hR.max
  unfold maxLen at hmx
  have hcap := hR.cap
  obtain ⟨W1, hW1⟩ : ∃ W1, W1 = W.alloc (.cells #[.int .i8 k, .int .i64 n, .string s, .string t, .slice (some ad) N cap] 25) := ⟨_, rfl⟩
  have B1 : Below W.heap.size W W1 := by rw [hW1]; exact (Below.refl _ _).alloc (Nat.le_refl _) _
  have g1 : W1.heap[W.heap.size]? = some (.cells #[.int .i8 k, .int .i64 n, .string s, .string t, .slice (some ad) N cap] 25 (0, 0)) := by rw [hW1]; exact block_alloc _ _
  have hne : W.heap.size ≠ WB := by have := hS.base; have := hS.wb; omega
  have HNE := Lib.hid hne
  have HG1 := Lib.hid g1
  have HS1 := Lib.hid (hS.under B1)
  have HK1 := Lib.hid (Wk.of_below (w0 := w0) (B := B) (WB := WB) B1)
  have HLEN := Lib.hid hlen
  have HR := Lib.hid hR
  have H0 := Lib.hid h0
  have HM := Lib.hid hM
  clear h0 hM hT hS hlen hR B1 g1 hne hk hn hs ht
  show Calls Tryz.prog 53 #[.pointer (some ⟨WB, 0, none⟩), .string a, .agg #[.int .i8 k, .int .i64 n, .string s, .string t, .slice (some ad) N cap], .string b] W _
  go_enter Tryz.func53, Tryz.ntmps53
  go_upto_region 1 with fail
  rw [← hW1]
  clear hW1
  have q0 : W1.cell? ⟨W.heap.size, 0, none⟩ = some (.int .i8 k) := cell_of_row HG1.out rfl
  have q1 : W1.cell? ⟨W.heap.size, 1, none⟩ = some (.int .i64 n) := cell_of_row HG1.out rfl
  have q2 : W1.cell? ⟨W.heap.size, 2, none⟩ = some (.string s) := cell_of_row HG1.out rfl
  have q3 : W1.cell? ⟨W.heap.size, 3, none⟩ = some (.string t) := cell_of_row HG1.out rfl
  have q4 : W1.cell? ⟨W.heap.size, 4, none⟩ = some (.slice (some ad) N cap) := cell_of_row HG1.out rfl
  go_wp2_with fail
  refine (put_row [a] _ (by decide) HS1.out (Nat.le_of_ble_eq_true rfl) (by have h9 := HLEN.out; simp [catL] at h9 ⊢; omega) rfl rfl).mono ?_
  rintro e W2 ⟨rfl, h, k9⟩
  have HS2 := Lib.hid h
  have HK2 := Lib.hid (HK1.out.trans k9)
  have HG2 := Lib.hid (k9.block HG1.out HNE.out node_ne_u8)
  clear h k9 q0 q1 q2 q3 q4
  obtain ⟨z0, z1, z2, z3, z4⟩ := elem_zero (HEL.out.keep (HS2.out.below.block ad.block HAD.out))
  have q0 : W2.cell? ⟨W.heap.size, 0, none⟩ = some (.int .i8 k) := cell_of_row HG2.out rfl
  have q1 : W2.cell? ⟨W.heap.size, 1, none⟩ = some (.int .i64 n) := cell_of_row HG2.out rfl
  have q2 : W2.cell? ⟨W.heap.size, 2, none⟩ = some (.string s) := cell_of_row HG2.out rfl
  have q3 : W2.cell? ⟨W.heap.size, 3, none⟩ = some (.string t) := cell_of_row HG2.out rfl
  have q4 : W2.cell? ⟨W.heap.size, 4, none⟩ = some (.slice (some ad) N cap) := cell_of_row HG2.out rfl
  go_wp2_with fail
  refine (H0.out _ _ W2 HTY.out HS2.out trivial (by have h9 := HLEN.out; simp [catL] at h9 ⊢; omega)).mono ?_
  rintro e W3 ⟨rfl, h, k9⟩
  have HS3 := Lib.hid h
  have HK3 := Lib.hid (HK2.out.trans k9)
  have HG3 := Lib.hid (k9.block HG2.out HNE.out node_ne_u8)
  clear h k9 q0 q1 q2 q3 q4 z0 z1 z2 z3 z4
  have q0 : W3.cell? ⟨W.heap.size, 0, none⟩ = some (.int .i8 k) := cell_of_row HG3.out rfl
  have q1 : W3.cell? ⟨W.heap.size, 1, none⟩ = some (.int .i64 n) := cell_of_row HG3.out rfl
  have q2 : W3.cell? ⟨W.heap.size, 2, none⟩ = some (.string s) := cell_of_row HG3.out rfl
  have q3 : W3.cell? ⟨W.heap.size, 3, none⟩ = some (.string t) := cell_of_row HG3.out rfl
  have q4 : W3.cell? ⟨W.heap.size, 4, none⟩ = some (.slice (some ad) N cap) := cell_of_row HG3.out rfl
  go_wp2_with fail
  refine (put_row [b] _ (by decide) HS3.out (Nat.le_of_ble_eq_true rfl) (by have h9 := HLEN.out; simp [catL] at h9 ⊢; omega) rfl rfl).mono ?_
  rintro e W4 ⟨rfl, h, k9⟩
  have HS4 := Lib.hid h
  have HK4 := Lib.hid (HK3.out.trans k9)
  have HG4 := Lib.hid (k9.block HG3.out HNE.out node_ne_u8)
  clear h k9 q0 q1 q2 q3 q4
  by_cases hc1 : cap = 1
  · have hN2 : N = 1 := by omega
    subst hc1
    have hl0 : l = [] := List.length_eq_zero_iff.1 (by have := HNL.out; omega)
    have HL0 := Lib.hid hl0
    have hln := HLEN.out
    rw [hl0] at hln
    have HLEN := Lib.hid hln
    clear hl0 HD HM hln
    subst hN2
    have q0 : W4.cell? ⟨W.heap.size, 0, none⟩ = some (.int .i8 k) := cell_of_row HG4.out rfl
    have q1 : W4.cell? ⟨W.heap.size, 1, none⟩ = some (.int .i64 n) := cell_of_row HG4.out rfl
    have q2 : W4.cell? ⟨W.heap.size, 2, none⟩ = some (.string s) := cell_of_row HG4.out rfl
    have q3 : W4.cell? ⟨W.heap.size, 3, none⟩ = some (.string t) := cell_of_row HG4.out rfl
    have q4 : W4.cell? ⟨W.heap.size, 4, none⟩ = some (.slice (some ad) 1 1) := cell_of_row HG4.out rfl
    go_wp2_with fail
    refine (list_any [] T (some ad) (0) (0) ⟨#[59, 32]⟩ (TRow.nil _ _ _ _) HS4.out (fun y hy => by cases hy) (by have h9 := HLEN.out; simp [catL] at h9 ⊢; omega)).mono ?_
    rintro e W5 ⟨rfl, h, k9⟩
    have HS5 := Lib.hid h
    have HK5 := Lib.hid (HK4.out.trans k9)
    have HG5 := Lib.hid (k9.block HG4.out HNE.out node_ne_u8)
    clear h k9 q0 q1 q2 q3 q4
    have q0 : W5.cell? ⟨W.heap.size, 0, none⟩ = some (.int .i8 k) := cell_of_row HG5.out rfl
    have q1 : W5.cell? ⟨W.heap.size, 1, none⟩ = some (.int .i64 n) := cell_of_row HG5.out rfl
    have q2 : W5.cell? ⟨W.heap.size, 2, none⟩ = some (.string s) := cell_of_row HG5.out rfl
    have q3 : W5.cell? ⟨W.heap.size, 3, none⟩ = some (.string t) := cell_of_row HG5.out rfl
    have q4 : W5.cell? ⟨W.heap.size, 4, none⟩ = some (.slice (some ad) 1 1) := cell_of_row HG5.out rfl
    go_wp2_with fail
    refine (put_row [⟨#[32, 101, 110, 100]⟩] _ (by decide) HS5.out (Nat.le_of_ble_eq_true rfl) (by have h9 := HLEN.out; simp [catL] at h9 ⊢; omega) rfl rfl).mono ?_
    rintro e W6 ⟨rfl, h, k9⟩
    have HS6 := Lib.hid h
    have HK6 := Lib.hid (HK5.out.trans k9)
    have HG6 := Lib.hid (k9.block HG5.out HNE.out node_ne_u8)
    clear h k9 q0 q1 q2 q3 q4
    go_wp2_with fail
    go_end0
    exact ⟨rfl, cast (congrArg (fun z => WSt w0 B WB PB z _) (by rw [HL0.out]; simp [catL, sepT])) HS6.out, HK6.out⟩
  · have hc2 : 1 < cap := by omega
    clear hc1
    have q0 : W4.cell? ⟨W.heap.size, 0, none⟩ = some (.int .i8 k) := cell_of_row HG4.out rfl
    have q1 : W4.cell? ⟨W.heap.size, 1, none⟩ = some (.int .i64 n) := cell_of_row HG4.out rfl
    have q2 : W4.cell? ⟨W.heap.size, 2, none⟩ = some (.string s) := cell_of_row HG4.out rfl
    have q3 : W4.cell? ⟨W.heap.size, 3, none⟩ = some (.string t) := cell_of_row HG4.out rfl
    have q4 : W4.cell? ⟨W.heap.size, 4, none⟩ = some (.slice (some ad) N cap) := cell_of_row HG4.out rfl
    go_wp2_with fail
    refine (list_any l T (some ⟨ad.block, ad.off + 5, none⟩) (N - 1) (cap - 1) ⟨#[59, 32]⟩ (HD.out) HS4.out (HM.out) (by have h9 := HLEN.out; simp [catL] at h9 ⊢; omega)).mono ?_
    rintro e W5 ⟨rfl, h, k9⟩
    have HS5 := Lib.hid h
    have HK5 := Lib.hid (HK4.out.trans k9)
    have HG5 := Lib.hid (k9.block HG4.out HNE.out node_ne_u8)
    clear h k9 q0 q1 q2 q3 q4
    have q0 : W5.cell? ⟨W.heap.size, 0, none⟩ = some (.int .i8 k) := cell_of_row HG5.out rfl
    have q1 : W5.cell? ⟨W.heap.size, 1, none⟩ = some (.int .i64 n) := cell_of_row HG5.out rfl
    have q2 : W5.cell? ⟨W.heap.size, 2, none⟩ = some (.string s) := cell_of_row HG5.out rfl
    have q3 : W5.cell? ⟨W.heap.size, 3, none⟩ = some (.string t) := cell_of_row HG5.out rfl
    have q4 : W5.cell? ⟨W.heap.size, 4, none⟩ = some (.slice (some ad) N cap) := cell_of_row HG5.out rfl
    go_wp2_with fail
    refine (put_row [⟨#[32, 101, 110, 100]⟩] _ (by decide) HS5.out (Nat.le_of_ble_eq_true rfl) (by have h9 := HLEN.out; simp [catL] at h9 ⊢; omega) rfl rfl).mono ?_
    rintro e W6 ⟨rfl, h, k9⟩
    have HS6 := Lib.hid h
    have HK6 := Lib.hid (HK5.out.trans k9)
    have HG6 := Lib.hid (k9.block HG5.out HNE.out node_ne_u8)
    clear h k9 q0 q1 q2 q3 q4
    go_wp2_with fail
    go_end0
    exact ⟨rfl, cast (congrArg (fun z => WSt w0 B WB PB z _) (by simp [catL])) HS6.out, HK6.out⟩

set_option maxHeartbeats 4000000 in
set_option maxRecDepth 100000 in
theorem fm_case {w0 : World} {B WB PB : Nat} (k : Int) (n : Int) (s t : ByteArray) (l : List Tm) (y : Tm) (T0 : List UInt8) (T : Tm → List UInt8) (h0 : NodeW w0 B WB PB y T0) (hM : ∀ z ∈ l, NodeW w0 B WB PB z (T z)) : CallW w0 B WB PB (fun _ => True) 52 (clo PB) (.mk k n s t (y :: l)) ([99, 97, 115, 101, 32] ++ (T0 ++ ([32, 111, 102, 32] ++ (sepT [59, 32] (l.map T) ++ [32, 101, 110, 100])))) := by
  intro v l0 W hT hS _ hlen
  obtain ⟨A, cap, rfl, hR, hk, hn, hs, ht⟩ := hT.parts
  obtain ⟨N, hN⟩ : ∃ N, N = (y :: l).length := ⟨_, rfl⟩
  rw [← hN] at hR hT ⊢
  clear hN
  have HT := Lib.hid hT
  have hmx := hR.max
  unfold maxLen at hmx
  have hcap := hR.cap
  obtain ⟨W1, hW1⟩ : ∃ W1, W1 = W.alloc (.cells #[.int .i8 k, .int .i64 n, .string s, .string t, .slice A N cap] 25) := ⟨_, rfl⟩
  have B1 : Below W.heap.size W W1 := by rw [hW1]; exact (Below.refl _ _).alloc (Nat.le_refl _) _
  have g1 : W1.heap[W.heap.size]? = some (.cells #[.int .i8 k, .int .i64 n, .string s, .string t, .slice A N cap] 25 (0, 0)) := by rw [hW1]; exact block_alloc _ _
  have hne : W.heap.size ≠ WB := by have := hS.base; have := hS.wb; omega
  have HNE := Lib.hid hne
  have HG1 := Lib.hid g1
  have HS1 := Lib.hid (hS.under B1)
  have HK1 := Lib.hid (Wk.of_below (w0 := w0) (B := B) (WB := WB) B1)
  have HLEN := Lib.hid hlen
  have HR := Lib.hid hR
  have H0 := Lib.hid h0
  have HM := Lib.hid hM
  clear h0 hM hT hS hlen hR B1 g1 hne hk hn hs ht
  show Calls Tryz.prog 52 #[.agg #[.int .i8 k, .int .i64 n, .string s, .string t, .slice A N cap], .pointer (some ⟨PB, 0, none⟩)] W _
  go_enter Tryz.func52, Tryz.ntmps52
  go_upto_region 1 with fail
  rw [← hW1]
  clear hW1
  have q0 : W1.cell? ⟨W.heap.size, 0, none⟩ = some (.int .i8 k) := cell_of_row HG1.out rfl
  have q1 : W1.cell? ⟨W.heap.size, 1, none⟩ = some (.int .i64 n) := cell_of_row HG1.out rfl
  have q2 : W1.cell? ⟨W.heap.size, 2, none⟩ = some (.string s) := cell_of_row HG1.out rfl
  have q3 : W1.cell? ⟨W.heap.size, 3, none⟩ = some (.string t) := cell_of_row HG1.out rfl
  have q4 : W1.cell? ⟨W.heap.size, 4, none⟩ = some (.slice A N cap) := cell_of_row HG1.out rfl
  have qp : W1.cell? ⟨PB, 0, none⟩ = some (.pointer (some ⟨WB, 0, none⟩)) := cell_of_row HS1.out.pb rfl
  go_wp2_with fail
  refine (choice_w k n s t l y T0 T H0.out HM.out ⟨#[99, 97, 115, 101, 32]⟩ ⟨#[32, 111, 102, 32]⟩ _ _ W1 HT.out HS1.out trivial (by have h9 := HLEN.out; simp [catL] at h9 ⊢; omega)).mono ?_
  rintro e W2 ⟨rfl, h, k9⟩
  have HS2 := Lib.hid h
  have HK2 := Lib.hid (HK1.out.trans k9)
  have HG2 := Lib.hid (k9.block HG1.out HNE.out node_ne_u8)
  clear h k9 q0 q1 q2 q3 q4 qp
  go_wp2_with fail
  go_end0
  exact ⟨rfl, cast (congrArg (fun z => WSt w0 B WB PB z _) (by simp [catL])) HS2.out, HK2.out⟩

set_option maxHeartbeats 4000000 in
set_option maxRecDepth 100000 in
theorem fm_try {w0 : World} {B WB PB : Nat} (k : Int) (n : Int) (s t : ByteArray) (l : List Tm) (y : Tm) (T0 : List UInt8) (T : Tm → List UInt8) (h0 : NodeW w0 B WB PB y T0) (hM : ∀ z ∈ l, NodeW w0 B WB PB z (T z)) : CallW w0 B WB PB (fun _ => True) 54 (clo PB) (.mk k n s t (y :: l)) ([116, 114, 121, 32] ++ (T0 ++ ([32, 99, 97, 116, 99, 104, 32] ++ (sepT [59, 32] (l.map T) ++ [32, 101, 110, 100])))) := by
  intro v l0 W hT hS _ hlen
  obtain ⟨A, cap, rfl, hR, hk, hn, hs, ht⟩ := hT.parts
  obtain ⟨N, hN⟩ : ∃ N, N = (y :: l).length := ⟨_, rfl⟩
  rw [← hN] at hR hT ⊢
  clear hN
  have HT := Lib.hid hT
  have hmx := hR.max
  unfold maxLen at hmx
  have hcap := hR.cap
  obtain ⟨W1, hW1⟩ : ∃ W1, W1 = W.alloc (.cells #[.int .i8 k, .int .i64 n, .string s, .string t, .slice A N cap] 25) := ⟨_, rfl⟩
  have B1 : Below W.heap.size W W1 := by rw [hW1]; exact (Below.refl _ _).alloc (Nat.le_refl _) _
  have g1 : W1.heap[W.heap.size]? = some (.cells #[.int .i8 k, .int .i64 n, .string s, .string t, .slice A N cap] 25 (0, 0)) := by rw [hW1]; exact block_alloc _ _
  have hne : W.heap.size ≠ WB := by have := hS.base; have := hS.wb; omega
  have HNE := Lib.hid hne
  have HG1 := Lib.hid g1
  have HS1 := Lib.hid (hS.under B1)
  have HK1 := Lib.hid (Wk.of_below (w0 := w0) (B := B) (WB := WB) B1)
  have HLEN := Lib.hid hlen
  have HR := Lib.hid hR
  have H0 := Lib.hid h0
  have HM := Lib.hid hM
  clear h0 hM hT hS hlen hR B1 g1 hne hk hn hs ht
  show Calls Tryz.prog 54 #[.agg #[.int .i8 k, .int .i64 n, .string s, .string t, .slice A N cap], .pointer (some ⟨PB, 0, none⟩)] W _
  go_enter Tryz.func54, Tryz.ntmps54
  go_upto_region 1 with fail
  rw [← hW1]
  clear hW1
  have q0 : W1.cell? ⟨W.heap.size, 0, none⟩ = some (.int .i8 k) := cell_of_row HG1.out rfl
  have q1 : W1.cell? ⟨W.heap.size, 1, none⟩ = some (.int .i64 n) := cell_of_row HG1.out rfl
  have q2 : W1.cell? ⟨W.heap.size, 2, none⟩ = some (.string s) := cell_of_row HG1.out rfl
  have q3 : W1.cell? ⟨W.heap.size, 3, none⟩ = some (.string t) := cell_of_row HG1.out rfl
  have q4 : W1.cell? ⟨W.heap.size, 4, none⟩ = some (.slice A N cap) := cell_of_row HG1.out rfl
  have qp : W1.cell? ⟨PB, 0, none⟩ = some (.pointer (some ⟨WB, 0, none⟩)) := cell_of_row HS1.out.pb rfl
  go_wp2_with fail
  refine (choice_w k n s t l y T0 T H0.out HM.out ⟨#[116, 114, 121, 32]⟩ ⟨#[32, 99, 97, 116, 99, 104, 32]⟩ _ _ W1 HT.out HS1.out trivial (by have h9 := HLEN.out; simp [catL] at h9 ⊢; omega)).mono ?_
  rintro e W2 ⟨rfl, h, k9⟩
  have HS2 := Lib.hid h
  have HK2 := Lib.hid (HK1.out.trans k9)
  have HG2 := Lib.hid (k9.block HG1.out HNE.out node_ne_u8)
  clear h k9 q0 q1 q2 q3 q4 qp
  go_wp2_with fail
  go_end0
  exact ⟨rfl, cast (congrArg (fun z => WSt w0 B WB PB z _) (by simp [catL])) HS2.out, HK2.out⟩
end Go.Proofs.YtcallgoglnkkiaaGreatDoor
set_option linter.unusedVariables false
set_option linter.unusedSimpArgs false
namespace Go.Proofs.YtcallgoglnkkiaaGreatDoor
open Go.RowKit Go.Lib
theorem ptr_ne_u8 : 54 ≠ 5 := by decide

set_option maxHeartbeats 4000000 in
set_option maxRecDepth 100000 in
theorem body_w {w0 : World} {B WB PB : Nat} (k : Int) (m : Nat) (s t : ByteArray) (l : List Tm) (g : Tm) (T0 : List UInt8) (T : Tm → List UInt8) (hg : l[m]? = some g) (h0 : NodeW w0 B WB PB g T0) (hE : ∀ z ∈ l.drop (m + 1), NodeW w0 B WB PB z (T z)) : CallW w0 B WB PB (fun _ => True) 68 (mth WB) (.mk k m s t l) (T0 ++ ([32, 45, 62, 32] ++ sepT [44, 32] ((l.drop (m + 1)).map T))) := by
  intro v l0 W hT hS _ hlen
  obtain ⟨A, cap, rfl, hR, hk, hn, hs, ht⟩ := hT.parts
  obtain ⟨ad, u, hA, had, hEl, hTy⟩ := hR.at_ m g hg
  subst hA
  obtain ⟨k', n', s', t', l', A', cap', hy', rfl⟩ : ∃ k' n' s' t' l' A' cap', g = Tm.mk k' n' s' t' l' ∧ u = .agg #[.int .i8 k', .int .i64 n', .string s', .string t', .slice A' l'.length cap'] := by
    cases hTy; exact ⟨_, _, _, _, _, _, _, rfl, rfl⟩
  have hml : m < l.length := (List.getElem?_eq_some_iff.1 hg).1
  have hD : TRow (· < w0.heap.size) w0 (some (ad.add ((m + 1) * 5))) (l.length - (m + 1)) (cap - (m + 1)) (l.drop (m + 1)) := hR.drop (m + 1)
  have HD := Lib.hid hD
  have HEL := Lib.hid hEl
  have HAD := Lib.hid had
  have HTY := Lib.hid hTy
  clear hD hEl had hTy hy' hg
  have hmx := hR.max
  unfold maxLen at hmx
  have hcap := hR.cap
  obtain ⟨W1, hW1⟩ : ∃ W1, W1 = W.alloc (.cells #[.int .i8 k, .int .i64 m, .string s, .string t, .slice (some ad) l.length cap] 25) := ⟨_, rfl⟩
  have B1 : Below W.heap.size W W1 := by rw [hW1]; exact (Below.refl _ _).alloc (Nat.le_refl _) _
  have g1 : W1.heap[W.heap.size]? = some (.cells #[.int .i8 k, .int .i64 m, .string s, .string t, .slice (some ad) l.length cap] 25 (0, 0)) := by rw [hW1]; exact block_alloc _ _
  have hne : W.heap.size ≠ WB := by have := hS.base; have := hS.wb; omega
  have HNE := Lib.hid hne
  have HG1 := Lib.hid g1
  have HS1 := Lib.hid (hS.under B1)
  have HK1 := Lib.hid (Wk.of_below (w0 := w0) (B := B) (WB := WB) B1)
  have HLEN := Lib.hid hlen
  have HR := Lib.hid hR
  have H0 := Lib.hid h0
  have HE := Lib.hid hE
  clear h0 hE hT hS hlen hR B1 g1 hne hk hn hs ht
  show Calls Tryz.prog 68 #[.pointer (some ⟨WB, 0, none⟩), .agg #[.int .i8 k, .int .i64 m, .string s, .string t, .slice (some ad) l.length cap]] W _
  go_enter Tryz.func68, Tryz.ntmps68
  go_upto_region 1 with fail
  rw [← hW1]
  clear hW1
  obtain ⟨c0, c1, c2, c3, c4, hc, z0, z1, z2, z3, z4⟩ := HEL.out.keep (HS1.out.below.block ad.block HAD.out)
  simp only [Value.agg.injEq, Array.mk.injEq, List.cons.injEq, and_true] at hc
  obtain ⟨rfl, rfl, rfl, rfl, rfl⟩ := hc
  have q0 : W1.cell? ⟨W.heap.size, 0, none⟩ = some (.int .i8 k) := cell_of_row HG1.out rfl
  have q1 : W1.cell? ⟨W.heap.size, 1, none⟩ = some (.int .i64 m) := cell_of_row HG1.out rfl
  have q2 : W1.cell? ⟨W.heap.size, 2, none⟩ = some (.string s) := cell_of_row HG1.out rfl
  have q3 : W1.cell? ⟨W.heap.size, 3, none⟩ = some (.string t) := cell_of_row HG1.out rfl
  have q4 : W1.cell? ⟨W.heap.size, 4, none⟩ = some (.slice (some ad) l.length cap) := cell_of_row HG1.out rfl
  go_wp2_with fail
  refine (H0.out _ _ W1 HTY.out HS1.out trivial (by have h9 := HLEN.out; simp [catL] at h9 ⊢; omega)).mono ?_
  rintro e W2 ⟨rfl, h, k9⟩
  have HS2 := Lib.hid h
  have HK2 := Lib.hid (HK1.out.trans k9)
  have HG2 := Lib.hid (k9.block HG1.out HNE.out node_ne_u8)
  clear h k9 q0 q1 q2 q3 q4 z0 z1 z2 z3 z4
  have q0 : W2.cell? ⟨W.heap.size, 0, none⟩ = some (.int .i8 k) := cell_of_row HG2.out rfl
  have q1 : W2.cell? ⟨W.heap.size, 1, none⟩ = some (.int .i64 m) := cell_of_row HG2.out rfl
  have q2 : W2.cell? ⟨W.heap.size, 2, none⟩ = some (.string s) := cell_of_row HG2.out rfl
  have q3 : W2.cell? ⟨W.heap.size, 3, none⟩ = some (.string t) := cell_of_row HG2.out rfl
  have q4 : W2.cell? ⟨W.heap.size, 4, none⟩ = some (.slice (some ad) l.length cap) := cell_of_row HG2.out rfl
  go_wp2_with fail
  refine (put_row [⟨#[32, 45, 62, 32]⟩] _ (by decide) HS2.out (Nat.le_of_ble_eq_true rfl) (by have h9 := HLEN.out; simp [catL] at h9 ⊢; omega) rfl rfl).mono ?_
  rintro e W3 ⟨rfl, h, k9⟩
  have HS3 := Lib.hid h
  have HK3 := Lib.hid (HK2.out.trans k9)
  have HG3 := Lib.hid (k9.block HG2.out HNE.out node_ne_u8)
  clear h k9 q0 q1 q2 q3 q4
  by_cases hc1 : m + 1 = cap
  · have hl0 : l.drop (m + 1) = [] := List.drop_eq_nil_of_le (by omega)
    have HL0 := Lib.hid hl0
    have hln := HLEN.out
    rw [hl0] at hln
    have HLEN := Lib.hid hln
    have hle : l.length = m + 1 := by omega
    clear hl0 HD HE hln
    subst hc1
    rw [hle] at HG3
    have q0 : W3.cell? ⟨W.heap.size, 0, none⟩ = some (.int .i8 k) := cell_of_row HG3.out rfl
    have q1 : W3.cell? ⟨W.heap.size, 1, none⟩ = some (.int .i64 m) := cell_of_row HG3.out rfl
    have q2 : W3.cell? ⟨W.heap.size, 2, none⟩ = some (.string s) := cell_of_row HG3.out rfl
    have q3 : W3.cell? ⟨W.heap.size, 3, none⟩ = some (.string t) := cell_of_row HG3.out rfl
    have q4 : W3.cell? ⟨W.heap.size, 4, none⟩ = some (.slice (some ad) (m + 1) (m + 1)) := cell_of_row HG3.out rfl
    go_wp2_with fail
    refine (list_any [] T _ _ _ ⟨#[44, 32]⟩ (TRow.nil _ _ _ _) HS3.out (fun y hy => by cases hy) (by have h9 := HLEN.out; simp [catL] at h9 ⊢; omega)).mono ?_
    rintro e W4 ⟨rfl, h, k9⟩
    have HS4 := Lib.hid h
    have HK4 := Lib.hid (HK3.out.trans k9)
    have HG4 := Lib.hid (k9.block HG3.out HNE.out node_ne_u8)
    clear h k9 q0 q1 q2 q3 q4
    go_wp2_with fail
    go_end0
    exact ⟨rfl, cast (congrArg (fun z => WSt w0 B WB PB z _) (by rw [HL0.out]; simp [catL, sepT])) HS4.out, HK4.out⟩
  · have hc2 : m + 1 < cap := by omega
    clear hc1
    have q0 : W3.cell? ⟨W.heap.size, 0, none⟩ = some (.int .i8 k) := cell_of_row HG3.out rfl
    have q1 : W3.cell? ⟨W.heap.size, 1, none⟩ = some (.int .i64 m) := cell_of_row HG3.out rfl
    have q2 : W3.cell? ⟨W.heap.size, 2, none⟩ = some (.string s) := cell_of_row HG3.out rfl
    have q3 : W3.cell? ⟨W.heap.size, 3, none⟩ = some (.string t) := cell_of_row HG3.out rfl
    have q4 : W3.cell? ⟨W.heap.size, 4, none⟩ = some (.slice (some ad) l.length cap) := cell_of_row HG3.out rfl
    go_wp2_with fail
    refine (list_any (l.drop (m + 1)) T _ _ _ ⟨#[44, 32]⟩ HD.out HS3.out HE.out (by have h9 := HLEN.out; simp [catL] at h9 ⊢; omega)).mono ?_
    rintro e W4 ⟨rfl, h, k9⟩
    have HS4 := Lib.hid h
    have HK4 := Lib.hid (HK3.out.trans k9)
    have HG4 := Lib.hid (k9.block HG3.out HNE.out node_ne_u8)
    clear h k9 q0 q1 q2 q3 q4
    go_wp2_with fail
    go_end0
    exact ⟨rfl, cast (congrArg (fun z => WSt w0 B WB PB z _) (by simp [catL])) HS4.out, HK4.out⟩

set_option maxHeartbeats 4000000 in
set_option maxRecDepth 100000 in
theorem fm_alt {w0 : World} {B WB PB : Nat} (k : Int) (m : Nat) (s t : ByteArray) (l : List Tm) (g : Tm) (T0 : List UInt8) (T T' : Tm → List UInt8) (hg : l[m]? = some g) (h0 : NodeW w0 B WB PB g T0) (hE : ∀ z ∈ l.drop (m + 1), NodeW w0 B WB PB z (T z)) (hP : ∀ z ∈ l.take m, NodeW w0 B WB PB z (T' z)) : CallW w0 B WB PB (fun _ => True) 36 (mth WB) (.mk k m s t l) (sepT [58] ((l.take m).map T') ++ (T0 ++ ([32, 45, 62, 32] ++ sepT [44, 32] ((l.drop (m + 1)).map T)))) := by
  intro v l0 W hT hS _ hlen
  obtain ⟨A, cap, rfl, hR, hk, hn, hs, ht⟩ := hT.parts
  have hml : m < l.length := (List.getElem?_eq_some_iff.1 hg).1
  have HB := Lib.hid (body_w (w0 := w0) (B := B) (WB := WB) (PB := PB) k m s t l g T0 T hg h0 hE)
  have HT := Lib.hid hT
  clear hg h0 hE
  have hmx := hR.max
  unfold maxLen at hmx
  have hcap := hR.cap
  obtain ⟨W1, hW1⟩ : ∃ W1, W1 = W.alloc (.cells #[.int .i8 k, .int .i64 m, .string s, .string t, .slice A l.length cap] 25) := ⟨_, rfl⟩
  have B1 : Below W.heap.size W W1 := by rw [hW1]; exact (Below.refl _ _).alloc (Nat.le_refl _) _
  have g1 : W1.heap[W.heap.size]? = some (.cells #[.int .i8 k, .int .i64 m, .string s, .string t, .slice A l.length cap] 25 (0, 0)) := by rw [hW1]; exact block_alloc _ _
  have hne : W.heap.size ≠ WB := by have := hS.base; have := hS.wb; omega
  have HNE := Lib.hid hne
  have HG1 := Lib.hid g1
  have HS1 := Lib.hid (hS.under B1)
  have HK1 := Lib.hid (Wk.of_below (w0 := w0) (B := B) (WB := WB) B1)
  have HLEN := Lib.hid hlen
  have HR := Lib.hid hR
  have HP := Lib.hid hP
  clear hP hT hS hlen hR B1 g1 hne hk hn hs ht
  show Calls Tryz.prog 36 #[.pointer (some ⟨WB, 0, none⟩), .agg #[.int .i8 k, .int .i64 m, .string s, .string t, .slice A l.length cap]] W _
  go_enter Tryz.func36, Tryz.ntmps36
  go_upto_region 1 with fail
  rw [← hW1]
  clear hW1
  have q0 : W1.cell? ⟨W.heap.size, 0, none⟩ = some (.int .i8 k) := cell_of_row HG1.out rfl
  have q1 : W1.cell? ⟨W.heap.size, 1, none⟩ = some (.int .i64 m) := cell_of_row HG1.out rfl
  have q2 : W1.cell? ⟨W.heap.size, 2, none⟩ = some (.string s) := cell_of_row HG1.out rfl
  have q3 : W1.cell? ⟨W.heap.size, 3, none⟩ = some (.string t) := cell_of_row HG1.out rfl
  have q4 : W1.cell? ⟨W.heap.size, 4, none⟩ = some (.slice A l.length cap) := cell_of_row HG1.out rfl
  go_wp2_with fail
  refine (list_any (l.take m) T' _ _ _ ⟨#[58]⟩ (HR.out.take m (by omega)) HS1.out HP.out (by have h9 := HLEN.out; simp [catL] at h9 ⊢; omega)).mono ?_
  rintro e W2 ⟨rfl, h, k9⟩
  have HS2 := Lib.hid h
  have HK2 := Lib.hid (HK1.out.trans k9)
  have HG2 := Lib.hid (k9.block HG1.out HNE.out node_ne_u8)
  clear h k9 q0 q1 q2 q3 q4
  have q0 : W2.cell? ⟨W.heap.size, 0, none⟩ = some (.int .i8 k) := cell_of_row HG2.out rfl
  have q1 : W2.cell? ⟨W.heap.size, 1, none⟩ = some (.int .i64 m) := cell_of_row HG2.out rfl
  have q2 : W2.cell? ⟨W.heap.size, 2, none⟩ = some (.string s) := cell_of_row HG2.out rfl
  have q3 : W2.cell? ⟨W.heap.size, 3, none⟩ = some (.string t) := cell_of_row HG2.out rfl
  have q4 : W2.cell? ⟨W.heap.size, 4, none⟩ = some (.slice A l.length cap) := cell_of_row HG2.out rfl
  go_wp2_with fail
  refine (HB.out _ _ W2 HT.out HS2.out trivial (by have h9 := HLEN.out; simp [catL] at h9 ⊢; omega)).mono ?_
  rintro e W3 ⟨rfl, h, k9⟩
  have HS3 := Lib.hid h
  have HK3 := Lib.hid (HK2.out.trans k9)
  have HG3 := Lib.hid (k9.block HG2.out HNE.out node_ne_u8)
  clear h k9 q0 q1 q2 q3 q4
  go_wp2_with fail
  go_end0
  exact ⟨rfl, cast (congrArg (fun z => WSt w0 B WB PB z _) (by simp [catL])) HS3.out, HK3.out⟩

/-- What a function's writer holds. -/
def XF (WB g1 g2 : Nat) (fk fn : Int) (fs ft : ByteArray) (fA : Option Addr) (flen fcap : Nat) : World → Prop := (fun V => V.heap[g1]? = some (.cells #[.pointer (some ⟨WB, 0, none⟩)] 54 (0, 0)) ∧ V.heap[g2]? = some (.cells #[.int .i8 fk, .int .i64 fn, .string fs, .string ft, .slice fA flen fcap] 25 (0, 0)) ∧ g1 ≠ WB ∧ g2 ≠ WB)
theorem XF.wk {w0 : World} {B WB g1 g2 : Nat} {fk fn : Int} {fs ft : ByteArray} {fA : Option Addr} {flen fcap : Nat} (A C : World) (h : XF WB g1 g2 fk fn fs ft fA flen fcap A) (k : Wk w0 B WB A C) : XF WB g1 g2 fk fn fs ft fA flen fcap C :=
  ⟨k.block h.1 h.2.2.1 ptr_ne_u8, k.block h.2.1 h.2.2.2 node_ne_u8, h.2.2.1, h.2.2.2⟩

set_option maxHeartbeats 4000000 in
set_option maxRecDepth 100000 in
theorem fm_funcl {w0 : World} {B WB PB : Nat} (k : Int) (m : Nat) (s t : ByteArray) (l : List Tm) (g : Tm) (T0 : List UInt8) (T T' : Tm → List UInt8) (hg : l[m]? = some g) (h0 : NodeW w0 B WB PB g T0) (hE : ∀ z ∈ l.drop (m + 1), NodeW w0 B WB PB z (T z)) (hP : ∀ z ∈ l.take m, NodeW w0 B WB PB z (T' z)) (fk fn : Int) (fs ft : ByteArray) (fA : Option Addr) (flen fcap g1 g2 : Nat) : CallW w0 B WB PB (XF WB g1 g2 fk fn fs ft fA flen fcap) 66 (fun v => #[v, .pointer (some ⟨g1, 0, none⟩), .pointer (some ⟨g2, 0, none⟩)]) (.mk k m s t l) (fs.data.toList ++ (([40] ++ sepT [44, 32] ((l.take m).map T') ++ [41]) ++ (T0 ++ ([32, 45, 62, 32] ++ sepT [44, 32] ((l.drop (m + 1)).map T))))) := by
  intro v l0 W hT hS hX hlen
  obtain ⟨A, cap, rfl, hR, hk, hn, hs, ht⟩ := hT.parts
  have hml : m < l.length := (List.getElem?_eq_some_iff.1 hg).1
  have HB := Lib.hid (body_w (w0 := w0) (B := B) (WB := WB) (PB := PB) k m s t l g T0 T hg h0 hE)
  have HT := Lib.hid hT
  clear hg h0 hE
  unfold XF at hX
  have HX := Lib.hid hX
  clear hX
  have hmx := hR.max
  unfold maxLen at hmx
  have hcap := hR.cap
  obtain ⟨W1, hW1⟩ : ∃ W1, W1 = W.alloc (.cells #[.int .i8 k, .int .i64 m, .string s, .string t, .slice A l.length cap] 25) := ⟨_, rfl⟩
  have B1 : Below W.heap.size W W1 := by rw [hW1]; exact (Below.refl _ _).alloc (Nat.le_refl _) _
  have g1 : W1.heap[W.heap.size]? = some (.cells #[.int .i8 k, .int .i64 m, .string s, .string t, .slice A l.length cap] 25 (0, 0)) := by rw [hW1]; exact block_alloc _ _
  have hne : W.heap.size ≠ WB := by have := hS.base; have := hS.wb; omega
  have HNE := Lib.hid hne
  have HG1 := Lib.hid g1
  have HS1 := Lib.hid (hS.under B1)
  have HK1 := Lib.hid (Wk.of_below (w0 := w0) (B := B) (WB := WB) B1)
  have HLEN := Lib.hid hlen
  have HR := Lib.hid hR
  have HP := Lib.hid hP
  clear hP hT hS hlen hR B1 g1 hne hk hn hs ht
  show Calls Tryz.prog 66 #[.agg #[.int .i8 k, .int .i64 m, .string s, .string t, .slice A l.length cap], .pointer (some ⟨g1, 0, none⟩), .pointer (some ⟨g2, 0, none⟩)] W _
  go_enter Tryz.func66, Tryz.ntmps66
  go_upto_region 1 with fail
  rw [← hW1]
  clear hW1
  have HX1 := Lib.hid (And.intro (HK1.out.block HX.out.1 HX.out.2.2.1 ptr_ne_u8) (HK1.out.block HX.out.2.1 HX.out.2.2.2 node_ne_u8))
  have y0 : W1.cell? ⟨g1, 0, none⟩ = some (.pointer (some ⟨WB, 0, none⟩)) := cell_of_row HX1.out.1 rfl
  have y1 : W1.cell? ⟨g2, 0, none⟩ = some (.int .i8 fk) := cell_of_row HX1.out.2 rfl
  have y2 : W1.cell? ⟨g2, 1, none⟩ = some (.int .i64 fn) := cell_of_row HX1.out.2 rfl
  have y3 : W1.cell? ⟨g2, 2, none⟩ = some (.string fs) := cell_of_row HX1.out.2 rfl
  have q0 : W1.cell? ⟨W.heap.size, 0, none⟩ = some (.int .i8 k) := cell_of_row HG1.out rfl
  have q1 : W1.cell? ⟨W.heap.size, 1, none⟩ = some (.int .i64 m) := cell_of_row HG1.out rfl
  have q2 : W1.cell? ⟨W.heap.size, 2, none⟩ = some (.string s) := cell_of_row HG1.out rfl
  have q3 : W1.cell? ⟨W.heap.size, 3, none⟩ = some (.string t) := cell_of_row HG1.out rfl
  have q4 : W1.cell? ⟨W.heap.size, 4, none⟩ = some (.slice A l.length cap) := cell_of_row HG1.out rfl
  go_wp2_with fail
  refine (put_row [fs] _ (by decide) HS1.out (Nat.le_of_ble_eq_true rfl) (by have h9 := HLEN.out; simp [catL] at h9 ⊢; omega) rfl rfl).mono ?_
  rintro e W2 ⟨rfl, h, k9⟩
  have HS2 := Lib.hid h
  have HK2 := Lib.hid (HK1.out.trans k9)
  have HG2 := Lib.hid (k9.block HG1.out HNE.out node_ne_u8)
  clear h k9 q0 q1 q2 q3 q4 y0 y1 y2 y3
  have HX2 := Lib.hid (And.intro (HK2.out.block HX.out.1 HX.out.2.2.1 ptr_ne_u8) (HK2.out.block HX.out.2.1 HX.out.2.2.2 node_ne_u8))
  go_upto_region 2 with fail
  have B2D : Below W2.heap.size W2 W2.drew := ⟨rfl, rfl, rfl, Nat.le_refl _, fun _ _ => rfl⟩
  have hS0 : (W2.drew.heap[W.heap.size]? = some (.cells #[.int .i8 k, .int .i64 m, .string s, .string t, .slice A l.length cap] 25 (0, 0))) ∧ W2.drew.heap[g1]? = some (.cells #[.pointer (some ⟨WB, 0, none⟩)] 54 (0, 0)) ∧ W2.drew.heap[g2]? = some (.cells #[.int .i8 fk, .int .i64 fn, .string fs, .string ft, .slice fA flen fcap] 25 (0, 0)) := ⟨HG2.out, HX2.out.1, HX2.out.2⟩
  refine wp_region_held (S := fun V => (V.heap[W.heap.size]? = some (.cells #[.int .i8 k, .int .i64 m, .string s, .string t, .slice A l.length cap] 25 (0, 0))) ∧ V.heap[g1]? = some (.cells #[.pointer (some ⟨WB, 0, none⟩)] 54 (0, 0)) ∧ V.heap[g2]? = some (.cells #[.int .i8 fk, .int .i64 fn, .string fs, .string ft, .slice fA flen fcap] 25 (0, 0))) (by kernel_rfl) ?_
  show wpAnyH _ _ _ _ _ _ _ _ W2.drew
  have hSD := HS2.out.under B2D
  have HSD := Lib.hid hSD
  have HKD := Lib.hid (HK2.out.trans (Wk.of_below B2D))
  clear hSD B2D
  generalize W2.drew = D at hS0 HSD HKD ⊢
  refine wpAnyH_take (i := 0) (oi := ⟨some 9, _, _, _, _, _⟩) (v := ?_) rfl (by kernel_rfl) (by kernel_rfl) (by kernel_rfl) (fun _ _ _ h => h) (Or.inl ⟨by kernel_rfl, ?_⟩) (by assumption) ?_; rotate_left; (intro w hSw; (try dsimp only at hSw); have q0 := cell_of_row (i := 0) hSw.2.1 rfl; go_simp; first | done | with_reducible rfl); (try simp only [Act.put, List.setIfInBounds_toArray, List.set_cons_zero, List.set_cons_succ])
  refine wpAnyH_take (i := 1) (oi := ⟨some 10, _, _, _, _, _⟩) (v := ?_) rfl (by kernel_rfl) (by kernel_rfl) (by kernel_rfl) (fun _ _ _ h => h) (Or.inl ⟨by kernel_rfl, ?_⟩) (by assumption) ?_; rotate_left; (intro w hSw; (try dsimp only at hSw); go_simp; first | done | with_reducible rfl); (try simp only [Act.put, List.setIfInBounds_toArray, List.set_cons_zero, List.set_cons_succ])
  refine wpAnyH_take (i := 2) (oi := ⟨some 11, _, _, _, _, _⟩) (v := ?_) rfl (by kernel_rfl) (by kernel_rfl) (by kernel_rfl) (fun _ _ _ h => h) (Or.inl ⟨by kernel_rfl, ?_⟩) (by assumption) ?_; rotate_left; (intro w hSw; (try dsimp only at hSw); have q4 := cell_of_row (i := 4) hSw.1 rfl; go_simp; first | done | with_reducible rfl); (try simp only [Act.put, List.setIfInBounds_toArray, List.set_cons_zero, List.set_cons_succ])
  refine wpAnyH_take (i := 3) (oi := ⟨some 12, _, _, _, _, _⟩) (v := ?_) rfl (by kernel_rfl) (by kernel_rfl) (by kernel_rfl) (fun _ _ _ h => h) (Or.inl ⟨by kernel_rfl, ?_⟩) (by assumption) ?_; rotate_left; (intro w hSw; (try dsimp only at hSw); go_simp; first | done | with_reducible rfl); (try simp only [Act.put, List.setIfInBounds_toArray, List.set_cons_zero, List.set_cons_succ])
  refine wpAnyH_take (i := 4) (oi := ⟨some 13, _, _, _, _, _⟩) (v := ?_) rfl (by kernel_rfl) (by kernel_rfl) (by kernel_rfl) (fun _ _ _ h => h) (Or.inl ⟨by kernel_rfl, ?_⟩) (by assumption) ?_; rotate_left; (intro w hSw; (try dsimp only at hSw); have q1 := cell_of_row (i := 1) hSw.1 rfl; go_simp; first | done | with_reducible rfl); (try simp only [Act.put, List.setIfInBounds_toArray, List.set_cons_zero, List.set_cons_succ])
  have hmc : m ≤ cap := by omega
  refine wpAnyH_take (i := 5) (oi := ⟨some 14, _, _, _, _, _⟩) (v := ?_) rfl (by kernel_rfl) (by kernel_rfl) (by kernel_rfl) (fun _ _ _ h => h) (Or.inl ⟨by kernel_rfl, ?_⟩) (by assumption) ?_; rotate_left; (intro w hSw; (try dsimp only at hSw); go_simp; first | done | with_reducible rfl); (try simp only [Act.put, List.setIfInBounds_toArray, List.set_cons_zero, List.set_cons_succ])
  refine wpAnyH_ready (rs := [6]) (by kernel_rfl) (by simp) ?_
  refine AllReadyH.cons (o := ⟨some 15, _, _, _, _, _⟩) rfl (fun K hK => ?_) AllReadyH.nil
  rw [if_pos (by rfl)]
  go_simp
  refine (argsW_any (l.take m) T' _ m _ (HR.out.take m (by omega)) HSD.out HP.out (by have h9 := HLEN.out; simp [catL] at h9 ⊢; omega)).mono ?_
  rintro e W3 ⟨rfl, h, k9⟩
  have HS3 := Lib.hid h
  have HK3 := Lib.hid (HKD.out.trans k9)
  have HG3 := Lib.hid (k9.block hS0.1 HNE.out node_ne_u8)
  have hS3 : (W3.heap[W.heap.size]? = some (.cells #[.int .i8 k, .int .i64 m, .string s, .string t, .slice A l.length cap] 25 (0, 0))) ∧ W3.heap[g1]? = some (.cells #[.pointer (some ⟨WB, 0, none⟩)] 54 (0, 0)) ∧ W3.heap[g2]? = some (.cells #[.int .i8 fk, .int .i64 fn, .string fs, .string ft, .slice fA flen fcap] 25 (0, 0)) := ⟨HG3.out, k9.block hS0.2.1 HX.out.2.2.1 ptr_ne_u8, k9.block hS0.2.2 HX.out.2.2.2 node_ne_u8⟩
  clear h k9 hS0
  refine hK.out _ _ hS3 (fun hSn => ?_)
  clear hK K hSn; (try simp only [Act.put, List.setIfInBounds_toArray, List.set_cons_zero, List.set_cons_succ])
  refine wpAnyH_done (by kernel_rfl) ?_ _
  clear hS3
  have HX3 := Lib.hid (And.intro (HK3.out.block HX.out.1 HX.out.2.2.1 ptr_ne_u8) (HK3.out.block HX.out.2.1 HX.out.2.2.2 node_ne_u8))
  have y0 : W3.cell? ⟨g1, 0, none⟩ = some (.pointer (some ⟨WB, 0, none⟩)) := cell_of_row HX3.out.1 rfl
  have y1 : W3.cell? ⟨g2, 0, none⟩ = some (.int .i8 fk) := cell_of_row HX3.out.2 rfl
  have y2 : W3.cell? ⟨g2, 1, none⟩ = some (.int .i64 fn) := cell_of_row HX3.out.2 rfl
  have y3 : W3.cell? ⟨g2, 2, none⟩ = some (.string fs) := cell_of_row HX3.out.2 rfl
  have q0 : W3.cell? ⟨W.heap.size, 0, none⟩ = some (.int .i8 k) := cell_of_row HG3.out rfl
  have q1 : W3.cell? ⟨W.heap.size, 1, none⟩ = some (.int .i64 m) := cell_of_row HG3.out rfl
  have q2 : W3.cell? ⟨W.heap.size, 2, none⟩ = some (.string s) := cell_of_row HG3.out rfl
  have q3 : W3.cell? ⟨W.heap.size, 3, none⟩ = some (.string t) := cell_of_row HG3.out rfl
  have q4 : W3.cell? ⟨W.heap.size, 4, none⟩ = some (.slice A l.length cap) := cell_of_row HG3.out rfl
  go_wp2_with fail
  refine (HB.out _ _ W3 HT.out HS3.out trivial (by have h9 := HLEN.out; simp [catL] at h9 ⊢; omega)).mono ?_
  rintro e W4 ⟨rfl, h, k9⟩
  have HS4 := Lib.hid h
  have HK4 := Lib.hid (HK3.out.trans k9)
  have HG4 := Lib.hid (k9.block HG3.out HNE.out node_ne_u8)
  clear h k9 q0 q1 q2 q3 q4 y0 y1 y2 y3
  go_wp2_with fail
  go_end0
  exact ⟨rfl, cast (congrArg (fun z => WSt w0 B WB PB z _) (by simp [catL])) HS4.out, HK4.out⟩

set_option maxHeartbeats 4000000 in
set_option maxRecDepth 100000 in
theorem fm_fun {w0 : World} {B WB PB : Nat} (k n : Int) (s t : ByteArray) (l : List Tm) (T : Tm → List UInt8)
    (hM : ∀ g1 g2 A cap, ∀ y ∈ l, CallW w0 B WB PB (XF WB g1 g2 k n s t A l.length cap) 66 (fun v => #[v, .pointer (some ⟨g1, 0, none⟩), .pointer (some ⟨g2, 0, none⟩)]) y (T y)) : CallW w0 B WB PB (fun _ => True) 35 (mth WB) (.mk k n s t l) (sepT [59, 10] (l.map T) ++ [46, 10]) := by
  intro v l0 W hT hS _ hlen
  obtain ⟨A, cap, rfl, hR, hk, hn, hs, ht⟩ := hT.parts
  have hmx := hR.max
  unfold maxLen at hmx
  have hcap := hR.cap
  obtain ⟨W0, hW0⟩ : ∃ W0, W0 = W.alloc (.cells #[.pointer (some ⟨WB, 0, none⟩)] 54) := ⟨_, rfl⟩
  have s0 : W0.heap.size = W.heap.size + 1 := by rw [hW0]; simp
  have b0 : Below W.heap.size W W0 := by rw [hW0]; exact (Below.refl _ _).alloc (Nat.le_refl _) _
  have p0 : W0.heap[W.heap.size]? = some (.cells #[.pointer (some ⟨WB, 0, none⟩)] 54 (0, 0)) := by rw [hW0]; exact block_alloc _ _
  obtain ⟨W1, hW1⟩ : ∃ W1, W1 = W0.alloc (.cells #[.int .i8 k, .int .i64 n, .string s, .string t, .slice A l.length cap] 25) := ⟨_, rfl⟩
  have B1 : Below W.heap.size W W1 := by rw [hW1]; exact b0.alloc b0.size _
  have g1 : W1.heap[W.heap.size + 1]? = some (.cells #[.int .i8 k, .int .i64 n, .string s, .string t, .slice A l.length cap] 25 (0, 0)) := by rw [hW1, ← s0]; exact block_alloc _ _
  have p1 : W1.heap[W.heap.size]? = some (.cells #[.pointer (some ⟨WB, 0, none⟩)] 54 (0, 0)) := by rw [hW1]; exact (Below.heap_alloc _ _ _ (heap_lt p0)).trans p0
  have hne : W.heap.size + 1 ≠ WB := by have := hS.base; have := hS.wb; omega
  have hnp : W.heap.size ≠ WB := by have := hS.base; have := hS.wb; omega
  have HNE := Lib.hid hne
  have HNP := Lib.hid hnp
  have HG1 := Lib.hid g1
  have HP1 := Lib.hid p1
  have HS1 := Lib.hid (hS.under B1)
  have HK1 := Lib.hid (Wk.of_below (w0 := w0) (B := B) (WB := WB) B1)
  have HLEN := Lib.hid hlen
  have HR := Lib.hid hR
  have HM := Lib.hid hM
  have HS0 := Lib.hid s0
  clear hM hT hS hlen hR B1 b0 p0 p1 g1 hne hnp hk hn hs ht s0
  show Calls Tryz.prog 35 #[.pointer (some ⟨WB, 0, none⟩), .agg #[.int .i8 k, .int .i64 n, .string s, .string t, .slice A l.length cap]] W _
  go_enter Tryz.func35, Tryz.ntmps35
  go_upto_region 1 with fail
  rw [← hW0, ← hW1]
  try rw [HS0.out]
  clear hW0 hW1
  have q0 : W1.cell? ⟨W.heap.size + 1, 0, none⟩ = some (.int .i8 k) := cell_of_row HG1.out rfl
  have q1 : W1.cell? ⟨W.heap.size + 1, 1, none⟩ = some (.int .i64 n) := cell_of_row HG1.out rfl
  have q2 : W1.cell? ⟨W.heap.size + 1, 2, none⟩ = some (.string s) := cell_of_row HG1.out rfl
  have q3 : W1.cell? ⟨W.heap.size + 1, 3, none⟩ = some (.string t) := cell_of_row HG1.out rfl
  have q4 : W1.cell? ⟨W.heap.size + 1, 4, none⟩ = some (.slice A l.length cap) := cell_of_row HG1.out rfl
  have y0 : W1.cell? ⟨W.heap.size, 0, none⟩ = some (.pointer (some ⟨WB, 0, none⟩)) := cell_of_row HP1.out rfl
  go_wp2_with fail
  refine (each_fun l T A l.length cap ⟨#[59, 10]⟩ W.heap.size (W.heap.size + 1) (XF WB W.heap.size (W.heap.size + 1) k n s t A l.length cap) HR.out HS1.out ⟨HP1.out, HG1.out, HNP.out, HNE.out⟩ XF.wk (HM.out _ _ _ _) (by have h9 := HLEN.out; simp [catL] at h9 ⊢; omega)).mono ?_
  rintro e W2 ⟨rfl, h, k9⟩
  have HS2 := Lib.hid h
  have HK2 := Lib.hid (HK1.out.trans k9)
  have HG2 := Lib.hid (k9.block HG1.out HNE.out node_ne_u8)
  have HP2 := Lib.hid (k9.block HP1.out HNP.out ptr_ne_u8)
  clear h k9 q0 q1 q2 q3 q4 y0
  have q0 : W2.cell? ⟨W.heap.size + 1, 0, none⟩ = some (.int .i8 k) := cell_of_row HG2.out rfl
  have q1 : W2.cell? ⟨W.heap.size + 1, 1, none⟩ = some (.int .i64 n) := cell_of_row HG2.out rfl
  have q2 : W2.cell? ⟨W.heap.size + 1, 2, none⟩ = some (.string s) := cell_of_row HG2.out rfl
  have q3 : W2.cell? ⟨W.heap.size + 1, 3, none⟩ = some (.string t) := cell_of_row HG2.out rfl
  have q4 : W2.cell? ⟨W.heap.size + 1, 4, none⟩ = some (.slice A l.length cap) := cell_of_row HG2.out rfl
  have y0 : W2.cell? ⟨W.heap.size, 0, none⟩ = some (.pointer (some ⟨WB, 0, none⟩)) := cell_of_row HP2.out rfl
  go_wp2_with fail
  refine (put_row [⟨#[46, 10]⟩] _ (by decide) HS2.out (Nat.le_of_ble_eq_true rfl) (by have h9 := HLEN.out; simp [catL] at h9 ⊢; omega) rfl rfl).mono ?_
  rintro e W3 ⟨rfl, h, k9⟩
  have HS3 := Lib.hid h
  have HK3 := Lib.hid (HK2.out.trans k9)
  have HG3 := Lib.hid (k9.block HG2.out HNE.out node_ne_u8)
  have HP3 := Lib.hid (k9.block HP2.out HNP.out ptr_ne_u8)
  clear h k9 q0 q1 q2 q3 q4 y0
  go_wp2_with fail
  go_end0
  exact ⟨rfl, cast (congrArg (fun z => WSt w0 B WB PB z _) (by simp [catL])) HS3.out, HK3.out⟩

set_option maxHeartbeats 4000000 in
set_option maxRecDepth 100000 in
theorem fm_recv0 {w0 : World} {B WB PB : Nat} (k : Int)  (s t : ByteArray) (l : List Tm) (y : Tm) (T : Tm → List UInt8) (hM : ∀ z ∈ y :: l, NodeW w0 B WB PB z (T z)) : CallW w0 B WB PB (fun _ => True) 55 (mth WB) (.mk k 0 s t (y :: l)) ([114, 101, 99, 101, 105, 118, 101] ++ ([32] ++ (sepT [59, 32] ((y :: l).map T) ++ [32, 101, 110, 100]))) := by
  intro v l0 W hT hS _ hlen
  obtain ⟨A, cap, rfl, hR, hk, hn, hs, ht⟩ := hT.parts
  obtain ⟨ad, u, hA, -, -, -⟩ := hR.at_ 0 y rfl
  subst hA
  obtain ⟨N, hN⟩ : ∃ N, N = (y :: l).length := ⟨_, rfl⟩
  obtain ⟨L, hL⟩ : ∃ L, L = y :: l := ⟨_, rfl⟩
  rw [← hN] at hR hT ⊢
  rw [← hL] at hR hlen hM ⊢
  have hN1 : 1 ≤ N := by rw [hN]; simp
  have hNi : 0 < (N : Int) := by omega
  clear hN hL
  have hmx := hR.max
  unfold maxLen at hmx
  have hcap := hR.cap
  obtain ⟨W1, hW1⟩ : ∃ W1, W1 = W.alloc (.cells #[.int .i8 k, .int .i64 0, .string s, .string t, .slice (some ad) N cap] 25) := ⟨_, rfl⟩
  have B1 : Below W.heap.size W W1 := by rw [hW1]; exact (Below.refl _ _).alloc (Nat.le_refl _) _
  have g1 : W1.heap[W.heap.size]? = some (.cells #[.int .i8 k, .int .i64 0, .string s, .string t, .slice (some ad) N cap] 25 (0, 0)) := by rw [hW1]; exact block_alloc _ _
  have hne : W.heap.size ≠ WB := by have := hS.base; have := hS.wb; omega
  have HNE := Lib.hid hne
  have HG1 := Lib.hid g1
  have HS1 := Lib.hid (hS.under B1)
  have HK1 := Lib.hid (Wk.of_below (w0 := w0) (B := B) (WB := WB) B1)
  have HLEN := Lib.hid hlen
  have HR := Lib.hid hR
  have HM := Lib.hid hM
  clear hM hT hS hlen hR B1 g1 hne hk hn hs ht
  show Calls Tryz.prog 55 #[.pointer (some ⟨WB, 0, none⟩), .agg #[.int .i8 k, .int .i64 0, .string s, .string t, .slice (some ad) N cap]] W _
  go_enter Tryz.func55, Tryz.ntmps55
  go_upto_region 1 with fail
  rw [← hW1]
  clear hW1
  have q0 : W1.cell? ⟨W.heap.size, 0, none⟩ = some (.int .i8 k) := cell_of_row HG1.out rfl
  have q1 : W1.cell? ⟨W.heap.size, 1, none⟩ = some (.int .i64 0) := cell_of_row HG1.out rfl
  have q2 : W1.cell? ⟨W.heap.size, 2, none⟩ = some (.string s) := cell_of_row HG1.out rfl
  have q3 : W1.cell? ⟨W.heap.size, 3, none⟩ = some (.string t) := cell_of_row HG1.out rfl
  have q4 : W1.cell? ⟨W.heap.size, 4, none⟩ = some (.slice (some ad) N cap) := cell_of_row HG1.out rfl
  go_wp2_with fail
  refine (put_row [⟨#[114, 101, 99, 101, 105, 118, 101]⟩] _ (by decide) HS1.out (Nat.le_of_ble_eq_true rfl) (by have h9 := HLEN.out; simp [catL] at h9 ⊢; omega) rfl rfl).mono ?_
  rintro e W2 ⟨rfl, h, k9⟩
  have HS2 := Lib.hid h
  have HK2 := Lib.hid (HK1.out.trans k9)
  have HG2 := Lib.hid (k9.block HG1.out HNE.out node_ne_u8)
  clear h k9 q0 q1 q2 q3 q4
  have q0 : W2.cell? ⟨W.heap.size, 0, none⟩ = some (.int .i8 k) := cell_of_row HG2.out rfl
  have q1 : W2.cell? ⟨W.heap.size, 1, none⟩ = some (.int .i64 0) := cell_of_row HG2.out rfl
  have q2 : W2.cell? ⟨W.heap.size, 2, none⟩ = some (.string s) := cell_of_row HG2.out rfl
  have q3 : W2.cell? ⟨W.heap.size, 3, none⟩ = some (.string t) := cell_of_row HG2.out rfl
  have q4 : W2.cell? ⟨W.heap.size, 4, none⟩ = some (.slice (some ad) N cap) := cell_of_row HG2.out rfl
  go_wp2_with fail
  refine (put_row [⟨#[32]⟩] _ (by decide) HS2.out (Nat.le_of_ble_eq_true rfl) (by have h9 := HLEN.out; simp [catL] at h9 ⊢; omega) rfl rfl).mono ?_
  rintro e W3 ⟨rfl, h, k9⟩
  have HS3 := Lib.hid h
  have HK3 := Lib.hid (HK2.out.trans k9)
  have HG3 := Lib.hid (k9.block HG2.out HNE.out node_ne_u8)
  clear h k9 q0 q1 q2 q3 q4
  have q0 : W3.cell? ⟨W.heap.size, 0, none⟩ = some (.int .i8 k) := cell_of_row HG3.out rfl
  have q1 : W3.cell? ⟨W.heap.size, 1, none⟩ = some (.int .i64 0) := cell_of_row HG3.out rfl
  have q2 : W3.cell? ⟨W.heap.size, 2, none⟩ = some (.string s) := cell_of_row HG3.out rfl
  have q3 : W3.cell? ⟨W.heap.size, 3, none⟩ = some (.string t) := cell_of_row HG3.out rfl
  have q4 : W3.cell? ⟨W.heap.size, 4, none⟩ = some (.slice (some ad) N cap) := cell_of_row HG3.out rfl
  go_wp2_with fail
  refine (list_any L T _ _ _ ⟨#[59, 32]⟩ HR.out HS3.out HM.out (by have h9 := HLEN.out; simp [catL] at h9 ⊢; omega)).mono ?_
  rintro e W4 ⟨rfl, h, k9⟩
  have HS4 := Lib.hid h
  have HK4 := Lib.hid (HK3.out.trans k9)
  have HG4 := Lib.hid (k9.block HG3.out HNE.out node_ne_u8)
  clear h k9 q0 q1 q2 q3 q4
  by_cases hc1 : N = cap
  · subst hc1
    have q0 : W4.cell? ⟨W.heap.size, 0, none⟩ = some (.int .i8 k) := cell_of_row HG4.out rfl
    have q1 : W4.cell? ⟨W.heap.size, 1, none⟩ = some (.int .i64 0) := cell_of_row HG4.out rfl
    have q2 : W4.cell? ⟨W.heap.size, 2, none⟩ = some (.string s) := cell_of_row HG4.out rfl
    have q3 : W4.cell? ⟨W.heap.size, 3, none⟩ = some (.string t) := cell_of_row HG4.out rfl
    have q4 : W4.cell? ⟨W.heap.size, 4, none⟩ = some (.slice (some ad) N N) := cell_of_row HG4.out rfl
    go_wp2_with fail
    refine (list_any [] T _ _ _ ⟨#[]⟩ (TRow.nil _ _ _ _) HS4.out (fun y hy => by cases hy) (by have h9 := HLEN.out; simp [catL, sepT] at h9 ⊢; omega)).mono ?_
    rintro e W5 ⟨rfl, h, k9⟩
    have HS5 := Lib.hid h
    have HK5 := Lib.hid (HK4.out.trans k9)
    have HG5 := Lib.hid (k9.block HG4.out HNE.out node_ne_u8)
    clear h k9 q0 q1 q2 q3 q4
    have q0 : W5.cell? ⟨W.heap.size, 0, none⟩ = some (.int .i8 k) := cell_of_row HG5.out rfl
    have q1 : W5.cell? ⟨W.heap.size, 1, none⟩ = some (.int .i64 0) := cell_of_row HG5.out rfl
    have q2 : W5.cell? ⟨W.heap.size, 2, none⟩ = some (.string s) := cell_of_row HG5.out rfl
    have q3 : W5.cell? ⟨W.heap.size, 3, none⟩ = some (.string t) := cell_of_row HG5.out rfl
    have q4 : W5.cell? ⟨W.heap.size, 4, none⟩ = some (.slice (some ad) N N) := cell_of_row HG5.out rfl
    go_wp2_with fail
    refine (put_row [⟨#[32, 101, 110, 100]⟩] _ (by decide) HS5.out (Nat.le_of_ble_eq_true rfl) (by have h9 := HLEN.out; simp [catL, sepT] at h9 ⊢; omega) rfl rfl).mono ?_
    rintro e W6 ⟨rfl, h, k9⟩
    have HS6 := Lib.hid h
    have HK6 := Lib.hid (HK5.out.trans k9)
    have HG6 := Lib.hid (k9.block HG5.out HNE.out node_ne_u8)
    clear h k9 q0 q1 q2 q3 q4
    go_wp2_with fail
    go_end0
    exact ⟨rfl, cast (congrArg (fun z => WSt w0 B WB PB z _) (by simp [catL, sepT])) HS6.out, HK6.out⟩
  · have hc2 : N < cap := by omega
    clear hc1
    have q0 : W4.cell? ⟨W.heap.size, 0, none⟩ = some (.int .i8 k) := cell_of_row HG4.out rfl
    have q1 : W4.cell? ⟨W.heap.size, 1, none⟩ = some (.int .i64 0) := cell_of_row HG4.out rfl
    have q2 : W4.cell? ⟨W.heap.size, 2, none⟩ = some (.string s) := cell_of_row HG4.out rfl
    have q3 : W4.cell? ⟨W.heap.size, 3, none⟩ = some (.string t) := cell_of_row HG4.out rfl
    have q4 : W4.cell? ⟨W.heap.size, 4, none⟩ = some (.slice (some ad) N cap) := cell_of_row HG4.out rfl
    go_wp2_with fail
    refine (list_any [] T _ _ _ ⟨#[]⟩ (TRow.nil _ _ _ _) HS4.out (fun y hy => by cases hy) (by have h9 := HLEN.out; simp [catL, sepT] at h9 ⊢; omega)).mono ?_
    rintro e W5 ⟨rfl, h, k9⟩
    have HS5 := Lib.hid h
    have HK5 := Lib.hid (HK4.out.trans k9)
    have HG5 := Lib.hid (k9.block HG4.out HNE.out node_ne_u8)
    clear h k9 q0 q1 q2 q3 q4
    have q0 : W5.cell? ⟨W.heap.size, 0, none⟩ = some (.int .i8 k) := cell_of_row HG5.out rfl
    have q1 : W5.cell? ⟨W.heap.size, 1, none⟩ = some (.int .i64 0) := cell_of_row HG5.out rfl
    have q2 : W5.cell? ⟨W.heap.size, 2, none⟩ = some (.string s) := cell_of_row HG5.out rfl
    have q3 : W5.cell? ⟨W.heap.size, 3, none⟩ = some (.string t) := cell_of_row HG5.out rfl
    have q4 : W5.cell? ⟨W.heap.size, 4, none⟩ = some (.slice (some ad) N cap) := cell_of_row HG5.out rfl
    go_wp2_with fail
    refine (put_row [⟨#[32, 101, 110, 100]⟩] _ (by decide) HS5.out (Nat.le_of_ble_eq_true rfl) (by have h9 := HLEN.out; simp [catL, sepT] at h9 ⊢; omega) rfl rfl).mono ?_
    rintro e W6 ⟨rfl, h, k9⟩
    have HS6 := Lib.hid h
    have HK6 := Lib.hid (HK5.out.trans k9)
    have HG6 := Lib.hid (k9.block HG5.out HNE.out node_ne_u8)
    clear h k9 q0 q1 q2 q3 q4
    go_wp2_with fail
    go_end0
    exact ⟨rfl, cast (congrArg (fun z => WSt w0 B WB PB z _) (by simp [catL, sepT])) HS6.out, HK6.out⟩

set_option maxHeartbeats 4000000 in
set_option maxRecDepth 100000 in
theorem fm_recv1 {w0 : World} {B WB PB : Nat} (k : Int)  (s t : ByteArray) (l : List Tm) (hl1 : l.length = 1) (T : Tm → List UInt8) (hM : ∀ z ∈ l, NodeW w0 B WB PB z (T z)) : CallW w0 B WB PB (fun _ => True) 55 (mth WB) (.mk k 1 s t l) ([114, 101, 99, 101, 105, 118, 101] ++ (sepT [] (l.map T) ++ [32, 101, 110, 100])) := by
  intro v l0 W hT hS _ hlen
  obtain ⟨A, cap, rfl, hR, hk, hn, hs, ht⟩ := hT.parts
  obtain ⟨y, hy⟩ : ∃ y, l[0]? = some y := ⟨l[0], List.getElem?_eq_getElem (by omega)⟩
  obtain ⟨ad, u, hA, -, -, -⟩ := hR.at_ 0 y hy
  subst hA
  rw [hl1] at hR hT ⊢
  clear hy hl1
  have hmx := hR.max
  unfold maxLen at hmx
  have hcap := hR.cap
  obtain ⟨W1, hW1⟩ : ∃ W1, W1 = W.alloc (.cells #[.int .i8 k, .int .i64 1, .string s, .string t, .slice (some ad) 1 cap] 25) := ⟨_, rfl⟩
  have B1 : Below W.heap.size W W1 := by rw [hW1]; exact (Below.refl _ _).alloc (Nat.le_refl _) _
  have g1 : W1.heap[W.heap.size]? = some (.cells #[.int .i8 k, .int .i64 1, .string s, .string t, .slice (some ad) 1 cap] 25 (0, 0)) := by rw [hW1]; exact block_alloc _ _
  have hne : W.heap.size ≠ WB := by have := hS.base; have := hS.wb; omega
  have HNE := Lib.hid hne
  have HG1 := Lib.hid g1
  have HS1 := Lib.hid (hS.under B1)
  have HK1 := Lib.hid (Wk.of_below (w0 := w0) (B := B) (WB := WB) B1)
  have HLEN := Lib.hid hlen
  have HR := Lib.hid hR
  have HM := Lib.hid hM
  clear hM hT hS hlen hR B1 g1 hne hk hn hs ht
  show Calls Tryz.prog 55 #[.pointer (some ⟨WB, 0, none⟩), .agg #[.int .i8 k, .int .i64 1, .string s, .string t, .slice (some ad) 1 cap]] W _
  go_enter Tryz.func55, Tryz.ntmps55
  go_upto_region 1 with fail
  rw [← hW1]
  clear hW1
  have q0 : W1.cell? ⟨W.heap.size, 0, none⟩ = some (.int .i8 k) := cell_of_row HG1.out rfl
  have q1 : W1.cell? ⟨W.heap.size, 1, none⟩ = some (.int .i64 1) := cell_of_row HG1.out rfl
  have q2 : W1.cell? ⟨W.heap.size, 2, none⟩ = some (.string s) := cell_of_row HG1.out rfl
  have q3 : W1.cell? ⟨W.heap.size, 3, none⟩ = some (.string t) := cell_of_row HG1.out rfl
  have q4 : W1.cell? ⟨W.heap.size, 4, none⟩ = some (.slice (some ad) 1 cap) := cell_of_row HG1.out rfl
  go_wp2_with fail
  refine (put_row [⟨#[114, 101, 99, 101, 105, 118, 101]⟩] _ (by decide) HS1.out (Nat.le_of_ble_eq_true rfl) (by have h9 := HLEN.out; simp [catL] at h9 ⊢; omega) rfl rfl).mono ?_
  rintro e W2 ⟨rfl, h, k9⟩
  have HS2 := Lib.hid h
  have HK2 := Lib.hid (HK1.out.trans k9)
  have HG2 := Lib.hid (k9.block HG1.out HNE.out node_ne_u8)
  clear h k9 q0 q1 q2 q3 q4
  have q0 : W2.cell? ⟨W.heap.size, 0, none⟩ = some (.int .i8 k) := cell_of_row HG2.out rfl
  have q1 : W2.cell? ⟨W.heap.size, 1, none⟩ = some (.int .i64 1) := cell_of_row HG2.out rfl
  have q2 : W2.cell? ⟨W.heap.size, 2, none⟩ = some (.string s) := cell_of_row HG2.out rfl
  have q3 : W2.cell? ⟨W.heap.size, 3, none⟩ = some (.string t) := cell_of_row HG2.out rfl
  have q4 : W2.cell? ⟨W.heap.size, 4, none⟩ = some (.slice (some ad) 1 cap) := cell_of_row HG2.out rfl
  go_wp2_with fail
  refine (list_any l T _ _ _ ⟨#[]⟩ HR.out HS2.out HM.out (by have h9 := HLEN.out; simp [catL] at h9 ⊢; omega)).mono ?_
  rintro e W3 ⟨rfl, h, k9⟩
  have HS3 := Lib.hid h
  have HK3 := Lib.hid (HK2.out.trans k9)
  have HG3 := Lib.hid (k9.block HG2.out HNE.out node_ne_u8)
  clear h k9 q0 q1 q2 q3 q4
  have q0 : W3.cell? ⟨W.heap.size, 0, none⟩ = some (.int .i8 k) := cell_of_row HG3.out rfl
  have q1 : W3.cell? ⟨W.heap.size, 1, none⟩ = some (.int .i64 1) := cell_of_row HG3.out rfl
  have q2 : W3.cell? ⟨W.heap.size, 2, none⟩ = some (.string s) := cell_of_row HG3.out rfl
  have q3 : W3.cell? ⟨W.heap.size, 3, none⟩ = some (.string t) := cell_of_row HG3.out rfl
  have q4 : W3.cell? ⟨W.heap.size, 4, none⟩ = some (.slice (some ad) 1 cap) := cell_of_row HG3.out rfl
  go_wp2_with fail
  refine (put_row [⟨#[32, 101, 110, 100]⟩] _ (by decide) HS3.out (Nat.le_of_ble_eq_true rfl) (by have h9 := HLEN.out; simp [catL] at h9 ⊢; omega) rfl rfl).mono ?_
  rintro e W4 ⟨rfl, h, k9⟩
  have HS4 := Lib.hid h
  have HK4 := Lib.hid (HK3.out.trans k9)
  have HG4 := Lib.hid (k9.block HG3.out HNE.out node_ne_u8)
  clear h k9 q0 q1 q2 q3 q4
  go_wp2_with fail
  go_end0
  exact ⟨rfl, cast (congrArg (fun z => WSt w0 B WB PB z _) (by simp [catL])) HS4.out, HK4.out⟩

set_option maxHeartbeats 4000000 in
set_option maxRecDepth 100000 in
theorem fm_recvM {w0 : World} {B WB PB : Nat} (k : Int)  (s t : ByteArray) (l : List Tm) (M : Nat) (hlM : l.length = M + 1) (hM0 : 0 < M) (T T' : Tm → List UInt8) (hM : ∀ z ∈ l.take M, NodeW w0 B WB PB z (T z)) (hD : ∀ z ∈ l.drop M, NodeW w0 B WB PB z (T' z)) : CallW w0 B WB PB (fun _ => True) 55 (mth WB) (.mk k 1 s t l) ([114, 101, 99, 101, 105, 118, 101] ++ ([32] ++ (sepT [59, 32] ((l.take M).map T) ++ (sepT [] ((l.drop M).map T') ++ [32, 101, 110, 100])))) := by
  intro v l0 W hT hS _ hlen
  obtain ⟨A, cap, rfl, hR, hk, hn, hs, ht⟩ := hT.parts
  obtain ⟨y, hy⟩ : ∃ y, l[0]? = some y := ⟨l[0], List.getElem?_eq_getElem (by omega)⟩
  obtain ⟨ad, u, hA, -, -, -⟩ := hR.at_ 0 y hy
  subst hA
  rw [hlM] at hR hT ⊢
  have hMi : 0 < (M : Int) := by omega
  have hDR := hR.drop M
  rw [show M + 1 - M = 1 by omega] at hDR
  have HDR := Lib.hid hDR
  clear hy hDR
  have hmx := hR.max
  unfold maxLen at hmx
  have hcap := hR.cap
  obtain ⟨W1, hW1⟩ : ∃ W1, W1 = W.alloc (.cells #[.int .i8 k, .int .i64 1, .string s, .string t, .slice (some ad) (M + 1) cap] 25) := ⟨_, rfl⟩
  have B1 : Below W.heap.size W W1 := by rw [hW1]; exact (Below.refl _ _).alloc (Nat.le_refl _) _
  have g1 : W1.heap[W.heap.size]? = some (.cells #[.int .i8 k, .int .i64 1, .string s, .string t, .slice (some ad) (M + 1) cap] 25 (0, 0)) := by rw [hW1]; exact block_alloc _ _
  have hne : W.heap.size ≠ WB := by have := hS.base; have := hS.wb; omega
  have HNE := Lib.hid hne
  have HG1 := Lib.hid g1
  have HS1 := Lib.hid (hS.under B1)
  have HK1 := Lib.hid (Wk.of_below (w0 := w0) (B := B) (WB := WB) B1)
  have HLEN := Lib.hid hlen
  have HR := Lib.hid hR
  have HM := Lib.hid hM
  have HD := Lib.hid hD
  clear hM hD hT hS hlen hR B1 g1 hne hk hn hs ht
  show Calls Tryz.prog 55 #[.pointer (some ⟨WB, 0, none⟩), .agg #[.int .i8 k, .int .i64 1, .string s, .string t, .slice (some ad) (M + 1) cap]] W _
  go_enter Tryz.func55, Tryz.ntmps55
  go_upto_region 1 with fail
  rw [← hW1]
  clear hW1
  have hMc : M < cap := by omega
  clear hlM
  have q0 : W1.cell? ⟨W.heap.size, 0, none⟩ = some (.int .i8 k) := cell_of_row HG1.out rfl
  have q1 : W1.cell? ⟨W.heap.size, 1, none⟩ = some (.int .i64 1) := cell_of_row HG1.out rfl
  have q2 : W1.cell? ⟨W.heap.size, 2, none⟩ = some (.string s) := cell_of_row HG1.out rfl
  have q3 : W1.cell? ⟨W.heap.size, 3, none⟩ = some (.string t) := cell_of_row HG1.out rfl
  have q4 : W1.cell? ⟨W.heap.size, 4, none⟩ = some (.slice (some ad) (M + 1) cap) := cell_of_row HG1.out rfl
  go_wp2_with fail
  refine (put_row [⟨#[114, 101, 99, 101, 105, 118, 101]⟩] _ (by decide) HS1.out (Nat.le_of_ble_eq_true rfl) (by have h9 := HLEN.out; simp [catL] at h9 ⊢; omega) rfl rfl).mono ?_
  rintro e W2 ⟨rfl, h, k9⟩
  have HS2 := Lib.hid h
  have HK2 := Lib.hid (HK1.out.trans k9)
  have HG2 := Lib.hid (k9.block HG1.out HNE.out node_ne_u8)
  clear h k9 q0 q1 q2 q3 q4
  have q0 : W2.cell? ⟨W.heap.size, 0, none⟩ = some (.int .i8 k) := cell_of_row HG2.out rfl
  have q1 : W2.cell? ⟨W.heap.size, 1, none⟩ = some (.int .i64 1) := cell_of_row HG2.out rfl
  have q2 : W2.cell? ⟨W.heap.size, 2, none⟩ = some (.string s) := cell_of_row HG2.out rfl
  have q3 : W2.cell? ⟨W.heap.size, 3, none⟩ = some (.string t) := cell_of_row HG2.out rfl
  have q4 : W2.cell? ⟨W.heap.size, 4, none⟩ = some (.slice (some ad) (M + 1) cap) := cell_of_row HG2.out rfl
  go_wp2_with fail
  refine (put_row [⟨#[32]⟩] _ (by decide) HS2.out (Nat.le_of_ble_eq_true rfl) (by have h9 := HLEN.out; simp [catL] at h9 ⊢; omega) rfl rfl).mono ?_
  rintro e W3 ⟨rfl, h, k9⟩
  have HS3 := Lib.hid h
  have HK3 := Lib.hid (HK2.out.trans k9)
  have HG3 := Lib.hid (k9.block HG2.out HNE.out node_ne_u8)
  clear h k9 q0 q1 q2 q3 q4
  have q0 : W3.cell? ⟨W.heap.size, 0, none⟩ = some (.int .i8 k) := cell_of_row HG3.out rfl
  have q1 : W3.cell? ⟨W.heap.size, 1, none⟩ = some (.int .i64 1) := cell_of_row HG3.out rfl
  have q2 : W3.cell? ⟨W.heap.size, 2, none⟩ = some (.string s) := cell_of_row HG3.out rfl
  have q3 : W3.cell? ⟨W.heap.size, 3, none⟩ = some (.string t) := cell_of_row HG3.out rfl
  have q4 : W3.cell? ⟨W.heap.size, 4, none⟩ = some (.slice (some ad) (M + 1) cap) := cell_of_row HG3.out rfl
  go_wp2_with fail
  refine (list_any (l.take M) T _ _ _ ⟨#[59, 32]⟩ (HR.out.take M (by omega)) HS3.out HM.out (by have h9 := HLEN.out; simp [catL] at h9 ⊢; omega)).mono ?_
  rintro e W4 ⟨rfl, h, k9⟩
  have HS4 := Lib.hid h
  have HK4 := Lib.hid (HK3.out.trans k9)
  have HG4 := Lib.hid (k9.block HG3.out HNE.out node_ne_u8)
  clear h k9 q0 q1 q2 q3 q4
  have q0 : W4.cell? ⟨W.heap.size, 0, none⟩ = some (.int .i8 k) := cell_of_row HG4.out rfl
  have q1 : W4.cell? ⟨W.heap.size, 1, none⟩ = some (.int .i64 1) := cell_of_row HG4.out rfl
  have q2 : W4.cell? ⟨W.heap.size, 2, none⟩ = some (.string s) := cell_of_row HG4.out rfl
  have q3 : W4.cell? ⟨W.heap.size, 3, none⟩ = some (.string t) := cell_of_row HG4.out rfl
  have q4 : W4.cell? ⟨W.heap.size, 4, none⟩ = some (.slice (some ad) (M + 1) cap) := cell_of_row HG4.out rfl
  go_wp2_with fail
  refine (list_any (l.drop M) T' _ _ _ ⟨#[]⟩ HDR.out HS4.out HD.out (by have h9 := HLEN.out; simp [catL] at h9 ⊢; omega)).mono ?_
  rintro e W5 ⟨rfl, h, k9⟩
  have HS5 := Lib.hid h
  have HK5 := Lib.hid (HK4.out.trans k9)
  have HG5 := Lib.hid (k9.block HG4.out HNE.out node_ne_u8)
  clear h k9 q0 q1 q2 q3 q4
  have q0 : W5.cell? ⟨W.heap.size, 0, none⟩ = some (.int .i8 k) := cell_of_row HG5.out rfl
  have q1 : W5.cell? ⟨W.heap.size, 1, none⟩ = some (.int .i64 1) := cell_of_row HG5.out rfl
  have q2 : W5.cell? ⟨W.heap.size, 2, none⟩ = some (.string s) := cell_of_row HG5.out rfl
  have q3 : W5.cell? ⟨W.heap.size, 3, none⟩ = some (.string t) := cell_of_row HG5.out rfl
  have q4 : W5.cell? ⟨W.heap.size, 4, none⟩ = some (.slice (some ad) (M + 1) cap) := cell_of_row HG5.out rfl
  go_wp2_with fail
  refine (put_row [⟨#[32, 101, 110, 100]⟩] _ (by decide) HS5.out (Nat.le_of_ble_eq_true rfl) (by have h9 := HLEN.out; simp [catL] at h9 ⊢; omega) rfl rfl).mono ?_
  rintro e W6 ⟨rfl, h, k9⟩
  have HS6 := Lib.hid h
  have HK6 := Lib.hid (HK5.out.trans k9)
  have HG6 := Lib.hid (k9.block HG5.out HNE.out node_ne_u8)
  clear h k9 q0 q1 q2 q3 q4
  go_wp2_with fail
  go_end0
  exact ⟨rfl, cast (congrArg (fun z => WSt w0 B WB PB z _) (by simp [catL])) HS6.out, HK6.out⟩
end Go.Proofs.YtcallgoglnkkiaaGreatDoor
set_option linter.unusedVariables false
set_option linter.unusedSimpArgs false
namespace Go.Proofs.YtcallgoglnkkiaaGreatDoor
open Go.RowKit Go.Lib

theorem itoa_bytes (n : Int) : (⟨(itoa n).toArray⟩ : ByteArray).data.toList = itoa n := by simp

set_option maxHeartbeats 4000000 in
set_option maxRecDepth 100000 in
theorem fm_int {w0 : World} {B WB PB : Nat} (k : Int) (n : Int) (s t : ByteArray) (l : List Tm) (hE : Env7 w0) : CallW w0 B WB PB (fun _ => True) 39 (clo PB) (.mk k n s t l) (itoa n) := by
  intro v l0 W hT hS _ hlen
  obtain ⟨A, cap, rfl, hR, hk, hn, hs, ht⟩ := hT.parts
  have HN := Lib.hid hn
  have HEV := Lib.hid hE
  clear hE
  have hmx := hR.max
  unfold maxLen at hmx
  have hcap := hR.cap
  obtain ⟨W1, hW1⟩ : ∃ W1, W1 = W.alloc (.cells #[.int .i8 k, .int .i64 n, .string s, .string t, .slice A l.length cap] 25) := ⟨_, rfl⟩
  have B1 : Below W.heap.size W W1 := by rw [hW1]; exact (Below.refl _ _).alloc (Nat.le_refl _) _
  have g1 : W1.heap[W.heap.size]? = some (.cells #[.int .i8 k, .int .i64 n, .string s, .string t, .slice A l.length cap] 25 (0, 0)) := by rw [hW1]; exact block_alloc _ _
  have hne : W.heap.size ≠ WB := by have := hS.base; have := hS.wb; omega
  have HNE := Lib.hid hne
  have HG1 := Lib.hid g1
  have HS1 := Lib.hid (hS.under B1)
  have HK1 := Lib.hid (Wk.of_below (w0 := w0) (B := B) (WB := WB) B1)
  have HLEN := Lib.hid hlen
  have HR := Lib.hid hR
  clear  hT hS hlen hR B1 g1 hne hk hn hs ht
  show Calls Tryz.prog 39 #[.agg #[.int .i8 k, .int .i64 n, .string s, .string t, .slice A l.length cap], .pointer (some ⟨PB, 0, none⟩)] W _
  go_enter Tryz.func39, Tryz.ntmps39
  go_upto_region 1 with fail
  rw [← hW1]
  clear hW1
  go_upto_region 1 with fail
  have B1D : Below W1.heap.size W1 W1.drew := ⟨rfl, rfl, rfl, Nat.le_refl _, fun _ _ => rfl⟩
  have hS0 : (W1.drew.heap[W.heap.size]? = some (.cells #[.int .i8 k, .int .i64 n, .string s, .string t, .slice A l.length cap] 25 (0, 0))) ∧ W1.drew.heap[PB]? = some (.cells #[.pointer (some ⟨WB, 0, none⟩)] 54 (0, 0)) := ⟨HG1.out, HS1.out.pb⟩
  refine wp_region_held (S := fun V => (V.heap[W.heap.size]? = some (.cells #[.int .i8 k, .int .i64 n, .string s, .string t, .slice A l.length cap] 25 (0, 0))) ∧ V.heap[PB]? = some (.cells #[.pointer (some ⟨WB, 0, none⟩)] 54 (0, 0))) (by kernel_rfl) ?_
  show wpAnyH _ _ _ _ _ _ _ _ W1.drew
  have hSD := HS1.out.under B1D
  have HSD := Lib.hid hSD
  have HKD := Lib.hid (HK1.out.trans (Wk.of_below B1D))
  clear hSD B1D
  generalize W1.drew = D at hS0 HSD HKD ⊢
  refine wpAnyH_take (i := 0) (oi := ⟨some 3, _, _, _, _, _⟩) (v := ?_) rfl (by kernel_rfl) (by kernel_rfl) (by kernel_rfl) (fun _ _ _ h => h) (Or.inl ⟨by kernel_rfl, ?_⟩) (by assumption) ?_; rotate_left; (intro w hSw; (try dsimp only at hSw); have q0 := cell_of_row (i := 0) hSw.2 rfl; go_simp; first | done | with_reducible rfl); (try simp only [Act.put, List.setIfInBounds_toArray, List.set_cons_zero, List.set_cons_succ])
  refine wpAnyH_take (i := 1) (oi := ⟨some 4, _, _, _, _, _⟩) (v := ?_) rfl (by kernel_rfl) (by kernel_rfl) (by kernel_rfl) (fun _ _ _ h => h) (Or.inl ⟨by kernel_rfl, ?_⟩) (by assumption) ?_; rotate_left; (intro w hSw; (try dsimp only at hSw); go_simp; first | done | with_reducible rfl); (try simp only [Act.put, List.setIfInBounds_toArray, List.set_cons_zero, List.set_cons_succ])
  refine wpAnyH_take (i := 2) (oi := ⟨some 5, _, _, _, _, _⟩) (v := ?_) rfl (by kernel_rfl) (by kernel_rfl) (by kernel_rfl) (fun _ _ _ h => h) (Or.inl ⟨by kernel_rfl, ?_⟩) (by assumption) ?_; rotate_left; (intro w hSw; (try dsimp only at hSw); have q1 := cell_of_row (i := 1) hSw.1 rfl; go_simp; first | done | with_reducible rfl); (try simp only [Act.put, List.setIfInBounds_toArray, List.set_cons_zero, List.set_cons_succ])
  refine wpAnyH_ready (rs := [3]) (by kernel_rfl) (by simp) ?_
  refine AllReadyH.cons (o := ⟨some 6, _, _, _, _, _⟩) rfl (fun K hK => ?_) AllReadyH.nil
  rw [if_pos (by rfl)]
  go_simp
  refine (Tryz.strconv_Itoa n HN.out.1 HN.out.2 D (tabBelow_of_tabIs HEV.out.pow _ HSD.out.below)).mono ?_
  rintro e Y ⟨rfl, k9, os9, hY⟩
  have bY : Below D.heap.size D Y := by rw [hY]; exact below_grow _ _ (Nat.le_refl _) _ _
  clear hY
  have hSY : (Y.heap[W.heap.size]? = some (.cells #[.int .i8 k, .int .i64 n, .string s, .string t, .slice A l.length cap] 25 (0, 0))) ∧ Y.heap[PB]? = some (.cells #[.pointer (some ⟨WB, 0, none⟩)] 54 (0, 0)) := ⟨(bY.block _ (heap_lt hS0.1)).trans hS0.1, (bY.block _ (heap_lt hS0.2)).trans hS0.2⟩
  have HSY := Lib.hid (HSD.out.under bY)
  have HKY := Lib.hid (HKD.out.trans (Wk.of_below bY))
  obtain ⟨num, hnum⟩ : ∃ num : ByteArray, num = ⟨(itoa n).toArray⟩ := ⟨_, rfl⟩
  rw [← hnum]
  have hnd : num.data.toList = itoa n := by rw [hnum]
  have HND := Lib.hid hnd
  clear hnum hnd
  clear hS0 bY
  refine hK.out _ _ hSY (fun hSn => ?_)
  clear hK K hSn; (try simp only [Act.put, List.setIfInBounds_toArray, List.set_cons_zero, List.set_cons_succ])
  refine wpAnyH_ready (rs := [4]) (by kernel_rfl) (by simp) ?_
  refine AllReadyH.cons (o := ⟨some 7, _, _, _, _, _⟩) rfl (fun K hK => ?_) AllReadyH.nil
  rw [if_pos (by rfl)]
  go_simp
  have bZ : Below Y.heap.size Y (Y.alloc (.cells #[.string num] 9)) := (Below.refl _ _).alloc (Nat.le_refl _) _
  have hSZ : ((Y.alloc (.cells #[.string num] 9)).heap[W.heap.size]? = some (.cells #[.int .i8 k, .int .i64 n, .string s, .string t, .slice A l.length cap] 25 (0, 0))) ∧ (Y.alloc (.cells #[.string num] 9)).heap[PB]? = some (.cells #[.pointer (some ⟨WB, 0, none⟩)] 54 (0, 0)) := ⟨(bZ.block _ (heap_lt hSY.1)).trans hSY.1, (bZ.block _ (heap_lt hSY.2)).trans hSY.2⟩
  refine hK.out _ _ hSZ (fun hSn => ?_)
  clear hK K hSn; (try simp only [Act.put, List.setIfInBounds_toArray, List.set_cons_zero, List.set_cons_succ])
  refine wpAnyH_ready (rs := [5]) (by kernel_rfl) (by simp) ?_
  refine AllReadyH.cons (o := ⟨some 8, _, _, _, _, _⟩) rfl (fun K hK => ?_) AllReadyH.nil
  rw [if_pos (by rfl)]
  go_simp
  refine (put_row [num] _ (by decide) HSY.out (Nat.le_of_ble_eq_true rfl) (by have h9 := HLEN.out; have h8 := HND.out; simp [catL, h8] at h9 ⊢; omega) rfl rfl).mono ?_
  rintro e W2 ⟨rfl, h, k9⟩
  have HS2 := Lib.hid h
  have HK2 := Lib.hid (HKY.out.trans k9)
  have hS2 : (W2.heap[W.heap.size]? = some (.cells #[.int .i8 k, .int .i64 n, .string s, .string t, .slice A l.length cap] 25 (0, 0))) ∧ W2.heap[PB]? = some (.cells #[.pointer (some ⟨WB, 0, none⟩)] 54 (0, 0)) := ⟨k9.block hSY.1 HNE.out node_ne_u8, h.pb⟩
  clear h k9 hSY hSZ bZ
  refine hK.out _ _ hS2 (fun hSn => ?_)
  clear hK K hSn; (try simp only [Act.put, List.setIfInBounds_toArray, List.set_cons_zero, List.set_cons_succ])
  refine wpAnyH_done (by kernel_rfl) ?_ _
  clear hS2
  go_wp2_with fail
  go_end0
  exact ⟨rfl, cast (congrArg (fun z => WSt w0 B WB PB z _) (by have h8 := HND.out; simp [catL, h8])) HS2.out, HK2.out⟩

set_option maxHeartbeats 4000000 in
set_option maxRecDepth 100000 in
theorem fm_ref {w0 : World} {B WB PB : Nat} (k : Int) (n : Int) (s t : ByteArray) (l : List Tm) (hE : Env7 w0) : CallW w0 B WB PB (fun _ => True) 51 (clo PB) (.mk k n s t l) ([102, 117, 110, 32] ++ (s.data.toList ++ ([58] ++ (t.data.toList ++ ([47] ++ itoa n))))) := by
  intro v l0 W hT hS _ hlen
  obtain ⟨A, cap, rfl, hR, hk, hn, hs, ht⟩ := hT.parts
  have HN := Lib.hid hn
  have HEV := Lib.hid hE
  clear hE
  have hmx := hR.max
  unfold maxLen at hmx
  have hcap := hR.cap
  obtain ⟨W1, hW1⟩ : ∃ W1, W1 = W.alloc (.cells #[.int .i8 k, .int .i64 n, .string s, .string t, .slice A l.length cap] 25) := ⟨_, rfl⟩
  have B1 : Below W.heap.size W W1 := by rw [hW1]; exact (Below.refl _ _).alloc (Nat.le_refl _) _
  have g1 : W1.heap[W.heap.size]? = some (.cells #[.int .i8 k, .int .i64 n, .string s, .string t, .slice A l.length cap] 25 (0, 0)) := by rw [hW1]; exact block_alloc _ _
  have hne : W.heap.size ≠ WB := by have := hS.base; have := hS.wb; omega
  have HNE := Lib.hid hne
  have HG1 := Lib.hid g1
  have HS1 := Lib.hid (hS.under B1)
  have HK1 := Lib.hid (Wk.of_below (w0 := w0) (B := B) (WB := WB) B1)
  have HLEN := Lib.hid hlen
  have HR := Lib.hid hR
  clear  hT hS hlen hR B1 g1 hne hk hn hs ht
  show Calls Tryz.prog 51 #[.agg #[.int .i8 k, .int .i64 n, .string s, .string t, .slice A l.length cap], .pointer (some ⟨PB, 0, none⟩)] W _
  go_enter Tryz.func51, Tryz.ntmps51
  go_upto_region 1 with fail
  rw [← hW1]
  clear hW1
  go_upto_region 1 with fail
  have B1D : Below W1.heap.size W1 W1.drew := ⟨rfl, rfl, rfl, Nat.le_refl _, fun _ _ => rfl⟩
  have hS0 : (W1.drew.heap[W.heap.size]? = some (.cells #[.int .i8 k, .int .i64 n, .string s, .string t, .slice A l.length cap] 25 (0, 0))) ∧ W1.drew.heap[PB]? = some (.cells #[.pointer (some ⟨WB, 0, none⟩)] 54 (0, 0)) := ⟨HG1.out, HS1.out.pb⟩
  refine wp_region_held (S := fun V => (V.heap[W.heap.size]? = some (.cells #[.int .i8 k, .int .i64 n, .string s, .string t, .slice A l.length cap] 25 (0, 0))) ∧ V.heap[PB]? = some (.cells #[.pointer (some ⟨WB, 0, none⟩)] 54 (0, 0))) (by kernel_rfl) ?_
  show wpAnyH _ _ _ _ _ _ _ _ W1.drew
  have hSD := HS1.out.under B1D
  have HSD := Lib.hid hSD
  have HKD := Lib.hid (HK1.out.trans (Wk.of_below B1D))
  clear hSD B1D
  generalize W1.drew = D at hS0 HSD HKD ⊢
  refine wpAnyH_take (i := 0) (oi := ⟨some 3, _, _, _, _, _⟩) (v := ?_) rfl (by kernel_rfl) (by kernel_rfl) (by kernel_rfl) (fun _ _ _ h => h) (Or.inl ⟨by kernel_rfl, ?_⟩) (by assumption) ?_; rotate_left; (intro w hSw; (try dsimp only at hSw); have q0 := cell_of_row (i := 0) hSw.2 rfl; go_simp; first | done | with_reducible rfl); (try simp only [Act.put, List.setIfInBounds_toArray, List.set_cons_zero, List.set_cons_succ])
  refine wpAnyH_take (i := 1) (oi := ⟨some 4, _, _, _, _, _⟩) (v := ?_) rfl (by kernel_rfl) (by kernel_rfl) (by kernel_rfl) (fun _ _ _ h => h) (Or.inl ⟨by kernel_rfl, ?_⟩) (by assumption) ?_; rotate_left; (intro w hSw; (try dsimp only at hSw); go_simp; first | done | with_reducible rfl); (try simp only [Act.put, List.setIfInBounds_toArray, List.set_cons_zero, List.set_cons_succ])
  refine wpAnyH_take (i := 2) (oi := ⟨some 5, _, _, _, _, _⟩) (v := ?_) rfl (by kernel_rfl) (by kernel_rfl) (by kernel_rfl) (fun _ _ _ h => h) (Or.inl ⟨by kernel_rfl, ?_⟩) (by assumption) ?_; rotate_left; (intro w hSw; (try dsimp only at hSw); have q2 := cell_of_row (i := 2) hSw.1 rfl; go_simp; first | done | with_reducible rfl); (try simp only [Act.put, List.setIfInBounds_toArray, List.set_cons_zero, List.set_cons_succ])
  refine wpAnyH_take (i := 3) (oi := ⟨some 6, _, _, _, _, _⟩) (v := ?_) rfl (by kernel_rfl) (by kernel_rfl) (by kernel_rfl) (fun _ _ _ h => h) (Or.inl ⟨by kernel_rfl, ?_⟩) (by assumption) ?_; rotate_left; (intro w hSw; (try dsimp only at hSw); go_simp; first | done | with_reducible rfl); (try simp only [Act.put, List.setIfInBounds_toArray, List.set_cons_zero, List.set_cons_succ])
  refine wpAnyH_take (i := 4) (oi := ⟨some 7, _, _, _, _, _⟩) (v := ?_) rfl (by kernel_rfl) (by kernel_rfl) (by kernel_rfl) (fun _ _ _ h => h) (Or.inl ⟨by kernel_rfl, ?_⟩) (by assumption) ?_; rotate_left; (intro w hSw; (try dsimp only at hSw); have q3 := cell_of_row (i := 3) hSw.1 rfl; go_simp; first | done | with_reducible rfl); (try simp only [Act.put, List.setIfInBounds_toArray, List.set_cons_zero, List.set_cons_succ])
  refine wpAnyH_take (i := 5) (oi := ⟨some 8, _, _, _, _, _⟩) (v := ?_) rfl (by kernel_rfl) (by kernel_rfl) (by kernel_rfl) (fun _ _ _ h => h) (Or.inl ⟨by kernel_rfl, ?_⟩) (by assumption) ?_; rotate_left; (intro w hSw; (try dsimp only at hSw); go_simp; first | done | with_reducible rfl); (try simp only [Act.put, List.setIfInBounds_toArray, List.set_cons_zero, List.set_cons_succ])
  refine wpAnyH_take (i := 6) (oi := ⟨some 9, _, _, _, _, _⟩) (v := ?_) rfl (by kernel_rfl) (by kernel_rfl) (by kernel_rfl) (fun _ _ _ h => h) (Or.inl ⟨by kernel_rfl, ?_⟩) (by assumption) ?_; rotate_left; (intro w hSw; (try dsimp only at hSw); have q1 := cell_of_row (i := 1) hSw.1 rfl; go_simp; first | done | with_reducible rfl); (try simp only [Act.put, List.setIfInBounds_toArray, List.set_cons_zero, List.set_cons_succ])
  refine wpAnyH_ready (rs := [7]) (by kernel_rfl) (by simp) ?_
  refine AllReadyH.cons (o := ⟨some 10, _, _, _, _, _⟩) rfl (fun K hK => ?_) AllReadyH.nil
  rw [if_pos (by rfl)]
  go_simp
  refine (Tryz.strconv_Itoa n HN.out.1 HN.out.2 D (tabBelow_of_tabIs HEV.out.pow _ HSD.out.below)).mono ?_
  rintro e Y ⟨rfl, k9, os9, hY⟩
  have bY : Below D.heap.size D Y := by rw [hY]; exact below_grow _ _ (Nat.le_refl _) _ _
  clear hY
  have hSY : (Y.heap[W.heap.size]? = some (.cells #[.int .i8 k, .int .i64 n, .string s, .string t, .slice A l.length cap] 25 (0, 0))) ∧ Y.heap[PB]? = some (.cells #[.pointer (some ⟨WB, 0, none⟩)] 54 (0, 0)) := ⟨(bY.block _ (heap_lt hS0.1)).trans hS0.1, (bY.block _ (heap_lt hS0.2)).trans hS0.2⟩
  have HSY := Lib.hid (HSD.out.under bY)
  have HKY := Lib.hid (HKD.out.trans (Wk.of_below bY))
  obtain ⟨num, hnum⟩ : ∃ num : ByteArray, num = ⟨(itoa n).toArray⟩ := ⟨_, rfl⟩
  rw [← hnum]
  have hnd : num.data.toList = itoa n := by rw [hnum]
  have HND := Lib.hid hnd
  clear hnum hnd
  clear hS0 bY
  refine hK.out _ _ hSY (fun hSn => ?_)
  clear hK K hSn; (try simp only [Act.put, List.setIfInBounds_toArray, List.set_cons_zero, List.set_cons_succ])
  refine wpAnyH_ready (rs := [8]) (by kernel_rfl) (by simp) ?_
  refine AllReadyH.cons (o := ⟨some 11, _, _, _, _, _⟩) rfl (fun K hK => ?_) AllReadyH.nil
  rw [if_pos (by rfl)]
  go_simp
  have bZ : Below Y.heap.size Y (Y.alloc (.cells #[.string ⟨#[102, 117, 110, 32]⟩, .string s, .string ⟨#[58]⟩, .string t, .string ⟨#[47]⟩, .string num] 9)) := (Below.refl _ _).alloc (Nat.le_refl _) _
  have hSZ : ((Y.alloc (.cells #[.string ⟨#[102, 117, 110, 32]⟩, .string s, .string ⟨#[58]⟩, .string t, .string ⟨#[47]⟩, .string num] 9)).heap[W.heap.size]? = some (.cells #[.int .i8 k, .int .i64 n, .string s, .string t, .slice A l.length cap] 25 (0, 0))) ∧ (Y.alloc (.cells #[.string ⟨#[102, 117, 110, 32]⟩, .string s, .string ⟨#[58]⟩, .string t, .string ⟨#[47]⟩, .string num] 9)).heap[PB]? = some (.cells #[.pointer (some ⟨WB, 0, none⟩)] 54 (0, 0)) := ⟨(bZ.block _ (heap_lt hSY.1)).trans hSY.1, (bZ.block _ (heap_lt hSY.2)).trans hSY.2⟩
  refine hK.out _ _ hSZ (fun hSn => ?_)
  clear hK K hSn; (try simp only [Act.put, List.setIfInBounds_toArray, List.set_cons_zero, List.set_cons_succ])
  refine wpAnyH_ready (rs := [9]) (by kernel_rfl) (by simp) ?_
  refine AllReadyH.cons (o := ⟨some 12, _, _, _, _, _⟩) rfl (fun K hK => ?_) AllReadyH.nil
  rw [if_pos (by rfl)]
  go_simp
  refine (put_row [⟨#[102, 117, 110, 32]⟩, s, ⟨#[58]⟩, t, ⟨#[47]⟩, num] _ (by decide) HSY.out (Nat.le_of_ble_eq_true rfl) (by have h9 := HLEN.out; have h8 := HND.out; simp [catL, h8] at h9 ⊢; omega) rfl rfl).mono ?_
  rintro e W2 ⟨rfl, h, k9⟩
  have HS2 := Lib.hid h
  have HK2 := Lib.hid (HKY.out.trans k9)
  have hS2 : (W2.heap[W.heap.size]? = some (.cells #[.int .i8 k, .int .i64 n, .string s, .string t, .slice A l.length cap] 25 (0, 0))) ∧ W2.heap[PB]? = some (.cells #[.pointer (some ⟨WB, 0, none⟩)] 54 (0, 0)) := ⟨k9.block hSY.1 HNE.out node_ne_u8, h.pb⟩
  clear h k9 hSY hSZ bZ
  refine hK.out _ _ hS2 (fun hSn => ?_)
  clear hK K hSn; (try simp only [Act.put, List.setIfInBounds_toArray, List.set_cons_zero, List.set_cons_succ])
  refine wpAnyH_done (by kernel_rfl) ?_ _
  clear hS2
  go_wp2_with fail
  go_end0
  exact ⟨rfl, cast (congrArg (fun z => WSt w0 B WB PB z _) (by have h8 := HND.out; simp [catL, h8])) HS2.out, HK2.out⟩

set_option maxHeartbeats 4000000 in
set_option maxRecDepth 100000 in
theorem node_m {w0 : World} {B WB PB : Nat} (j : Nat) (n : Int) (s t : ByteArray) (l : List Tm) (g : Nat) (hj : j < 22) (hcell : ∀ p v, (wCells WB PB p v)[2 + j]? = some (.func (.func g) #[.pointer (some ⟨WB, 0, none⟩)] #[])) (hent : ∀ args w, (callFunc g args).run Tryz.prog w = .ok (.enter g args) w) (TX : List UInt8) (hC : CallW w0 B WB PB (fun _ => True) g (mth WB) (.mk j n s t l) TX) : CallW w0 B WB PB (fun _ => True) 57 (mth WB) (.mk j n s t l) (TX) := by
  intro v l0 W hT hS _ hlen
  obtain ⟨A, cap, rfl, hR, hk, hn, hs, ht⟩ := hT.parts
  have HT := Lib.hid hT
  have HC := Lib.hid hC
  have HEN := Lib.hid hent
  have HCE := Lib.hid hcell
  clear hC hent hcell
  have hmx := hR.max
  unfold maxLen at hmx
  have hcap := hR.cap
  obtain ⟨W1, hW1⟩ : ∃ W1, W1 = W.alloc (.cells #[.int .i8 j, .int .i64 n, .string s, .string t, .slice A l.length cap] 25) := ⟨_, rfl⟩
  have B1 : Below W.heap.size W W1 := by rw [hW1]; exact (Below.refl _ _).alloc (Nat.le_refl _) _
  have g1 : W1.heap[W.heap.size]? = some (.cells #[.int .i8 j, .int .i64 n, .string s, .string t, .slice A l.length cap] 25 (0, 0)) := by rw [hW1]; exact block_alloc _ _
  have hne : W.heap.size ≠ WB := by have := hS.base; have := hS.wb; omega
  have HNE := Lib.hid hne
  have HG1 := Lib.hid g1
  have HS1 := Lib.hid (hS.under B1)
  have HK1 := Lib.hid (Wk.of_below (w0 := w0) (B := B) (WB := WB) B1)
  have HLEN := Lib.hid hlen
  have HR := Lib.hid hR
  clear  hT hS hlen hR B1 g1 hne hk hn hs ht
  show Calls Tryz.prog 57 #[.pointer (some ⟨WB, 0, none⟩), .agg #[.int .i8 j, .int .i64 n, .string s, .string t, .slice A l.length cap]] W _
  go_enter Tryz.func57, Tryz.ntmps57
  go_upto_region 1 with fail
  rw [← hW1]
  clear hW1
  have h0 : (0 : Int) ≤ (j : Int) := by omega
  have h1 : (j : Int) < 22 := by omega
  have hce : W1.cell? ⟨WB, 2 + j, none⟩ = some (.func (.func g) #[.pointer (some ⟨WB, 0, none⟩)] #[]) := by
    obtain ⟨v, p, e1, _⟩ := HS1.out.at_
    exact cell_of_row e1 (HCE.out p v)
  go_upto_region 1 with fail
  have B1D : Below W1.heap.size W1 W1.drew := ⟨rfl, rfl, rfl, Nat.le_refl _, fun _ _ => rfl⟩
  have hS0 : W1.drew.heap[W.heap.size]? = some (.cells #[.int .i8 j, .int .i64 n, .string s, .string t, .slice A l.length cap] 25 (0, 0)) ∧ W1.drew.cell? ⟨WB, 2 + j, none⟩ = some (.func (.func g) #[.pointer (some ⟨WB, 0, none⟩)] #[]) := ⟨HG1.out, hce⟩
  refine wp_region_held (S := fun V => V.heap[W.heap.size]? = some (.cells #[.int .i8 j, .int .i64 n, .string s, .string t, .slice A l.length cap] 25 (0, 0)) ∧ V.cell? ⟨WB, 2 + j, none⟩ = some (.func (.func g) #[.pointer (some ⟨WB, 0, none⟩)] #[])) (by kernel_rfl) ?_
  show wpAnyH _ _ _ _ _ _ _ _ W1.drew
  have hSD := HS1.out.under B1D
  have HSD := Lib.hid hSD
  have HKD := Lib.hid (HK1.out.trans (Wk.of_below B1D))
  clear hSD B1D
  generalize W1.drew = D at hS0 HSD HKD ⊢
  clear hce
  refine wpAnyH_take (i := 0) (oi := ⟨some 4, _, _, _, _, _⟩) (v := ?_) rfl (by kernel_rfl) (by kernel_rfl) (by kernel_rfl) (fun _ _ _ h => h) (Or.inl ⟨by kernel_rfl, ?_⟩) (by assumption) ?_; rotate_left; (intro w hSw; (try dsimp only at hSw); go_simp; first | done | with_reducible rfl); (try simp only [Act.put, List.setIfInBounds_toArray, List.set_cons_zero, List.set_cons_succ])
  refine wpAnyH_take (i := 1) (oi := ⟨some 5, _, _, _, _, _⟩) (v := ?_) rfl (by kernel_rfl) (by kernel_rfl) (by kernel_rfl) (fun _ _ _ h => h) (Or.inl ⟨by kernel_rfl, ?_⟩) (by assumption) ?_; rotate_left; (intro w hSw; (try dsimp only at hSw); go_simp; first | done | with_reducible rfl); (try simp only [Act.put, List.setIfInBounds_toArray, List.set_cons_zero, List.set_cons_succ])
  refine wpAnyH_take (i := 2) (oi := ⟨some 6, _, _, _, _, _⟩) (v := ?_) rfl (by kernel_rfl) (by kernel_rfl) (by kernel_rfl) (fun _ _ _ h => h) (Or.inl ⟨by kernel_rfl, ?_⟩) (by assumption) ?_; rotate_left; (intro w hSw; (try dsimp only at hSw); have q0 := cell_of_row (i := 0) hSw.1 rfl; go_simp; first | done | with_reducible rfl); (try simp only [Act.put, List.setIfInBounds_toArray, List.set_cons_zero, List.set_cons_succ])
  refine wpAnyH_take (i := 3) (oi := ⟨some 7, _, _, _, _, _⟩) (v := ?_) rfl (by kernel_rfl) (by kernel_rfl) (by kernel_rfl) (fun _ _ _ h => h) (Or.inl ⟨by kernel_rfl, ?_⟩) (by assumption) ?_; rotate_left; (intro w hSw; (try dsimp only at hSw); go_simp; first | done | with_reducible rfl); (try simp only [Act.put, List.setIfInBounds_toArray, List.set_cons_zero, List.set_cons_succ])
  refine wpAnyH_take (i := 4) (oi := ⟨some 8, _, _, _, _, _⟩) (v := ?_) rfl (by kernel_rfl) (by kernel_rfl) (by kernel_rfl) (fun _ _ _ h => h) (Or.inl ⟨by kernel_rfl, ?_⟩) (by assumption) ?_; rotate_left; (intro w hSw; (try dsimp only at hSw); go_simp; first | done | with_reducible rfl); (try simp only [Act.put, List.setIfInBounds_toArray, List.set_cons_zero, List.set_cons_succ])
  refine wpAnyH_take (i := 5) (oi := ⟨some 9, _, _, _, _, _⟩) (v := ?_) rfl (by kernel_rfl) (by kernel_rfl) (by kernel_rfl) (fun _ _ _ h => h) (Or.inl ⟨by kernel_rfl, ?_⟩) (by assumption) ?_; rotate_left; (intro w hSw; (try dsimp only at hSw); go_simp; first | done | with_reducible rfl); (try simp only [Act.put, List.setIfInBounds_toArray, List.set_cons_zero, List.set_cons_succ])
  refine wpAnyH_take (i := 6) (oi := ⟨some 10, _, _, _, _, _⟩) (v := ?_) rfl (by kernel_rfl) (by kernel_rfl) (by kernel_rfl) (fun _ _ _ h => h) (Or.inl ⟨by kernel_rfl, ?_⟩) (by assumption) ?_; rotate_left; (intro w hSw; (try dsimp only at hSw); have q6 := hSw.2; go_simp; first | done | with_reducible rfl); (try simp only [Act.put, List.setIfInBounds_toArray, List.set_cons_zero, List.set_cons_succ])
  refine wpAnyH_take (i := 7) (oi := ⟨some 11, _, _, _, _, _⟩) (v := ?_) rfl (by kernel_rfl) (by kernel_rfl) (by kernel_rfl) (fun _ _ _ h => h) (Or.inl ⟨by kernel_rfl, ?_⟩) (by assumption) ?_; rotate_left; (intro w hSw; (try dsimp only at hSw); have q0 := cell_of_row (i := 0) hSw.1 rfl; have q1 := cell_of_row (i := 1) hSw.1 rfl; have q2 := cell_of_row (i := 2) hSw.1 rfl; have q3 := cell_of_row (i := 3) hSw.1 rfl; have q4 := cell_of_row (i := 4) hSw.1 rfl; go_simp; first | done | with_reducible rfl); (try simp only [Act.put, List.setIfInBounds_toArray, List.set_cons_zero, List.set_cons_succ])
  have hen := HEN.out #[.pointer (some ⟨WB, 0, none⟩), (.agg #[.int .i8 j, .int .i64 n, .string s, .string t, .slice A l.length cap])] D
  refine wpAnyH_ready (rs := [8]) (by kernel_rfl) (by simp) ?_
  refine AllReadyH.cons (o := ⟨some 12, _, _, _, _, _⟩) rfl (fun K hK => ?_) AllReadyH.nil
  rw [if_pos (by rfl)]
  go_simp
  refine (HC.out _ _ D HT.out HSD.out trivial HLEN.out).mono ?_
  rintro e W2 ⟨rfl, h, k9⟩
  have HS2 := Lib.hid h
  have HK2 := Lib.hid (HKD.out.trans k9)
  have hS2 : W2.heap[W.heap.size]? = some (.cells #[.int .i8 j, .int .i64 n, .string s, .string t, .slice A l.length cap] 25 (0, 0)) ∧ W2.cell? ⟨WB, 2 + j, none⟩ = some (.func (.func g) #[.pointer (some ⟨WB, 0, none⟩)] #[]) := ⟨k9.block hS0.1 HNE.out node_ne_u8, by
    obtain ⟨v, p, e1, _⟩ := h.at_
    exact cell_of_row e1 (HCE.out p v)⟩
  clear h k9 hS0
  refine hK.out _ _ hS2 (fun hSn => ?_)
  clear hK K hSn; (try simp only [Act.put, List.setIfInBounds_toArray, List.set_cons_zero, List.set_cons_succ])
  refine wpAnyH_done (by kernel_rfl) ?_ _
  clear hS2
  go_wp2_with fail
  go_end0
  exact ⟨rfl, HS2.out, HK2.out⟩

set_option maxHeartbeats 4000000 in
set_option maxRecDepth 100000 in
theorem node_c {w0 : World} {B WB PB : Nat} (j : Nat) (n : Int) (s t : ByteArray) (l : List Tm) (g : Nat) (hj : j < 22) (hcell : ∀ p v, (wCells WB PB p v)[2 + j]? = some (.func (.func g) #[] #[.pointer (some ⟨PB, 0, none⟩)])) (hent : ∀ args w, (callFunc g args).run Tryz.prog w = .ok (.enter g args) w) (TX : List UInt8) (hC : CallW w0 B WB PB (fun _ => True) g (clo PB) (.mk j n s t l) TX) : CallW w0 B WB PB (fun _ => True) 57 (mth WB) (.mk j n s t l) (TX) := by
  intro v l0 W hT hS _ hlen
  obtain ⟨A, cap, rfl, hR, hk, hn, hs, ht⟩ := hT.parts
  have HT := Lib.hid hT
  have HC := Lib.hid hC
  have HEN := Lib.hid hent
  have HCE := Lib.hid hcell
  clear hC hent hcell
  have hmx := hR.max
  unfold maxLen at hmx
  have hcap := hR.cap
  obtain ⟨W1, hW1⟩ : ∃ W1, W1 = W.alloc (.cells #[.int .i8 j, .int .i64 n, .string s, .string t, .slice A l.length cap] 25) := ⟨_, rfl⟩
  have B1 : Below W.heap.size W W1 := by rw [hW1]; exact (Below.refl _ _).alloc (Nat.le_refl _) _
  have g1 : W1.heap[W.heap.size]? = some (.cells #[.int .i8 j, .int .i64 n, .string s, .string t, .slice A l.length cap] 25 (0, 0)) := by rw [hW1]; exact block_alloc _ _
  have hne : W.heap.size ≠ WB := by have := hS.base; have := hS.wb; omega
  have HNE := Lib.hid hne
  have HG1 := Lib.hid g1
  have HS1 := Lib.hid (hS.under B1)
  have HK1 := Lib.hid (Wk.of_below (w0 := w0) (B := B) (WB := WB) B1)
  have HLEN := Lib.hid hlen
  have HR := Lib.hid hR
  clear  hT hS hlen hR B1 g1 hne hk hn hs ht
  show Calls Tryz.prog 57 #[.pointer (some ⟨WB, 0, none⟩), .agg #[.int .i8 j, .int .i64 n, .string s, .string t, .slice A l.length cap]] W _
  go_enter Tryz.func57, Tryz.ntmps57
  go_upto_region 1 with fail
  rw [← hW1]
  clear hW1
  have h0 : (0 : Int) ≤ (j : Int) := by omega
  have h1 : (j : Int) < 22 := by omega
  have hce : W1.cell? ⟨WB, 2 + j, none⟩ = some (.func (.func g) #[] #[.pointer (some ⟨PB, 0, none⟩)]) := by
    obtain ⟨v, p, e1, _⟩ := HS1.out.at_
    exact cell_of_row e1 (HCE.out p v)
  go_upto_region 1 with fail
  have B1D : Below W1.heap.size W1 W1.drew := ⟨rfl, rfl, rfl, Nat.le_refl _, fun _ _ => rfl⟩
  have hS0 : W1.drew.heap[W.heap.size]? = some (.cells #[.int .i8 j, .int .i64 n, .string s, .string t, .slice A l.length cap] 25 (0, 0)) ∧ W1.drew.cell? ⟨WB, 2 + j, none⟩ = some (.func (.func g) #[] #[.pointer (some ⟨PB, 0, none⟩)]) := ⟨HG1.out, hce⟩
  refine wp_region_held (S := fun V => V.heap[W.heap.size]? = some (.cells #[.int .i8 j, .int .i64 n, .string s, .string t, .slice A l.length cap] 25 (0, 0)) ∧ V.cell? ⟨WB, 2 + j, none⟩ = some (.func (.func g) #[] #[.pointer (some ⟨PB, 0, none⟩)])) (by kernel_rfl) ?_
  show wpAnyH _ _ _ _ _ _ _ _ W1.drew
  have hSD := HS1.out.under B1D
  have HSD := Lib.hid hSD
  have HKD := Lib.hid (HK1.out.trans (Wk.of_below B1D))
  clear hSD B1D
  generalize W1.drew = D at hS0 HSD HKD ⊢
  clear hce
  refine wpAnyH_take (i := 0) (oi := ⟨some 4, _, _, _, _, _⟩) (v := ?_) rfl (by kernel_rfl) (by kernel_rfl) (by kernel_rfl) (fun _ _ _ h => h) (Or.inl ⟨by kernel_rfl, ?_⟩) (by assumption) ?_; rotate_left; (intro w hSw; (try dsimp only at hSw); go_simp; first | done | with_reducible rfl); (try simp only [Act.put, List.setIfInBounds_toArray, List.set_cons_zero, List.set_cons_succ])
  refine wpAnyH_take (i := 1) (oi := ⟨some 5, _, _, _, _, _⟩) (v := ?_) rfl (by kernel_rfl) (by kernel_rfl) (by kernel_rfl) (fun _ _ _ h => h) (Or.inl ⟨by kernel_rfl, ?_⟩) (by assumption) ?_; rotate_left; (intro w hSw; (try dsimp only at hSw); go_simp; first | done | with_reducible rfl); (try simp only [Act.put, List.setIfInBounds_toArray, List.set_cons_zero, List.set_cons_succ])
  refine wpAnyH_take (i := 2) (oi := ⟨some 6, _, _, _, _, _⟩) (v := ?_) rfl (by kernel_rfl) (by kernel_rfl) (by kernel_rfl) (fun _ _ _ h => h) (Or.inl ⟨by kernel_rfl, ?_⟩) (by assumption) ?_; rotate_left; (intro w hSw; (try dsimp only at hSw); have q0 := cell_of_row (i := 0) hSw.1 rfl; go_simp; first | done | with_reducible rfl); (try simp only [Act.put, List.setIfInBounds_toArray, List.set_cons_zero, List.set_cons_succ])
  refine wpAnyH_take (i := 3) (oi := ⟨some 7, _, _, _, _, _⟩) (v := ?_) rfl (by kernel_rfl) (by kernel_rfl) (by kernel_rfl) (fun _ _ _ h => h) (Or.inl ⟨by kernel_rfl, ?_⟩) (by assumption) ?_; rotate_left; (intro w hSw; (try dsimp only at hSw); go_simp; first | done | with_reducible rfl); (try simp only [Act.put, List.setIfInBounds_toArray, List.set_cons_zero, List.set_cons_succ])
  refine wpAnyH_take (i := 4) (oi := ⟨some 8, _, _, _, _, _⟩) (v := ?_) rfl (by kernel_rfl) (by kernel_rfl) (by kernel_rfl) (fun _ _ _ h => h) (Or.inl ⟨by kernel_rfl, ?_⟩) (by assumption) ?_; rotate_left; (intro w hSw; (try dsimp only at hSw); go_simp; first | done | with_reducible rfl); (try simp only [Act.put, List.setIfInBounds_toArray, List.set_cons_zero, List.set_cons_succ])
  refine wpAnyH_take (i := 5) (oi := ⟨some 9, _, _, _, _, _⟩) (v := ?_) rfl (by kernel_rfl) (by kernel_rfl) (by kernel_rfl) (fun _ _ _ h => h) (Or.inl ⟨by kernel_rfl, ?_⟩) (by assumption) ?_; rotate_left; (intro w hSw; (try dsimp only at hSw); go_simp; first | done | with_reducible rfl); (try simp only [Act.put, List.setIfInBounds_toArray, List.set_cons_zero, List.set_cons_succ])
  refine wpAnyH_take (i := 6) (oi := ⟨some 10, _, _, _, _, _⟩) (v := ?_) rfl (by kernel_rfl) (by kernel_rfl) (by kernel_rfl) (fun _ _ _ h => h) (Or.inl ⟨by kernel_rfl, ?_⟩) (by assumption) ?_; rotate_left; (intro w hSw; (try dsimp only at hSw); have q6 := hSw.2; go_simp; first | done | with_reducible rfl); (try simp only [Act.put, List.setIfInBounds_toArray, List.set_cons_zero, List.set_cons_succ])
  refine wpAnyH_take (i := 7) (oi := ⟨some 11, _, _, _, _, _⟩) (v := ?_) rfl (by kernel_rfl) (by kernel_rfl) (by kernel_rfl) (fun _ _ _ h => h) (Or.inl ⟨by kernel_rfl, ?_⟩) (by assumption) ?_; rotate_left; (intro w hSw; (try dsimp only at hSw); have q0 := cell_of_row (i := 0) hSw.1 rfl; have q1 := cell_of_row (i := 1) hSw.1 rfl; have q2 := cell_of_row (i := 2) hSw.1 rfl; have q3 := cell_of_row (i := 3) hSw.1 rfl; have q4 := cell_of_row (i := 4) hSw.1 rfl; go_simp; first | done | with_reducible rfl); (try simp only [Act.put, List.setIfInBounds_toArray, List.set_cons_zero, List.set_cons_succ])
  have hen := HEN.out #[(.agg #[.int .i8 j, .int .i64 n, .string s, .string t, .slice A l.length cap]), .pointer (some ⟨PB, 0, none⟩)] D
  refine wpAnyH_ready (rs := [8]) (by kernel_rfl) (by simp) ?_
  refine AllReadyH.cons (o := ⟨some 12, _, _, _, _, _⟩) rfl (fun K hK => ?_) AllReadyH.nil
  rw [if_pos (by rfl)]
  go_simp
  refine (HC.out _ _ D HT.out HSD.out trivial HLEN.out).mono ?_
  rintro e W2 ⟨rfl, h, k9⟩
  have HS2 := Lib.hid h
  have HK2 := Lib.hid (HKD.out.trans k9)
  have hS2 : W2.heap[W.heap.size]? = some (.cells #[.int .i8 j, .int .i64 n, .string s, .string t, .slice A l.length cap] 25 (0, 0)) ∧ W2.cell? ⟨WB, 2 + j, none⟩ = some (.func (.func g) #[] #[.pointer (some ⟨PB, 0, none⟩)]) := ⟨k9.block hS0.1 HNE.out node_ne_u8, by
    obtain ⟨v, p, e1, _⟩ := h.at_
    exact cell_of_row e1 (HCE.out p v)⟩
  clear h k9 hS0
  refine hK.out _ _ hS2 (fun hSn => ?_)
  clear hK K hSn; (try simp only [Act.put, List.setIfInBounds_toArray, List.set_cons_zero, List.set_cons_succ])
  refine wpAnyH_done (by kernel_rfl) ?_ _
  clear hS2
  go_wp2_with fail
  go_end0
  exact ⟨rfl, HS2.out, HK2.out⟩
end Go.Proofs.YtcallgoglnkkiaaGreatDoor
set_option linter.unusedVariables false
set_option linter.unusedSimpArgs false
namespace Go.Proofs.YtcallgoglnkkiaaGreatDoor
open Go.RowKit Go.Lib

set_option maxHeartbeats 4000000 in
set_option maxRecDepth 100000 in
theorem strB_any {w0 : World} {B WB PB : Nat} {l : List UInt8} {w : World} (h : WSt w0 B WB PB l w) (hlen : l.length ≤ 140737488355328) :
    Calls Tryz.prog 58 #[.pointer (some ⟨WB, 0, none⟩)] w fun e w' => e = .returned (.string ⟨l.toArray⟩) ∧ Below w0.heap.size w0 w' := by
  obtain ⟨v, p, hbk, hown, -, hnil⟩ := h.at_
  have hb0 := h.below
  have hb1 := h.wb
  by_cases h0 : l = []
  · have hv := hnil h0
    subst hv
    subst h0
    have c0 : w.cell? ⟨WB, 1, none⟩ = some (.slice none 0 0) := cell_of_row hbk (wget1 _ _ _ _)
    have c1 : w.drew.cell? ⟨WB, 1, none⟩ = some (.slice none 0 0) := c0
    have hUS : (Builtin.unsafeString_ #[84, 3] 9 #[.pointer none, .int .i64 0]).run Tryz.prog w.drew = .ok (.string .empty) w.drew := Lib.run_unsafeString_none w.drew _ _ _ none
    have hSDw : ∀ V : World, (Builtin.unsafeSliceData_ #[56] 84 #[.slice none 0 0]).run Tryz.prog V = .ok (.pointer none) V := fun _ => rfl
    have hbD : Below w0.heap.size w0 w.drew := hb0.drew
    clear h hown hnil hbk c0
    go_enter Tryz.func58, Tryz.ntmps58
    go_upto_region 1 with fail
    have BD : Below w.heap.size w w.drew := ⟨rfl, rfl, rfl, Nat.le_refl _, fun _ _ => rfl⟩
    have hS0 : w.drew.cell? ⟨WB, 1, none⟩ = some (.slice none 0 0) := c1
    refine wp_region_held (S := fun V => V.cell? ⟨WB, 1, none⟩ = some (.slice none 0 0)) (by kernel_rfl) ?_
    show wpAnyH _ _ _ _ _ _ _ _ w.drew
    generalize w.drew = D at hS0 BD hUS hbD ⊢
    refine wpAnyH_take (i := 0) (oi := ⟨some 3, _, _, _, _, _⟩) (v := ?_) rfl (by kernel_rfl) (by kernel_rfl) (by kernel_rfl) (fun _ _ _ h => h) (Or.inl ⟨by kernel_rfl, ?_⟩) (by assumption) ?_; rotate_left; (intro w hSw; (try dsimp only at hSw); go_simp; first | done | with_reducible rfl); (try simp only [Act.put, List.setIfInBounds_toArray, List.set_cons_zero, List.set_cons_succ])
    refine wpAnyH_take (i := 1) (oi := ⟨some 4, _, _, _, _, _⟩) (v := ?_) rfl (by kernel_rfl) (by kernel_rfl) (by kernel_rfl) (fun _ _ _ h => h) (Or.inl ⟨by kernel_rfl, ?_⟩) (by assumption) ?_; rotate_left; (intro w hSw; (try dsimp only at hSw); go_simp; first | done | with_reducible rfl); (try simp only [Act.put, List.setIfInBounds_toArray, List.set_cons_zero, List.set_cons_succ])
    refine wpAnyH_take (i := 2) (oi := ⟨some 5, _, _, _, _, _⟩) (v := ?_) rfl (by kernel_rfl) (by kernel_rfl) (by kernel_rfl) (fun _ _ _ h => h) (Or.inl ⟨by kernel_rfl, ?_⟩) (by assumption) ?_; rotate_left; (intro w hSw; (try dsimp only at hSw); go_simp; first | done | with_reducible rfl); (try simp only [Act.put, List.setIfInBounds_toArray, List.set_cons_zero, List.set_cons_succ])
    refine wpAnyH_take (i := 3) (oi := ⟨some 6, _, _, _, _, _⟩) (v := ?_) rfl (by kernel_rfl) (by kernel_rfl) (by kernel_rfl) (fun _ _ _ h => h) (Or.inl ⟨by kernel_rfl, ?_⟩) (by assumption) ?_; rotate_left; (intro w hSw; (try dsimp only at hSw); have q0 := hSw; go_simp; first | done | with_reducible rfl); (try simp only [Act.put, List.setIfInBounds_toArray, List.set_cons_zero, List.set_cons_succ])
    refine wpAnyH_take (i := 4) (oi := ⟨some 7, _, _, _, _, _⟩) (v := ?_) rfl (by kernel_rfl) (by kernel_rfl) (by kernel_rfl) (fun _ _ _ h => h) (Or.inl ⟨by kernel_rfl, ?_⟩) (by assumption) ?_; rotate_left; (intro w hSw; (try dsimp only at hSw); have q1 := hSDw w; go_simp; first | done | with_reducible rfl); (try simp only [Act.put, List.setIfInBounds_toArray, List.set_cons_zero, List.set_cons_succ])
    refine wpAnyH_take (i := 5) (oi := ⟨some 8, _, _, _, _, _⟩) (v := ?_) rfl (by kernel_rfl) (by kernel_rfl) (by kernel_rfl) (fun _ _ _ h => h) (Or.inl ⟨by kernel_rfl, ?_⟩) (by assumption) ?_; rotate_left; (intro w hSw; (try dsimp only at hSw); go_simp; first | done | with_reducible rfl); (try simp only [Act.put, List.setIfInBounds_toArray, List.set_cons_zero, List.set_cons_succ])
    refine wpAnyH_take (i := 6) (oi := ⟨some 9, _, _, _, _, _⟩) (v := ?_) rfl (by kernel_rfl) (by kernel_rfl) (by kernel_rfl) (fun _ _ _ h => h) (Or.inl ⟨by kernel_rfl, ?_⟩) (by assumption) ?_; rotate_left; (intro w hSw; (try dsimp only at hSw); go_simp; first | done | with_reducible rfl); (try simp only [Act.put, List.setIfInBounds_toArray, List.set_cons_zero, List.set_cons_succ])
    refine wpAnyH_take (i := 7) (oi := ⟨some 10, _, _, _, _, _⟩) (v := ?_) rfl (by kernel_rfl) (by kernel_rfl) (by kernel_rfl) (fun _ _ _ h => h) (Or.inl ⟨by kernel_rfl, ?_⟩) (by assumption) ?_; rotate_left; (intro w hSw; (try dsimp only at hSw); go_simp; first | done | with_reducible rfl); (try simp only [Act.put, List.setIfInBounds_toArray, List.set_cons_zero, List.set_cons_succ])
    refine wpAnyH_take (i := 8) (oi := ⟨some 11, _, _, _, _, _⟩) (v := ?_) rfl (by kernel_rfl) (by kernel_rfl) (by kernel_rfl) (fun _ _ _ h => h) (Or.inl ⟨by kernel_rfl, ?_⟩) (by assumption) ?_; rotate_left; (intro w hSw; (try dsimp only at hSw); have q0 := hSw; go_simp; first | done | with_reducible rfl); (try simp only [Act.put, List.setIfInBounds_toArray, List.set_cons_zero, List.set_cons_succ])
    refine wpAnyH_take (i := 9) (oi := ⟨some 12, _, _, _, _, _⟩) (v := ?_) rfl (by kernel_rfl) (by kernel_rfl) (by kernel_rfl) (fun _ _ _ h => h) (Or.inl ⟨by kernel_rfl, ?_⟩) (by assumption) ?_; rotate_left; (intro w hSw; (try dsimp only at hSw); go_simp; first | done | with_reducible rfl); (try simp only [Act.put, List.setIfInBounds_toArray, List.set_cons_zero, List.set_cons_succ])
    refine wpAnyH_ready (rs := [10]) (by kernel_rfl) (by simp) ?_
    refine AllReadyH.cons (o := ⟨some 13, _, _, _, _, _⟩) rfl (fun K hK => ?_) AllReadyH.nil
    rw [if_pos (by rfl)]
    go_simp
    have hSF : D.cell? ⟨WB, 1, none⟩ = some (.slice none 0 0) := hS0
    refine hK.out _ _ hSF (fun hSn => ?_)
    clear hK K hSn; (try simp only [Act.put, List.setIfInBounds_toArray, List.set_cons_zero, List.set_cons_succ])
    refine wpAnyH_take (i := 11) (oi := ⟨some 2, _, _, _, _, _⟩) (v := ?_) rfl (by kernel_rfl) (by kernel_rfl) (by kernel_rfl) (fun _ _ _ h => h) (Or.inl ⟨by kernel_rfl, ?_⟩) (by assumption) ?_; rotate_left; (intro w hSw; (try dsimp only at hSw); go_simp; first | done | with_reducible rfl); (try simp only [Act.put, List.setIfInBounds_toArray, List.set_cons_zero, List.set_cons_succ])
    refine wpAnyH_done (by kernel_rfl) ?_ _
    go_wp2_with fail
    go_ret
    exact ⟨rfl, hbD⟩
  · have hl0 : l.length ≠ 0 := by simpa using h0
    obtain ⟨g, cap, cur, rfl, hbg, hg, hnc, hcm, hcs, htake⟩ : ∃ g cap cur, v = .slice (some ⟨g, 0, none⟩) l.length cap ∧ B ≤ g ∧ w.heap[g]? = some (.cells cur 5 (0, 0)) ∧ l.length ≤ cap ∧ cap ≤ maxLen ∧ cur.size = cap * 1 ∧ cur.toList.take (l.length * 1) = byteCells l := by
      rcases hown.2 with ⟨_, hz⟩ | ⟨g, cap, cur, hv, r⟩
      · exact absurd hz hl0
      · exact ⟨g, cap, cur, hv, r⟩
    have c0 : w.cell? ⟨WB, 1, none⟩ = some (.slice (some ⟨g, 0, none⟩) l.length cap) := cell_of_row hbk (wget1 _ _ _ _)
    have c1 : w.drew.cell? ⟨WB, 1, none⟩ = some (.slice (some ⟨g, 0, none⟩) l.length cap) := c0
    have hSDw : ∀ V : World, (Builtin.unsafeSliceData_ #[56] 84 #[.slice (some ⟨g, 0, none⟩) l.length cap]).run Tryz.prog V = .ok (.pointer (some ⟨g, 0, none⟩)) V :=
      fun V => Lib.run_unsafeSliceData_row V _ _ _ _ _ (by omega)
    have hbD : Below w0.heap.size w0 w.drew := hb0.drew
    have hwg : WB < g := by have := h.wb; omega
    have hFZ : ∀ {D : World}, D.cell? ⟨WB, 1, none⟩ = some (.slice (some ⟨g, 0, none⟩) l.length cap) → (D.freeze ⟨g, 0, none⟩ l.length).cell? ⟨WB, 1, none⟩ = some (.slice (some ⟨g, 0, none⟩) l.length cap) := fun {D} hD =>
      (World.cell?_of_block (w := D) (a := ⟨WB, 1, none⟩) ((Lib.below_freeze (Below.refl g D) (p := ⟨g, 0, none⟩) (Nat.le_refl _) _).block WB hwg)).trans hD
    have hUS : (Builtin.unsafeString_ #[84, 3] 9 #[.pointer (some ⟨g, 0, none⟩), .int .i64 l.length]).run Tryz.prog w.drew = .ok (.string ⟨l.toArray⟩) (w.drew.freeze ⟨g, 0, none⟩ l.length) := by
      refine Lib.run_unsafeString_row w.drew 84 3 9 5 (by kernel_rfl) (by kernel_rfl) g cur.size (by have hg' : w.drew.heap[g]? = some (.cells cur 5 (0, 0)) := hg; simp [World.shape?, hg']) l h0 (by omega) (by unfold maxLen at hcm; omega) ?_
      intro j x hx
      exact hown.cells (g := g) rfl j (.int .u8 x.toNat) (by simp [byteCells, hx])
    have hbb : w0.heap.size ≤ g := by have := h.wb; omega
    clear h hown hnil hbk htake hg hcs c0
    go_enter Tryz.func58, Tryz.ntmps58
    go_upto_region 1 with fail
    have BD : Below w.heap.size w w.drew := ⟨rfl, rfl, rfl, Nat.le_refl _, fun _ _ => rfl⟩
    have hS0 : w.drew.cell? ⟨WB, 1, none⟩ = some (.slice (some ⟨g, 0, none⟩) l.length cap) := c1
    refine wp_region_held (S := fun V => V.cell? ⟨WB, 1, none⟩ = some (.slice (some ⟨g, 0, none⟩) l.length cap)) (by kernel_rfl) ?_
    show wpAnyH _ _ _ _ _ _ _ _ w.drew
    generalize w.drew = D at hS0 BD hUS hbD ⊢
    refine wpAnyH_take (i := 0) (oi := ⟨some 3, _, _, _, _, _⟩) (v := ?_) rfl (by kernel_rfl) (by kernel_rfl) (by kernel_rfl) (fun _ _ _ h => h) (Or.inl ⟨by kernel_rfl, ?_⟩) (by assumption) ?_; rotate_left; (intro w hSw; (try dsimp only at hSw); go_simp; first | done | with_reducible rfl); (try simp only [Act.put, List.setIfInBounds_toArray, List.set_cons_zero, List.set_cons_succ])
    refine wpAnyH_take (i := 1) (oi := ⟨some 4, _, _, _, _, _⟩) (v := ?_) rfl (by kernel_rfl) (by kernel_rfl) (by kernel_rfl) (fun _ _ _ h => h) (Or.inl ⟨by kernel_rfl, ?_⟩) (by assumption) ?_; rotate_left; (intro w hSw; (try dsimp only at hSw); go_simp; first | done | with_reducible rfl); (try simp only [Act.put, List.setIfInBounds_toArray, List.set_cons_zero, List.set_cons_succ])
    refine wpAnyH_take (i := 2) (oi := ⟨some 5, _, _, _, _, _⟩) (v := ?_) rfl (by kernel_rfl) (by kernel_rfl) (by kernel_rfl) (fun _ _ _ h => h) (Or.inl ⟨by kernel_rfl, ?_⟩) (by assumption) ?_; rotate_left; (intro w hSw; (try dsimp only at hSw); go_simp; first | done | with_reducible rfl); (try simp only [Act.put, List.setIfInBounds_toArray, List.set_cons_zero, List.set_cons_succ])
    refine wpAnyH_take (i := 3) (oi := ⟨some 6, _, _, _, _, _⟩) (v := ?_) rfl (by kernel_rfl) (by kernel_rfl) (by kernel_rfl) (fun _ _ _ h => h) (Or.inl ⟨by kernel_rfl, ?_⟩) (by assumption) ?_; rotate_left; (intro w hSw; (try dsimp only at hSw); have q0 := hSw; go_simp; first | done | with_reducible rfl); (try simp only [Act.put, List.setIfInBounds_toArray, List.set_cons_zero, List.set_cons_succ])
    refine wpAnyH_take (i := 4) (oi := ⟨some 7, _, _, _, _, _⟩) (v := ?_) rfl (by kernel_rfl) (by kernel_rfl) (by kernel_rfl) (fun _ _ _ h => h) (Or.inl ⟨by kernel_rfl, ?_⟩) (by assumption) ?_; rotate_left; (intro w hSw; (try dsimp only at hSw); have q1 := hSDw w; go_simp; first | done | with_reducible rfl); (try simp only [Act.put, List.setIfInBounds_toArray, List.set_cons_zero, List.set_cons_succ])
    refine wpAnyH_take (i := 5) (oi := ⟨some 8, _, _, _, _, _⟩) (v := ?_) rfl (by kernel_rfl) (by kernel_rfl) (by kernel_rfl) (fun _ _ _ h => h) (Or.inl ⟨by kernel_rfl, ?_⟩) (by assumption) ?_; rotate_left; (intro w hSw; (try dsimp only at hSw); go_simp; first | done | with_reducible rfl); (try simp only [Act.put, List.setIfInBounds_toArray, List.set_cons_zero, List.set_cons_succ])
    refine wpAnyH_take (i := 6) (oi := ⟨some 9, _, _, _, _, _⟩) (v := ?_) rfl (by kernel_rfl) (by kernel_rfl) (by kernel_rfl) (fun _ _ _ h => h) (Or.inl ⟨by kernel_rfl, ?_⟩) (by assumption) ?_; rotate_left; (intro w hSw; (try dsimp only at hSw); go_simp; first | done | with_reducible rfl); (try simp only [Act.put, List.setIfInBounds_toArray, List.set_cons_zero, List.set_cons_succ])
    refine wpAnyH_take (i := 7) (oi := ⟨some 10, _, _, _, _, _⟩) (v := ?_) rfl (by kernel_rfl) (by kernel_rfl) (by kernel_rfl) (fun _ _ _ h => h) (Or.inl ⟨by kernel_rfl, ?_⟩) (by assumption) ?_; rotate_left; (intro w hSw; (try dsimp only at hSw); go_simp; first | done | with_reducible rfl); (try simp only [Act.put, List.setIfInBounds_toArray, List.set_cons_zero, List.set_cons_succ])
    refine wpAnyH_take (i := 8) (oi := ⟨some 11, _, _, _, _, _⟩) (v := ?_) rfl (by kernel_rfl) (by kernel_rfl) (by kernel_rfl) (fun _ _ _ h => h) (Or.inl ⟨by kernel_rfl, ?_⟩) (by assumption) ?_; rotate_left; (intro w hSw; (try dsimp only at hSw); have q0 := hSw; go_simp; first | done | with_reducible rfl); (try simp only [Act.put, List.setIfInBounds_toArray, List.set_cons_zero, List.set_cons_succ])
    refine wpAnyH_take (i := 9) (oi := ⟨some 12, _, _, _, _, _⟩) (v := ?_) rfl (by kernel_rfl) (by kernel_rfl) (by kernel_rfl) (fun _ _ _ h => h) (Or.inl ⟨by kernel_rfl, ?_⟩) (by assumption) ?_; rotate_left; (intro w hSw; (try dsimp only at hSw); go_simp; first | done | with_reducible rfl); (try simp only [Act.put, List.setIfInBounds_toArray, List.set_cons_zero, List.set_cons_succ])
    refine wpAnyH_ready (rs := [10]) (by kernel_rfl) (by simp) ?_
    refine AllReadyH.cons (o := ⟨some 13, _, _, _, _, _⟩) rfl (fun K hK => ?_) AllReadyH.nil
    rw [if_pos (by rfl)]
    go_simp
    have hSF : (D.freeze ⟨g, 0, none⟩ l.length).cell? ⟨WB, 1, none⟩ = some (.slice (some ⟨g, 0, none⟩) l.length cap) := hFZ hS0
    refine hK.out _ _ hSF (fun hSn => ?_)
    clear hK K hSn; (try simp only [Act.put, List.setIfInBounds_toArray, List.set_cons_zero, List.set_cons_succ])
    refine wpAnyH_take (i := 11) (oi := ⟨some 2, _, _, _, _, _⟩) (v := ?_) rfl (by kernel_rfl) (by kernel_rfl) (by kernel_rfl) (fun _ _ _ h => h) (Or.inl ⟨by kernel_rfl, ?_⟩) (by assumption) ?_; rotate_left; (intro w hSw; (try dsimp only at hSw); go_simp; first | done | with_reducible rfl); (try simp only [Act.put, List.setIfInBounds_toArray, List.set_cons_zero, List.set_cons_succ])
    refine wpAnyH_done (by kernel_rfl) ?_ _
    go_wp2_with fail
    go_ret
    exact ⟨rfl, Lib.below_freeze hbD (p := ⟨g, 0, none⟩) hbb _⟩
end Go.Proofs.YtcallgoglnkkiaaGreatDoor
set_option linter.unusedVariables false
set_option linter.unusedSimpArgs false
namespace Go.Proofs.YtcallgoglnkkiaaGreatDoor
open Go.RowKit Go.Lib

/-- Cells written from an offset on. -/
def setF (c : Array Value) : Nat → List Value → Array Value
  | _, [] => c
  | o, v :: r => setF (c.setIfInBounds o v) (o + 1) r
theorem setCells_heap {b : Nat} {T : TypeId} {fz : Nat × Nat} : ∀ (L : List Value) (o : Nat) (c : Array Value) (w : World), w.heap[b]? = some (.cells c T fz) → (w.setCells b o L).heap[b]? = some (.cells (setF c o L) T fz)
  | [], _, _, _, h => h
  | v :: r, o, c, w, h => setCells_heap r (o + 1) _ _ (set_row v h)
theorem setCells_mod {b : Nat} : ∀ (L : List Value) (o : Nat) (w : World), Mod (fun k => k = b) w (w.setCells b o L)
  | [], _, w => Mod.of_below (Below.refl _ _)
  | v :: r, o, w => by
    have m : Mod (fun k => k = b) w (w.setCell ⟨b, o, none⟩ v) := Mod.setCell _ _ _ (.inl rfl)
    exact m.trans (setCells_mod r (o + 1) _) (fun _ _ e => e)
def zeroRow : Array Value := #[.pointer none, .slice none 0 0, .nilFunc, .nilFunc, .nilFunc, .nilFunc, .nilFunc, .nilFunc, .nilFunc, .nilFunc, .nilFunc, .nilFunc, .nilFunc, .nilFunc, .nilFunc, .nilFunc, .nilFunc, .nilFunc, .nilFunc, .nilFunc, .nilFunc, .nilFunc, .nilFunc, .nilFunc]
def formRow (WB : Nat) : Array Value := #[.func (.func 32) #[] #[.pointer (some ⟨WB + 1, 0, none⟩)], .func (.func 34) #[.pointer (some ⟨WB, 0, none⟩)] #[], .func (.func 35) #[.pointer (some ⟨WB, 0, none⟩)] #[], .func (.func 36) #[.pointer (some ⟨WB, 0, none⟩)] #[], .func (.func 37) #[.pointer (some ⟨WB, 0, none⟩)] #[], .func (.func 38) #[.pointer (some ⟨WB, 0, none⟩)] #[], .func (.func 39) #[] #[.pointer (some ⟨WB + 1, 0, none⟩)], .func (.func 38) #[.pointer (some ⟨WB, 0, none⟩)] #[], .func (.func 42) #[] #[.pointer (some ⟨WB + 1, 0, none⟩)], .func (.func 43) #[] #[.pointer (some ⟨WB + 1, 0, none⟩)], .func (.func 45) #[] #[.pointer (some ⟨WB + 1, 0, none⟩)], .func (.func 46) #[] #[.pointer (some ⟨WB + 1, 0, none⟩)], .func (.func 47) #[.pointer (some ⟨WB, 0, none⟩)] #[], .func (.func 48) #[] #[.pointer (some ⟨WB + 1, 0, none⟩)], .func (.func 47) #[.pointer (some ⟨WB, 0, none⟩)] #[], .func (.func 49) #[.pointer (some ⟨WB, 0, none⟩)] #[], .func (.func 50) #[.pointer (some ⟨WB, 0, none⟩)] #[], .func (.func 51) #[] #[.pointer (some ⟨WB + 1, 0, none⟩)], .func (.func 52) #[] #[.pointer (some ⟨WB + 1, 0, none⟩)], .func (.func 54) #[] #[.pointer (some ⟨WB + 1, 0, none⟩)], .func (.func 55) #[.pointer (some ⟨WB, 0, none⟩)] #[], .func (.func 56) #[.pointer (some ⟨WB, 0, none⟩)] #[]]
theorem zero_set (WB : Nat) : setF zeroRow 2 (formRow WB).toList = wCells WB (WB + 1) (.pointer none) (.slice none 0 0) := by kernel_rfl
theorem form_size (WB : Nat) : (formRow WB).size = 22 := rfl
theorem form_one (WB : Nat) : (formRow WB).all (·.oneCell') = true := by kernel_rfl
theorem form_info : (Tryz.prog.info? 60).map (·.size) = some 22 := by kernel_rfl

set_option maxHeartbeats 8000000 in
set_option maxRecDepth 100000 in
theorem written_any (x : Tm) (TX : List UInt8) (v : Value) (w : World) (hT : TmAt (· < w.heap.size) w x v) (hlen : TX.length ≤ 140737488355328) (hN : NodeW w (w.heap.size + 3) (w.heap.size + 1) (w.heap.size + 1 + 1) x TX) :
    Calls Tryz.prog 24 #[v] w fun e w' => e = .returned (.string ⟨TX.toArray⟩) ∧ Below w.heap.size w w' := by
  have HT := Lib.hid hT
  have HLEN := Lib.hid hlen
  obtain ⟨k, n, s, t, l⟩ := x
  obtain ⟨A, cap, rfl, hR, hk, hn, hs, ht⟩ := hT.parts
  clear hT hR hk hn hs ht hlen
  obtain ⟨WB, hWB⟩ : ∃ WB, WB = w.heap.size + 1 := ⟨_, rfl⟩
  obtain ⟨W1, hW1⟩ : ∃ W1, W1 = ((w.alloc (.cells #[.int .i8 k, .int .i64 n, .string s, .string t, .slice A l.length cap] 25)).alloc (.cells #[.pointer none, .slice none 0 0, .nilFunc, .nilFunc, .nilFunc, .nilFunc, .nilFunc, .nilFunc, .nilFunc, .nilFunc, .nilFunc, .nilFunc, .nilFunc, .nilFunc, .nilFunc, .nilFunc, .nilFunc, .nilFunc, .nilFunc, .nilFunc, .nilFunc, .nilFunc, .nilFunc, .nilFunc] 62)).alloc (.cells #[.pointer (some ⟨w.heap.size + 1, 0, none⟩)] 54) := ⟨_, rfl⟩
  have s1 : W1.heap.size = WB + 2 := by rw [hW1, hWB]; simp
  have b1 : Below w.heap.size w W1 := by rw [hW1]; exact (((Below.refl _ _).alloc (Nat.le_refl _) _).alloc (by simp) _).alloc (by simp; omega) _
  have gN : W1.heap[w.heap.size]? = some (.cells #[.int .i8 k, .int .i64 n, .string s, .string t, .slice A l.length cap] 25 (0, 0)) := by
    rw [hW1]
    exact (Below.heap_alloc _ _ _ (by simp; omega)).trans ((Below.heap_alloc _ _ _ (by simp)).trans (block_alloc _ _))
  have gZ : W1.heap[WB]? = some (.cells zeroRow 62 (0, 0)) := by
    rw [hW1, hWB]
    refine (Below.heap_alloc _ _ _ (by simp)).trans ?_
    have h := block_alloc (w.alloc (.cells #[.int .i8 k, .int .i64 n, .string s, .string t, .slice A l.length cap] 25)) (.cells #[.pointer none, .slice none 0 0, .nilFunc, .nilFunc, .nilFunc, .nilFunc, .nilFunc, .nilFunc, .nilFunc, .nilFunc, .nilFunc, .nilFunc, .nilFunc, .nilFunc, .nilFunc, .nilFunc, .nilFunc, .nilFunc, .nilFunc, .nilFunc, .nilFunc, .nilFunc, .nilFunc, .nilFunc] 62)
    rw [show (w.alloc (.cells #[.int .i8 k, .int .i64 n, .string s, .string t, .slice A l.length cap] 25)).heap.size = w.heap.size + 1 by simp] at h
    exact h
  have gP : W1.heap[WB + 1]? = some (.cells #[.pointer (some ⟨WB, 0, none⟩)] 54 (0, 0)) := by
    rw [hW1, hWB]
    have h := block_alloc ((w.alloc (.cells #[.int .i8 k, .int .i64 n, .string s, .string t, .slice A l.length cap] 25)).alloc (.cells #[.pointer none, .slice none 0 0, .nilFunc, .nilFunc, .nilFunc, .nilFunc, .nilFunc, .nilFunc, .nilFunc, .nilFunc, .nilFunc, .nilFunc, .nilFunc, .nilFunc, .nilFunc, .nilFunc, .nilFunc, .nilFunc, .nilFunc, .nilFunc, .nilFunc, .nilFunc, .nilFunc, .nilFunc] 62)) (.cells #[.pointer (some ⟨w.heap.size + 1, 0, none⟩)] 54)
    rw [show ((w.alloc (.cells #[.int .i8 k, .int .i64 n, .string s, .string t, .slice A l.length cap] 25)).alloc (.cells #[.pointer none, .slice none 0 0, .nilFunc, .nilFunc, .nilFunc, .nilFunc, .nilFunc, .nilFunc, .nilFunc, .nilFunc, .nilFunc, .nilFunc, .nilFunc, .nilFunc, .nilFunc, .nilFunc, .nilFunc, .nilFunc, .nilFunc, .nilFunc, .nilFunc, .nilFunc, .nilFunc, .nilFunc] 62)).heap.size = w.heap.size + 1 + 1 by simp] at h
    exact h
  have hth : W1.there WB 2 (formRow WB).size := fun j hj => by
    rw [form_size] at hj
    have hlt : 2 + j < zeroRow.size := by show 2 + j < 24; omega
    exact ⟨by rw [cell_of_row gZ (Array.getElem?_eq_getElem hlt)]; rfl, free_of_row gZ⟩
  obtain ⟨W2, hW2⟩ : ∃ W2, W2 = W1.setCells WB 2 (formRow WB).toList := ⟨_, rfl⟩
  have m2 : Mod (fun k => k = WB) W1 W2 := by rw [hW2]; exact setCells_mod _ _ _
  have hS : WSt w (w.heap.size + 3) WB (WB + 1) [] W2 := by
    refine ⟨b1.trans (m2.below b1.size (fun i e => by omega)), by omega, by omega, by have := m2.size; omega, ⟨.slice none 0 0, .pointer none, ?_, ?_, .inl rfl, fun _ => rfl⟩, (m2.block _ (heap_lt gP) (by omega)).trans gP⟩
    · rw [hW2, setCells_heap _ _ _ _ gZ, zero_set]
    · exact ⟨by simp [byteCells], .inl ⟨rfl, rfl⟩⟩
  have gN2 : W2.heap[w.heap.size]? = some (.cells #[.int .i8 k, .int .i64 n, .string s, .string t, .slice A l.length cap] 25 (0, 0)) := (m2.block _ (heap_lt gN) (by omega)).trans gN
  have cP : W1.cell? ⟨WB + 1, 0, none⟩ = some (.pointer (some ⟨WB, 0, none⟩)) := cell_of_row gP rfl
  rw [← hWB] at hN
  have HN := Lib.hid hN
  have HS2 := Lib.hid hS
  have HG2 := Lib.hid gN2
  have HNE : Hid (w.heap.size ≠ WB) := by show _ ≠ _; omega
  have HTH := Lib.hid hth
  have HW2 := Lib.hid hW2
  clear hN s1 b1 gN gZ gP hth m2 hS gN2 hW2
  go_enter Tryz.func24, Tryz.ntmps24
  go_upto_region 2 with fail
  rw [← hW1, ← hWB]
  clear hW1 hWB
  go_upto_region 3 with (refine wpList_store_mid rfl 60 _ _ rfl WB 2 (formRow WB) rfl rfl HTH.out (form_info.trans (by rw [form_size])) (form_one WB) ?_)
  rw [← HW2.out]
  clear cP HTH HW2
  have cP : W2.cell? ⟨WB + 1, 0, none⟩ = some (.pointer (some ⟨WB, 0, none⟩)) := cell_of_row HS2.out.pb rfl
  have q0 : W2.cell? ⟨w.heap.size, 0, none⟩ = some (.int .i8 k) := cell_of_row HG2.out rfl
  have q1 : W2.cell? ⟨w.heap.size, 1, none⟩ = some (.int .i64 n) := cell_of_row HG2.out rfl
  have q2 : W2.cell? ⟨w.heap.size, 2, none⟩ = some (.string s) := cell_of_row HG2.out rfl
  have q3 : W2.cell? ⟨w.heap.size, 3, none⟩ = some (.string t) := cell_of_row HG2.out rfl
  have q4 : W2.cell? ⟨w.heap.size, 4, none⟩ = some (.slice A l.length cap) := cell_of_row HG2.out rfl
  go_wp2_with fail
  refine (HN.out _ [] W2 HT.out HS2.out trivial (by have := HLEN.out; simpa using this)).mono ?_
  rintro e W3 ⟨rfl, h, k9⟩
  rw [List.nil_append] at h
  have HS3 := Lib.hid h
  clear h k9 cP q0 q1 q2 q3 q4
  have cP : W3.cell? ⟨WB + 1, 0, none⟩ = some (.pointer (some ⟨WB, 0, none⟩)) := cell_of_row HS3.out.pb rfl
  go_wp2_with fail
  refine (strB_any HS3.out HLEN.out).mono ?_
  rintro e W4 ⟨rfl, b4⟩
  go_wp2_with fail
  go_ret
  exact ⟨rfl, b4⟩
end Go.Proofs.YtcallgoglnkkiaaGreatDoor
