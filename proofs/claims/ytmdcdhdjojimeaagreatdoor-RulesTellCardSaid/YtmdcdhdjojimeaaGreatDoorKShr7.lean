/- Layer 7: the program's functions that tell of each kind, as what they answer: chains of conditions. Layer 7: the program's operator, operand, operation, class, clause, try, receive ..: contracts. Layer 7: the program's apply, try, receive: contracts. -/
import Derived.Test.YtmdcdhdjojimeaaGreatDoorKCls7
import Derived.Test.YtmdcdhdjojimeaaGreatDoorKRef01
set_option linter.unusedVariables false
namespace Go.Proofs.YtmdcdhdjojimeaaGreatDoor
open Go.RowKit

set_option maxHeartbeats 4000000 in
set_option maxRecDepth 100000 in
theorem shp_mods (k n : Int) (s t : ByteArray) (l : List Tm) (A : Option Addr) (cap : Nat) (p : Int) (w : World) (hR : TRow (· < w.heap.size) w A l.length cap l) (hs : s.size ≤ maxLen) (ht : t.size ≤ maxLen) (hn : -9223372036854775808 ≤ n ∧ n ≤ 9223372036854775807) (hE : Env7 w) (hM : ∀ y ∈ l, MayAt 2 y) :
  Calls Tryz.prog 103 #[.agg #[.int .i8 k, .int .i64 n, .string s, .string t, .slice A l.length cap], .int .u16 p] w fun e w' => e = .returned (.bool (l.all (plcB 2))) ∧ Below w.heap.size w w' := by
 have hlen := hR.max
 unfold maxLen at hlen
 have HRW : Hid (∀ V, NBx Env7 w V w.heap.size #[.int .i8 k, .int .i64 n, .string s, .string t, .slice A l.length cap] → TRow (· < V.heap.size) V A l.length cap l) := fun V h => hR.later h.below
 have HSS : Hid (s.size ≤ maxLen ∧ t.size ≤ maxLen) := ⟨hs, ht⟩
 have HNN : Hid (-9223372036854775808 ≤ n ∧ n ≤ 9223372036854775807) := hn
 obtain ⟨R, hRR⟩ : ∃ R, R = (l.all (plcB 2)) := ⟨_, rfl⟩
 have HR := Lib.hid hRR
 rw [← hRR]
 have HM := Lib.hid hM
 have HB := Lib.hid (nbx_of env7_E hE #[.int .i8 k, .int .i64 n, .string s, .string t, .slice A l.length cap])
 clear hR hs ht hn hRR hE hM
 go_enter Tryz.func103, Tryz.ntmps103
 go_upto_region 1 with fail
 generalize w.alloc (.cells #[.int .i8 k, .int .i64 n, .string s, .string t, .slice A l.length cap] 25) = w1 at HB ⊢
 obtain ⟨x0, x1, x2, x3, x4⟩ := five_of HB.out.box
 go_wp2_with fail
 refine (all_any 2 l A l.length cap _ (HRW.out _ HB.out) HB.out.env HM.out).mono ?_
 rintro e V1 ⟨rfl, b1⟩
 have HB1 := Lib.hid (HB.out.under env7_E b1)
 clear b1
 clear x0 x1 x2 x3 x4
 obtain ⟨x0, x1, x2, x3, x4⟩ := five_of HB1.out.box
 go_wp2_with fail
 go_ret
 exact ⟨ret_bool (by rw [HR.out]; first | done | rfl), HB1.out.below⟩

set_option maxHeartbeats 4000000 in
set_option maxRecDepth 100000 in
theorem shp_mod (k n : Int) (s t : ByteArray) (l : List Tm) (A : Option Addr) (cap : Nat) (p : Int) (w : World) (hR : TRow (· < w.heap.size) w A l.length cap l) (hs : s.size ≤ maxLen) (ht : t.size ≤ maxLen) (hn : -9223372036854775808 ≤ n ∧ n ≤ 9223372036854775807) (hE : Env7 w) (hM : ∀ y ∈ l, MayAt 4 y) :
  Calls Tryz.prog 105 #[.agg #[.int .i8 k, .int .i64 n, .string s, .string t, .slice A l.length cap], .int .u16 p] w fun e w' => e = .returned (.bool (atomB s && l.all (plcB 4))) ∧ Below w.heap.size w w' := by
 have hlen := hR.max
 unfold maxLen at hlen
 have HRW : Hid (∀ V, NBx Env7 w V w.heap.size #[.int .i8 k, .int .i64 n, .string s, .string t, .slice A l.length cap] → TRow (· < V.heap.size) V A l.length cap l) := fun V h => hR.later h.below
 have HSS : Hid (s.size ≤ maxLen ∧ t.size ≤ maxLen) := ⟨hs, ht⟩
 have HNN : Hid (-9223372036854775808 ≤ n ∧ n ≤ 9223372036854775807) := hn
 obtain ⟨R, hRR⟩ : ∃ R, R = (atomB s && l.all (plcB 4)) := ⟨_, rfl⟩
 have HR := Lib.hid hRR
 rw [← hRR]
 have HM := Lib.hid hM
 have HB := Lib.hid (nbx_of env7_E hE #[.int .i8 k, .int .i64 n, .string s, .string t, .slice A l.length cap])
 clear hR hs ht hn hRR hE hM
 go_enter Tryz.func105, Tryz.ntmps105
 go_upto_region 1 with fail
 generalize w.alloc (.cells #[.int .i8 k, .int .i64 n, .string s, .string t, .slice A l.length cap] 25) = w1 at HB ⊢
 obtain ⟨x0, x1, x2, x3, x4⟩ := five_of HB.out.box
 go_wp2_with fail
 refine (atom_any s HSS.out.1 _ HB.out.env).mono ?_
 rintro e V1 ⟨rfl, b1⟩
 have HB1 := Lib.hid (HB.out.under env7_E b1)
 clear b1
 clear x0 x1 x2 x3 x4
 obtain ⟨x0, x1, x2, x3, x4⟩ := five_of HB1.out.box
 cases h0 : atomB s
 ·skip
  go_wp2_with fail
  go_ret
  exact ⟨ret_bool (by rw [HR.out]; first | done | (rw [h0]; first | done | rfl)), HB1.out.below⟩
 ·skip
  go_wp2_with fail
  refine (all_any 4 l A l.length cap _ (HRW.out _ HB1.out) HB1.out.env HM.out).mono ?_
  rintro e V2 ⟨rfl, b2⟩
  have HB2 := Lib.hid (HB1.out.under env7_E b2)
  clear b2
  clear x0 x1 x2 x3 x4
  obtain ⟨x0, x1, x2, x3, x4⟩ := five_of HB2.out.box
  go_wp2_with fail
  go_ret
  exact ⟨ret_bool (by rw [HR.out]; first | done | (rw [h0]; first | done | rfl)), HB2.out.below⟩

set_option maxHeartbeats 4000000 in
set_option maxRecDepth 100000 in
theorem shp_guard (k n : Int) (s t : ByteArray) (l : List Tm) (A : Option Addr) (cap : Nat) (p : Int) (w : World) (hR : TRow (· < w.heap.size) w A l.length cap l) (hs : s.size ≤ maxLen) (ht : t.size ≤ maxLen) (hn : -9223372036854775808 ≤ n ∧ n ≤ 9223372036854775807) (hE : Env7 w) (hM : ∀ y ∈ l, MayAt 32 y) :
  Calls Tryz.prog 109 #[.agg #[.int .i8 k, .int .i64 n, .string s, .string t, .slice A l.length cap], .int .u16 p] w fun e w' => e = .returned (.bool (l.all (plcB 32))) ∧ Below w.heap.size w w' := by
 have hlen := hR.max
 unfold maxLen at hlen
 have HRW : Hid (∀ V, NBx Env7 w V w.heap.size #[.int .i8 k, .int .i64 n, .string s, .string t, .slice A l.length cap] → TRow (· < V.heap.size) V A l.length cap l) := fun V h => hR.later h.below
 have HSS : Hid (s.size ≤ maxLen ∧ t.size ≤ maxLen) := ⟨hs, ht⟩
 have HNN : Hid (-9223372036854775808 ≤ n ∧ n ≤ 9223372036854775807) := hn
 obtain ⟨R, hRR⟩ : ∃ R, R = (l.all (plcB 32)) := ⟨_, rfl⟩
 have HR := Lib.hid hRR
 rw [← hRR]
 have HM := Lib.hid hM
 have HB := Lib.hid (nbx_of env7_E hE #[.int .i8 k, .int .i64 n, .string s, .string t, .slice A l.length cap])
 clear hR hs ht hn hRR hE hM
 go_enter Tryz.func109, Tryz.ntmps109
 go_upto_region 1 with fail
 generalize w.alloc (.cells #[.int .i8 k, .int .i64 n, .string s, .string t, .slice A l.length cap] 25) = w1 at HB ⊢
 obtain ⟨x0, x1, x2, x3, x4⟩ := five_of HB.out.box
 go_wp2_with fail
 refine (all_any 32 l A l.length cap _ (HRW.out _ HB.out) HB.out.env HM.out).mono ?_
 rintro e V1 ⟨rfl, b1⟩
 have HB1 := Lib.hid (HB.out.under env7_E b1)
 clear b1
 clear x0 x1 x2 x3 x4
 obtain ⟨x0, x1, x2, x3, x4⟩ := five_of HB1.out.box
 go_wp2_with fail
 go_ret
 exact ⟨ret_bool (by rw [HR.out]; first | done | rfl), HB1.out.below⟩

set_option maxHeartbeats 4000000 in
set_option maxRecDepth 100000 in
theorem shp_var (k n : Int) (s t : ByteArray) (l : List Tm) (A : Option Addr) (cap : Nat) (p : Int) (w : World) (hR : TRow (· < w.heap.size) w A l.length cap l) (hs : s.size ≤ maxLen) (ht : t.size ≤ maxLen) (hn : -9223372036854775808 ≤ n ∧ n ≤ 9223372036854775807) (hE : Env7 w) :
  Calls Tryz.prog 110 #[.agg #[.int .i8 k, .int .i64 n, .string s, .string t, .slice A l.length cap], .int .u16 p] w fun e w' => e = .returned (.bool (nameB s 3)) ∧ Below w.heap.size w w' := by
 have hlen := hR.max
 unfold maxLen at hlen
 have HRW : Hid (∀ V, NBx Env7 w V w.heap.size #[.int .i8 k, .int .i64 n, .string s, .string t, .slice A l.length cap] → TRow (· < V.heap.size) V A l.length cap l) := fun V h => hR.later h.below
 have HSS : Hid (s.size ≤ maxLen ∧ t.size ≤ maxLen) := ⟨hs, ht⟩
 have HNN : Hid (-9223372036854775808 ≤ n ∧ n ≤ 9223372036854775807) := hn
 obtain ⟨R, hRR⟩ : ∃ R, R = (nameB s 3) := ⟨_, rfl⟩
 have HR := Lib.hid hRR
 rw [← hRR]
 have HB := Lib.hid (nbx_of env7_E hE #[.int .i8 k, .int .i64 n, .string s, .string t, .slice A l.length cap])
 clear hR hs ht hn hRR hE
 go_enter Tryz.func110, Tryz.ntmps110
 go_upto_region 1 with fail
 generalize w.alloc (.cells #[.int .i8 k, .int .i64 n, .string s, .string t, .slice A l.length cap] 25) = w1 at HB ⊢
 obtain ⟨x0, x1, x2, x3, x4⟩ := five_of HB.out.box
 go_wp2_with fail
 refine (Name_any s HSS.out.1 _ HB.out.env.spans).mono ?_
 rintro e V1 ⟨rfl, b1⟩
 have HB1 := Lib.hid (HB.out.under env7_E b1)
 clear b1
 clear x0 x1 x2 x3 x4
 obtain ⟨x0, x1, x2, x3, x4⟩ := five_of HB1.out.box
 go_wp2_with fail
 go_ret
 exact ⟨ret_bool (by rw [HR.out]; first | done | rfl), HB1.out.below⟩

set_option maxHeartbeats 4000000 in
set_option maxRecDepth 100000 in
theorem shp_int (k n : Int) (s t : ByteArray) (l : List Tm) (A : Option Addr) (cap : Nat) (p : Int) (w : World) (hR : TRow (· < w.heap.size) w A l.length cap l) (hs : s.size ≤ maxLen) (ht : t.size ≤ maxLen) (hn : -9223372036854775808 ≤ n ∧ n ≤ 9223372036854775807) (hE : Env7 w) :
  Calls Tryz.prog 112 #[.agg #[.int .i8 k, .int .i64 n, .string s, .string t, .slice A l.length cap], .int .u16 p] w fun e w' => e = .returned (.bool (mayB n)) ∧ Below w.heap.size w w' := by
 have hlen := hR.max
 unfold maxLen at hlen
 have HRW : Hid (∀ V, NBx Env7 w V w.heap.size #[.int .i8 k, .int .i64 n, .string s, .string t, .slice A l.length cap] → TRow (· < V.heap.size) V A l.length cap l) := fun V h => hR.later h.below
 have HSS : Hid (s.size ≤ maxLen ∧ t.size ≤ maxLen) := ⟨hs, ht⟩
 have HNN : Hid (-9223372036854775808 ≤ n ∧ n ≤ 9223372036854775807) := hn
 obtain ⟨R, hRR⟩ : ∃ R, R = (mayB n) := ⟨_, rfl⟩
 have HR := Lib.hid hRR
 rw [← hRR]
 have HB := Lib.hid (nbx_of env7_E hE #[.int .i8 k, .int .i64 n, .string s, .string t, .slice A l.length cap])
 clear hR hs ht hn hRR hE
 go_enter Tryz.func112, Tryz.ntmps112
 go_upto_region 1 with fail
 generalize w.alloc (.cells #[.int .i8 k, .int .i64 n, .string s, .string t, .slice A l.length cap] 25) = w1 at HB ⊢
 obtain ⟨x0, x1, x2, x3, x4⟩ := five_of HB.out.box
 go_wp2_with fail
 refine (IMayB_any n _).mono ?_
 rintro e V1 ⟨rfl, b1⟩
 have HB1 := Lib.hid (HB.out.under env7_E b1)
 clear b1
 clear x0 x1 x2 x3 x4
 obtain ⟨x0, x1, x2, x3, x4⟩ := five_of HB1.out.box
 go_wp2_with fail
 go_ret
 exact ⟨ret_bool (by rw [HR.out]; first | done | rfl), HB1.out.below⟩

set_option maxHeartbeats 4000000 in
set_option maxRecDepth 100000 in
theorem shp_atom (k n : Int) (s t : ByteArray) (l : List Tm) (A : Option Addr) (cap : Nat) (p : Int) (w : World) (hR : TRow (· < w.heap.size) w A l.length cap l) (hs : s.size ≤ maxLen) (ht : t.size ≤ maxLen) (hn : -9223372036854775808 ≤ n ∧ n ≤ 9223372036854775807) (hE : Env7 w) :
  Calls Tryz.prog 114 #[.agg #[.int .i8 k, .int .i64 n, .string s, .string t, .slice A l.length cap], .int .u16 p] w fun e w' => e = .returned (.bool (atomB s)) ∧ Below w.heap.size w w' := by
 have hlen := hR.max
 unfold maxLen at hlen
 have HRW : Hid (∀ V, NBx Env7 w V w.heap.size #[.int .i8 k, .int .i64 n, .string s, .string t, .slice A l.length cap] → TRow (· < V.heap.size) V A l.length cap l) := fun V h => hR.later h.below
 have HSS : Hid (s.size ≤ maxLen ∧ t.size ≤ maxLen) := ⟨hs, ht⟩
 have HNN : Hid (-9223372036854775808 ≤ n ∧ n ≤ 9223372036854775807) := hn
 obtain ⟨R, hRR⟩ : ∃ R, R = (atomB s) := ⟨_, rfl⟩
 have HR := Lib.hid hRR
 rw [← hRR]
 have HB := Lib.hid (nbx_of env7_E hE #[.int .i8 k, .int .i64 n, .string s, .string t, .slice A l.length cap])
 clear hR hs ht hn hRR hE
 go_enter Tryz.func114, Tryz.ntmps114
 go_upto_region 1 with fail
 generalize w.alloc (.cells #[.int .i8 k, .int .i64 n, .string s, .string t, .slice A l.length cap] 25) = w1 at HB ⊢
 obtain ⟨x0, x1, x2, x3, x4⟩ := five_of HB.out.box
 go_wp2_with fail
 refine (atom_any s HSS.out.1 _ HB.out.env).mono ?_
 rintro e V1 ⟨rfl, b1⟩
 have HB1 := Lib.hid (HB.out.under env7_E b1)
 clear b1
 clear x0 x1 x2 x3 x4
 obtain ⟨x0, x1, x2, x3, x4⟩ := five_of HB1.out.box
 go_wp2_with fail
 go_ret
 exact ⟨ret_bool (by rw [HR.out]; first | done | rfl), HB1.out.below⟩

set_option maxHeartbeats 4000000 in
set_option maxRecDepth 100000 in
theorem shp_nil (k n : Int) (s t : ByteArray) (l : List Tm) (A : Option Addr) (cap : Nat) (p : Int) (w : World) (hR : TRow (· < w.heap.size) w A l.length cap l) (hs : s.size ≤ maxLen) (ht : t.size ≤ maxLen) (hn : -9223372036854775808 ≤ n ∧ n ≤ 9223372036854775807) (hE : Env7 w) :
  Calls Tryz.prog 115 #[.agg #[.int .i8 k, .int .i64 n, .string s, .string t, .slice A l.length cap], .int .u16 p] w fun e w' => e = .returned (.bool (true)) ∧ Below w.heap.size w w' := by
 have hlen := hR.max
 unfold maxLen at hlen
 have HRW : Hid (∀ V, NBx Env7 w V w.heap.size #[.int .i8 k, .int .i64 n, .string s, .string t, .slice A l.length cap] → TRow (· < V.heap.size) V A l.length cap l) := fun V h => hR.later h.below
 have HSS : Hid (s.size ≤ maxLen ∧ t.size ≤ maxLen) := ⟨hs, ht⟩
 have HNN : Hid (-9223372036854775808 ≤ n ∧ n ≤ 9223372036854775807) := hn
 obtain ⟨R, hRR⟩ : ∃ R, R = (true) := ⟨_, rfl⟩
 have HR := Lib.hid hRR
 rw [← hRR]
 have HB := Lib.hid (nbx_of env7_E hE #[.int .i8 k, .int .i64 n, .string s, .string t, .slice A l.length cap])
 clear hR hs ht hn hRR hE
 go_enter Tryz.func115, Tryz.ntmps115
 go_upto_region 1 with fail
 generalize w.alloc (.cells #[.int .i8 k, .int .i64 n, .string s, .string t, .slice A l.length cap] 25) = w1 at HB ⊢
 obtain ⟨x0, x1, x2, x3, x4⟩ := five_of HB.out.box
 go_wp2_with fail
 go_ret
 exact ⟨ret_bool (by rw [HR.out]; first | done | rfl), HB.out.below⟩

set_option maxHeartbeats 4000000 in
set_option maxRecDepth 100000 in
theorem shp_cons (k n : Int) (s t : ByteArray) (l : List Tm) (A : Option Addr) (cap : Nat) (p : Int) (w : World) (hR : TRow (· < w.heap.size) w A l.length cap l) (hs : s.size ≤ maxLen) (ht : t.size ≤ maxLen) (hn : -9223372036854775808 ≤ n ∧ n ≤ 9223372036854775807) (hE : Env7 w) (hM : ∀ y ∈ l, MayAt p y) :
  Calls Tryz.prog 116 #[.agg #[.int .i8 k, .int .i64 n, .string s, .string t, .slice A l.length cap], .int .u16 p] w fun e w' => e = .returned (.bool (((l.length : Int) == 2) && l.all (plcB p))) ∧ Below w.heap.size w w' := by
 have hlen := hR.max
 unfold maxLen at hlen
 have HRW : Hid (∀ V, NBx Env7 w V w.heap.size #[.int .i8 k, .int .i64 n, .string s, .string t, .slice A l.length cap] → TRow (· < V.heap.size) V A l.length cap l) := fun V h => hR.later h.below
 have HSS : Hid (s.size ≤ maxLen ∧ t.size ≤ maxLen) := ⟨hs, ht⟩
 have HNN : Hid (-9223372036854775808 ≤ n ∧ n ≤ 9223372036854775807) := hn
 obtain ⟨R, hRR⟩ : ∃ R, R = (((l.length : Int) == 2) && l.all (plcB p)) := ⟨_, rfl⟩
 have HR := Lib.hid hRR
 rw [← hRR]
 have HM := Lib.hid hM
 have HB := Lib.hid (nbx_of env7_E hE #[.int .i8 k, .int .i64 n, .string s, .string t, .slice A l.length cap])
 clear hR hs ht hn hRR hE hM
 go_enter Tryz.func116, Tryz.ntmps116
 go_upto_region 1 with fail
 generalize w.alloc (.cells #[.int .i8 k, .int .i64 n, .string s, .string t, .slice A l.length cap] 25) = w1 at HB ⊢
 obtain ⟨x0, x1, x2, x3, x4⟩ := five_of HB.out.box
 cases h0 : ((l.length : Int) == 2)
 ·skip
  go_wp2_with fail
  go_ret
  exact ⟨ret_bool (by rw [HR.out]; first | done | (rw [h0]; first | done | rfl)), HB.out.below⟩
 ·skip
  go_wp2_with fail
  refine (all_any p l A l.length cap _ (HRW.out _ HB.out) HB.out.env HM.out).mono ?_
  rintro e V1 ⟨rfl, b1⟩
  have HB1 := Lib.hid (HB.out.under env7_E b1)
  clear b1
  clear x0 x1 x2 x3 x4
  obtain ⟨x0, x1, x2, x3, x4⟩ := five_of HB1.out.box
  go_wp2_with fail
  go_ret
  exact ⟨ret_bool (by rw [HR.out]; first | done | (rw [h0]; first | done | rfl)), HB1.out.below⟩

set_option maxHeartbeats 4000000 in
set_option maxRecDepth 100000 in
theorem shp_tuple (k n : Int) (s t : ByteArray) (l : List Tm) (A : Option Addr) (cap : Nat) (p : Int) (w : World) (hR : TRow (· < w.heap.size) w A l.length cap l) (hs : s.size ≤ maxLen) (ht : t.size ≤ maxLen) (hn : -9223372036854775808 ≤ n ∧ n ≤ 9223372036854775807) (hE : Env7 w) (hM : ∀ y ∈ l, MayAt p y) :
  Calls Tryz.prog 117 #[.agg #[.int .i8 k, .int .i64 n, .string s, .string t, .slice A l.length cap], .int .u16 p] w fun e w' => e = .returned (.bool (l.all (plcB p))) ∧ Below w.heap.size w w' := by
 have hlen := hR.max
 unfold maxLen at hlen
 have HRW : Hid (∀ V, NBx Env7 w V w.heap.size #[.int .i8 k, .int .i64 n, .string s, .string t, .slice A l.length cap] → TRow (· < V.heap.size) V A l.length cap l) := fun V h => hR.later h.below
 have HSS : Hid (s.size ≤ maxLen ∧ t.size ≤ maxLen) := ⟨hs, ht⟩
 have HNN : Hid (-9223372036854775808 ≤ n ∧ n ≤ 9223372036854775807) := hn
 obtain ⟨R, hRR⟩ : ∃ R, R = (l.all (plcB p)) := ⟨_, rfl⟩
 have HR := Lib.hid hRR
 rw [← hRR]
 have HM := Lib.hid hM
 have HB := Lib.hid (nbx_of env7_E hE #[.int .i8 k, .int .i64 n, .string s, .string t, .slice A l.length cap])
 clear hR hs ht hn hRR hE hM
 go_enter Tryz.func117, Tryz.ntmps117
 go_upto_region 1 with fail
 generalize w.alloc (.cells #[.int .i8 k, .int .i64 n, .string s, .string t, .slice A l.length cap] 25) = w1 at HB ⊢
 obtain ⟨x0, x1, x2, x3, x4⟩ := five_of HB.out.box
 go_wp2_with fail
 refine (all_any p l A l.length cap _ (HRW.out _ HB.out) HB.out.env HM.out).mono ?_
 rintro e V1 ⟨rfl, b1⟩
 have HB1 := Lib.hid (HB.out.under env7_E b1)
 clear b1
 clear x0 x1 x2 x3 x4
 obtain ⟨x0, x1, x2, x3, x4⟩ := five_of HB1.out.box
 go_wp2_with fail
 go_ret
 exact ⟨ret_bool (by rw [HR.out]; first | done | rfl), HB1.out.below⟩

set_option maxHeartbeats 4000000 in
set_option maxRecDepth 100000 in
theorem shp_test (k n : Int) (s t : ByteArray) (l : List Tm) (A : Option Addr) (cap : Nat) (p : Int) (w : World) (hR : TRow (· < w.heap.size) w A l.length cap l) (hs : s.size ≤ maxLen) (ht : t.size ≤ maxLen) (hn : -9223372036854775808 ≤ n ∧ n ≤ 9223372036854775807) (hE : Env7 w) (hM : ∀ y ∈ l, MayAt 64 y) :
  Calls Tryz.prog 119 #[.agg #[.int .i8 k, .int .i64 n, .string s, .string t, .slice A l.length cap], .int .u16 p] w fun e w' => e = .returned (.bool (kindB s && ((l.length : Int) == 1) && l.all (plcB 64))) ∧ Below w.heap.size w w' := by
 have hlen := hR.max
 unfold maxLen at hlen
 have HRW : Hid (∀ V, NBx Env7 w V w.heap.size #[.int .i8 k, .int .i64 n, .string s, .string t, .slice A l.length cap] → TRow (· < V.heap.size) V A l.length cap l) := fun V h => hR.later h.below
 have HSS : Hid (s.size ≤ maxLen ∧ t.size ≤ maxLen) := ⟨hs, ht⟩
 have HNN : Hid (-9223372036854775808 ≤ n ∧ n ≤ 9223372036854775807) := hn
 obtain ⟨R, hRR⟩ : ∃ R, R = (kindB s && ((l.length : Int) == 1) && l.all (plcB 64)) := ⟨_, rfl⟩
 have HR := Lib.hid hRR
 rw [← hRR]
 have HM := Lib.hid hM
 have HB := Lib.hid (nbx_of env7_E hE #[.int .i8 k, .int .i64 n, .string s, .string t, .slice A l.length cap])
 clear hR hs ht hn hRR hE hM
 go_enter Tryz.func119, Tryz.ntmps119
 go_upto_region 1 with fail
 generalize w.alloc (.cells #[.int .i8 k, .int .i64 n, .string s, .string t, .slice A l.length cap] 25) = w1 at HB ⊢
 obtain ⟨x0, x1, x2, x3, x4⟩ := five_of HB.out.box
 go_wp2_with fail
 refine (tested_any s _ HB.out.env).mono ?_
 rintro e V1 ⟨rfl, b1⟩
 have HB1 := Lib.hid (HB.out.under env7_E b1)
 clear b1
 clear x0 x1 x2 x3 x4
 obtain ⟨x0, x1, x2, x3, x4⟩ := five_of HB1.out.box
 cases h0 : kindB s
 ·skip
  go_wp2_with fail
  go_ret
  exact ⟨ret_bool (by rw [HR.out]; first | done | (rw [h0]; first | done | rfl)), HB1.out.below⟩
 ·skip
  cases h1 : ((l.length : Int) == 1)
  ·skip
   go_wp2_with fail
   go_ret
   exact ⟨ret_bool (by rw [HR.out]; first | done | (rw [h0, h1]; first | done | rfl)), HB1.out.below⟩
  ·skip
   go_wp2_with fail
   refine (all_any 64 l A l.length cap _ (HRW.out _ HB1.out) HB1.out.env HM.out).mono ?_
   rintro e V2 ⟨rfl, b2⟩
   have HB2 := Lib.hid (HB1.out.under env7_E b2)
   clear b2
   clear x0 x1 x2 x3 x4
   obtain ⟨x0, x1, x2, x3, x4⟩ := five_of HB2.out.box
   go_wp2_with fail
   go_ret
   exact ⟨ret_bool (by rw [HR.out]; first | done | (rw [h0, h1]; first | done | rfl)), HB2.out.below⟩

set_option maxHeartbeats 4000000 in
set_option maxRecDepth 100000 in
theorem shp_call (k n : Int) (s t : ByteArray) (l : List Tm) (A : Option Addr) (cap : Nat) (p : Int) (w : World) (hR : TRow (· < w.heap.size) w A l.length cap l) (hs : s.size ≤ maxLen) (ht : t.size ≤ maxLen) (hn : -9223372036854775808 ≤ n ∧ n ≤ 9223372036854775807) (hE : Env7 w) (hM : ∀ y ∈ l, MayAt 256 y) :
  Calls Tryz.prog 122 #[.agg #[.int .i8 k, .int .i64 n, .string s, .string t, .slice A l.length cap], .int .u16 p] w fun e w' => e = .returned (.bool (atomB s && (decide (l.length ≤ 8) && l.all (plcB 256)))) ∧ Below w.heap.size w w' := by
 have hlen := hR.max
 unfold maxLen at hlen
 have HRW : Hid (∀ V, NBx Env7 w V w.heap.size #[.int .i8 k, .int .i64 n, .string s, .string t, .slice A l.length cap] → TRow (· < V.heap.size) V A l.length cap l) := fun V h => hR.later h.below
 have HSS : Hid (s.size ≤ maxLen ∧ t.size ≤ maxLen) := ⟨hs, ht⟩
 have HNN : Hid (-9223372036854775808 ≤ n ∧ n ≤ 9223372036854775807) := hn
 obtain ⟨R, hRR⟩ : ∃ R, R = (atomB s && (decide (l.length ≤ 8) && l.all (plcB 256))) := ⟨_, rfl⟩
 have HR := Lib.hid hRR
 rw [← hRR]
 have HM := Lib.hid hM
 have HB := Lib.hid (nbx_of env7_E hE #[.int .i8 k, .int .i64 n, .string s, .string t, .slice A l.length cap])
 clear hR hs ht hn hRR hE hM
 go_enter Tryz.func122, Tryz.ntmps122
 go_upto_region 1 with fail
 generalize w.alloc (.cells #[.int .i8 k, .int .i64 n, .string s, .string t, .slice A l.length cap] 25) = w1 at HB ⊢
 obtain ⟨x0, x1, x2, x3, x4⟩ := five_of HB.out.box
 go_wp2_with fail
 refine (atom_any s HSS.out.1 _ HB.out.env).mono ?_
 rintro e V1 ⟨rfl, b1⟩
 have HB1 := Lib.hid (HB.out.under env7_E b1)
 clear b1
 clear x0 x1 x2 x3 x4
 obtain ⟨x0, x1, x2, x3, x4⟩ := five_of HB1.out.box
 cases h0 : atomB s
 ·skip
  go_wp2_with fail
  go_ret
  exact ⟨ret_bool (by rw [HR.out]; first | done | (rw [h0]; first | done | rfl)), HB1.out.below⟩
 ·skip
  go_wp2_with fail
  refine (arguments_any l A l.length cap _ (HRW.out _ HB1.out) HB1.out.env HM.out).mono ?_
  rintro e V2 ⟨rfl, b2⟩
  have HB2 := Lib.hid (HB1.out.under env7_E b2)
  clear b2
  clear x0 x1 x2 x3 x4
  obtain ⟨x0, x1, x2, x3, x4⟩ := five_of HB2.out.box
  go_wp2_with fail
  go_ret
  exact ⟨ret_bool (by rw [HR.out]; first | done | (rw [h0]; first | done | rfl)), HB2.out.below⟩

set_option maxHeartbeats 4000000 in
set_option maxRecDepth 100000 in
theorem shp_remote (k n : Int) (s t : ByteArray) (l : List Tm) (A : Option Addr) (cap : Nat) (p : Int) (w : World) (hR : TRow (· < w.heap.size) w A l.length cap l) (hs : s.size ≤ maxLen) (ht : t.size ≤ maxLen) (hn : -9223372036854775808 ≤ n ∧ n ≤ 9223372036854775807) (hE : Env7 w) (hM : ∀ y ∈ l, MayAt 256 y) :
  Calls Tryz.prog 124 #[.agg #[.int .i8 k, .int .i64 n, .string s, .string t, .slice A l.length cap], .int .u16 p] w fun e w' => e = .returned (.bool (atomB s && atomB t && (decide (l.length ≤ 8) && l.all (plcB 256)))) ∧ Below w.heap.size w w' := by
 have hlen := hR.max
 unfold maxLen at hlen
 have HRW : Hid (∀ V, NBx Env7 w V w.heap.size #[.int .i8 k, .int .i64 n, .string s, .string t, .slice A l.length cap] → TRow (· < V.heap.size) V A l.length cap l) := fun V h => hR.later h.below
 have HSS : Hid (s.size ≤ maxLen ∧ t.size ≤ maxLen) := ⟨hs, ht⟩
 have HNN : Hid (-9223372036854775808 ≤ n ∧ n ≤ 9223372036854775807) := hn
 obtain ⟨R, hRR⟩ : ∃ R, R = (atomB s && atomB t && (decide (l.length ≤ 8) && l.all (plcB 256))) := ⟨_, rfl⟩
 have HR := Lib.hid hRR
 rw [← hRR]
 have HM := Lib.hid hM
 have HB := Lib.hid (nbx_of env7_E hE #[.int .i8 k, .int .i64 n, .string s, .string t, .slice A l.length cap])
 clear hR hs ht hn hRR hE hM
 go_enter Tryz.func124, Tryz.ntmps124
 go_upto_region 1 with fail
 generalize w.alloc (.cells #[.int .i8 k, .int .i64 n, .string s, .string t, .slice A l.length cap] 25) = w1 at HB ⊢
 obtain ⟨x0, x1, x2, x3, x4⟩ := five_of HB.out.box
 go_wp2_with fail
 refine (atom_any s HSS.out.1 _ HB.out.env).mono ?_
 rintro e V1 ⟨rfl, b1⟩
 have HB1 := Lib.hid (HB.out.under env7_E b1)
 clear b1
 clear x0 x1 x2 x3 x4
 obtain ⟨x0, x1, x2, x3, x4⟩ := five_of HB1.out.box
 cases h0 : atomB s
 ·skip
  go_wp2_with fail
  go_ret
  exact ⟨ret_bool (by rw [HR.out]; first | done | (rw [h0]; first | done | rfl)), HB1.out.below⟩
 ·skip
  go_wp2_with fail
  refine (atom_any t HSS.out.2 _ HB1.out.env).mono ?_
  rintro e V2 ⟨rfl, b2⟩
  have HB2 := Lib.hid (HB1.out.under env7_E b2)
  clear b2
  clear x0 x1 x2 x3 x4
  obtain ⟨x0, x1, x2, x3, x4⟩ := five_of HB2.out.box
  cases h1 : atomB t
  ·skip
   go_wp2_with fail
   go_ret
   exact ⟨ret_bool (by rw [HR.out]; first | done | (rw [h0, h1]; first | done | rfl)), HB2.out.below⟩
  ·skip
   go_wp2_with fail
   refine (arguments_any l A l.length cap _ (HRW.out _ HB2.out) HB2.out.env HM.out).mono ?_
   rintro e V3 ⟨rfl, b3⟩
   have HB3 := Lib.hid (HB2.out.under env7_E b3)
   clear b3
   clear x0 x1 x2 x3 x4
   obtain ⟨x0, x1, x2, x3, x4⟩ := five_of HB3.out.box
   go_wp2_with fail
   go_ret
   exact ⟨ret_bool (by rw [HR.out]; first | done | (rw [h0, h1]; first | done | rfl)), HB3.out.below⟩

set_option maxHeartbeats 4000000 in
set_option maxRecDepth 100000 in
theorem shp_ref (k n : Int) (s t : ByteArray) (l : List Tm) (A : Option Addr) (cap : Nat) (p : Int) (w : World) (hR : TRow (· < w.heap.size) w A l.length cap l) (hs : s.size ≤ maxLen) (ht : t.size ≤ maxLen) (hn : -9223372036854775808 ≤ n ∧ n ≤ 9223372036854775807) (hE : Env7 w) :
  Calls Tryz.prog 126 #[.agg #[.int .i8 k, .int .i64 n, .string s, .string t, .slice A l.length cap], .int .u16 p] w fun e w' => e = .returned (.bool (atomB s && atomB t && arQ n)) ∧ Below w.heap.size w w' := by
 have hlen := hR.max
 unfold maxLen at hlen
 have HRW : Hid (∀ V, NBx Env7 w V w.heap.size #[.int .i8 k, .int .i64 n, .string s, .string t, .slice A l.length cap] → TRow (· < V.heap.size) V A l.length cap l) := fun V h => hR.later h.below
 have HSS : Hid (s.size ≤ maxLen ∧ t.size ≤ maxLen) := ⟨hs, ht⟩
 have HNN : Hid (-9223372036854775808 ≤ n ∧ n ≤ 9223372036854775807) := hn
 obtain ⟨R, hRR⟩ : ∃ R, R = (atomB s && atomB t && arQ n) := ⟨_, rfl⟩
 have HR := Lib.hid hRR
 rw [← hRR]
 have HB := Lib.hid (nbx_of env7_E hE #[.int .i8 k, .int .i64 n, .string s, .string t, .slice A l.length cap])
 clear hR hs ht hn hRR hE
 go_enter Tryz.func126, Tryz.ntmps126
 go_upto_region 1 with fail
 generalize w.alloc (.cells #[.int .i8 k, .int .i64 n, .string s, .string t, .slice A l.length cap] 25) = w1 at HB ⊢
 obtain ⟨x0, x1, x2, x3, x4⟩ := five_of HB.out.box
 go_wp2_with fail
 refine (atom_any s HSS.out.1 _ HB.out.env).mono ?_
 rintro e V1 ⟨rfl, b1⟩
 have HB1 := Lib.hid (HB.out.under env7_E b1)
 clear b1
 clear x0 x1 x2 x3 x4
 obtain ⟨x0, x1, x2, x3, x4⟩ := five_of HB1.out.box
 cases h0 : atomB s
 ·skip
  go_wp2_with fail
  go_ret
  exact ⟨ret_bool (by rw [HR.out]; first | done | (rw [h0]; first | done | rfl)), HB1.out.below⟩
 ·skip
  go_wp2_with fail
  refine (atom_any t HSS.out.2 _ HB1.out.env).mono ?_
  rintro e V2 ⟨rfl, b2⟩
  have HB2 := Lib.hid (HB1.out.under env7_E b2)
  clear b2
  clear x0 x1 x2 x3 x4
  obtain ⟨x0, x1, x2, x3, x4⟩ := five_of HB2.out.box
  cases h1 : atomB t
  ·skip
   go_wp2_with fail
   go_ret
   exact ⟨ret_bool (by rw [HR.out]; first | done | (rw [h0, h1]; first | done | rfl)), HB2.out.below⟩
  ·skip
   go_wp2_with fail
   refine (arity_any n _).mono ?_
   rintro e V3 ⟨rfl, b3⟩
   have HB3 := Lib.hid (HB2.out.under env7_E b3)
   clear b3
   clear x0 x1 x2 x3 x4
   obtain ⟨x0, x1, x2, x3, x4⟩ := five_of HB3.out.box
   go_wp2_with fail
   go_ret
   exact ⟨ret_bool (by rw [HR.out]; first | done | (rw [h0, h1]; first | done | rfl)), HB3.out.below⟩

set_option maxHeartbeats 4000000 in
set_option maxRecDepth 100000 in
theorem shp_fun (k n : Int) (s t : ByteArray) (l : List Tm) (A : Option Addr) (cap : Nat) (p : Int) (w : World) (hR : TRow (· < w.heap.size) w A l.length cap l) (hs : s.size ≤ maxLen) (ht : t.size ≤ maxLen) (hn : -9223372036854775808 ≤ n ∧ n ≤ 9223372036854775807) (hE : Env7 w) (hM : ∀ y ∈ l, MayAt 8 y) :
  Calls Tryz.prog 107 #[.agg #[.int .i8 k, .int .i64 n, .string s, .string t, .slice A l.length cap], .int .u16 p] w fun e w' => e = .returned (.bool (atomB s && arQ n && clausesR l n)) ∧ Below w.heap.size w w' := by
 have hlen := hR.max
 unfold maxLen at hlen
 have HRW : Hid (∀ V, NBx Env7 w V w.heap.size #[.int .i8 k, .int .i64 n, .string s, .string t, .slice A l.length cap] → TRow (· < V.heap.size) V A l.length cap l) := fun V h => hR.later h.below
 have HSS : Hid (s.size ≤ maxLen ∧ t.size ≤ maxLen) := ⟨hs, ht⟩
 have HNN : Hid (-9223372036854775808 ≤ n ∧ n ≤ 9223372036854775807) := hn
 obtain ⟨R, hRR⟩ : ∃ R, R = (atomB s && arQ n && clausesR l n) := ⟨_, rfl⟩
 have HR := Lib.hid hRR
 rw [← hRR]
 have HM := Lib.hid hM
 have HB := Lib.hid (nbx_of env7_E hE #[.int .i8 k, .int .i64 n, .string s, .string t, .slice A l.length cap])
 clear hR hs ht hn hRR hE hM
 go_enter Tryz.func107, Tryz.ntmps107
 go_upto_region 1 with fail
 generalize w.alloc (.cells #[.int .i8 k, .int .i64 n, .string s, .string t, .slice A l.length cap] 25) = w1 at HB ⊢
 obtain ⟨x0, x1, x2, x3, x4⟩ := five_of HB.out.box
 go_wp2_with fail
 refine (atom_any s HSS.out.1 _ HB.out.env).mono ?_
 rintro e V1 ⟨rfl, b1⟩
 have HB1 := Lib.hid (HB.out.under env7_E b1)
 clear b1
 clear x0 x1 x2 x3 x4
 obtain ⟨x0, x1, x2, x3, x4⟩ := five_of HB1.out.box
 cases h0 : atomB s
 ·skip
  go_wp2_with fail
  go_ret
  exact ⟨ret_bool (by rw [HR.out]; first | done | (rw [h0]; first | done | rfl)), HB1.out.below⟩
 ·skip
  go_wp2_with fail
  refine (arity_any n _).mono ?_
  rintro e V2 ⟨rfl, b2⟩
  have HB2 := Lib.hid (HB1.out.under env7_E b2)
  clear b2
  clear x0 x1 x2 x3 x4
  obtain ⟨x0, x1, x2, x3, x4⟩ := five_of HB2.out.box
  cases h1 : arQ n
  ·skip
   go_wp2_with fail
   go_ret
   exact ⟨ret_bool (by rw [HR.out]; first | done | (rw [h0, h1]; first | done | rfl)), HB2.out.below⟩
  ·skip
   go_wp2_with fail
   refine (clauses_any n l A l.length cap _ (HRW.out _ HB2.out) HB2.out.env HM.out).mono ?_
   rintro e V3 ⟨rfl, b3⟩
   have HB3 := Lib.hid (HB2.out.under env7_E b3)
   clear b3
   clear x0 x1 x2 x3 x4
   obtain ⟨x0, x1, x2, x3, x4⟩ := five_of HB3.out.box
   go_wp2_with fail
   go_ret
   exact ⟨ret_bool (by rw [HR.out]; first | done | (rw [h0, h1]; first | done | rfl)), HB3.out.below⟩

set_option maxHeartbeats 4000000 in
set_option maxRecDepth 100000 in
theorem shp_case (k n : Int) (s t : ByteArray) (l : List Tm) (A : Option Addr) (cap : Nat) (p : Int) (w : World) (hR : TRow (· < w.heap.size) w A l.length cap l) (hs : s.size ≤ maxLen) (ht : t.size ≤ maxLen) (hn : -9223372036854775808 ≤ n ∧ n ≤ 9223372036854775807) (hE : Env7 w) (hM : ∀ y ∈ l, MayAt 256 y ∧ MayAt 8 y) :
  Calls Tryz.prog 128 #[.agg #[.int .i8 k, .int .i64 n, .string s, .string t, .slice A l.length cap], .int .u16 p] w fun e w' => e = .returned (.bool (choiceR l 1)) ∧ Below w.heap.size w w' := by
 have hlen := hR.max
 unfold maxLen at hlen
 have HRW : Hid (∀ V, NBx Env7 w V w.heap.size #[.int .i8 k, .int .i64 n, .string s, .string t, .slice A l.length cap] → TRow (· < V.heap.size) V A l.length cap l) := fun V h => hR.later h.below
 have HSS : Hid (s.size ≤ maxLen ∧ t.size ≤ maxLen) := ⟨hs, ht⟩
 have HNN : Hid (-9223372036854775808 ≤ n ∧ n ≤ 9223372036854775807) := hn
 obtain ⟨R, hRR⟩ : ∃ R, R = (choiceR l 1) := ⟨_, rfl⟩
 have HR := Lib.hid hRR
 rw [← hRR]
 have HM := Lib.hid hM
 have HB := Lib.hid (nbx_of env7_E hE #[.int .i8 k, .int .i64 n, .string s, .string t, .slice A l.length cap])
 clear hR hs ht hn hRR hE hM
 go_enter Tryz.func128, Tryz.ntmps128
 go_upto_region 1 with fail
 generalize w.alloc (.cells #[.int .i8 k, .int .i64 n, .string s, .string t, .slice A l.length cap] 25) = w1 at HB ⊢
 obtain ⟨x0, x1, x2, x3, x4⟩ := five_of HB.out.box
 go_wp2_with fail
 refine (choice_any 1 l A l.length cap _ (HRW.out _ HB.out) HB.out.env HM.out).mono ?_
 rintro e V1 ⟨rfl, b1⟩
 have HB1 := Lib.hid (HB.out.under env7_E b1)
 clear b1
 clear x0 x1 x2 x3 x4
 obtain ⟨x0, x1, x2, x3, x4⟩ := five_of HB1.out.box
 go_wp2_with fail
 go_ret
 exact ⟨ret_bool (by rw [HR.out]; first | done | rfl), HB1.out.below⟩

set_option maxHeartbeats 4000000 in
set_option maxRecDepth 100000 in
theorem shp_after (k n : Int) (s t : ByteArray) (l : List Tm) (A : Option Addr) (cap : Nat) (p : Int) (w : World) (hR : TRow (· < w.heap.size) w A l.length cap l) (hs : s.size ≤ maxLen) (ht : t.size ≤ maxLen) (hn : -9223372036854775808 ≤ n ∧ n ≤ 9223372036854775807) (hE : Env7 w) (hM : ∀ y ∈ l, MayAt 256 y) :
  Calls Tryz.prog 132 #[.agg #[.int .i8 k, .int .i64 n, .string s, .string t, .slice A l.length cap], .int .u16 p] w fun e w' => e = .returned (.bool (decide (2 ≤ l.length) && l.all (plcB 256))) ∧ Below w.heap.size w w' := by
 have hlen := hR.max
 unfold maxLen at hlen
 have HRW : Hid (∀ V, NBx Env7 w V w.heap.size #[.int .i8 k, .int .i64 n, .string s, .string t, .slice A l.length cap] → TRow (· < V.heap.size) V A l.length cap l) := fun V h => hR.later h.below
 have HSS : Hid (s.size ≤ maxLen ∧ t.size ≤ maxLen) := ⟨hs, ht⟩
 have HNN : Hid (-9223372036854775808 ≤ n ∧ n ≤ 9223372036854775807) := hn
 obtain ⟨R, hRR⟩ : ∃ R, R = (decide (2 ≤ l.length) && l.all (plcB 256)) := ⟨_, rfl⟩
 have HR := Lib.hid hRR
 rw [← hRR]
 have HM := Lib.hid hM
 have HB := Lib.hid (nbx_of env7_E hE #[.int .i8 k, .int .i64 n, .string s, .string t, .slice A l.length cap])
 clear hR hs ht hn hRR hE hM
 go_enter Tryz.func132, Tryz.ntmps132
 go_upto_region 1 with fail
 generalize w.alloc (.cells #[.int .i8 k, .int .i64 n, .string s, .string t, .slice A l.length cap] 25) = w1 at HB ⊢
 obtain ⟨x0, x1, x2, x3, x4⟩ := five_of HB.out.box
 cases h0 : decide (2 ≤ l.length)
 ·skip
  have h0p : (l.length : Int) < 2 := by have := of_decide_eq_false h0; omega
  go_wp2_with fail
  go_ret
  exact ⟨ret_bool (by rw [HR.out]; first | done | (rw [h0]; first | done | rfl)), HB.out.below⟩
 ·skip
  have h0p : (2 : Int) ≤ l.length := by have := of_decide_eq_true h0; omega
  go_wp2_with fail
  refine (all_any 256 l A l.length cap _ (HRW.out _ HB.out) HB.out.env HM.out).mono ?_
  rintro e V1 ⟨rfl, b1⟩
  have HB1 := Lib.hid (HB.out.under env7_E b1)
  clear b1
  clear x0 x1 x2 x3 x4
  obtain ⟨x0, x1, x2, x3, x4⟩ := five_of HB1.out.box
  go_wp2_with fail
  go_ret
  exact ⟨ret_bool (by rw [HR.out]; first | done | (rw [h0]; first | done | rfl)), HB1.out.below⟩

end Go.Proofs.YtmdcdhdjojimeaaGreatDoor
set_option linter.unusedVariables false
namespace Go.Proofs.YtmdcdhdjojimeaaGreatDoor
open Go.RowKit

theorem cmpR_cmpB (s : ByteArray) (c : Int) : (cmpR s c).2 = cmpB s := by
 unfold cmpR cmpB sEq sNe sLt sLe sGt sGe
 by_cases h1 : s = ⟨#[61, 58, 61]⟩
 ·subst h1; rfl
 by_cases h2 : s = ⟨#[61, 47, 61]⟩
 ·subst h2; rfl
 by_cases h3 : s = ⟨#[60]⟩
 ·subst h3; rfl
 by_cases h4 : s = ⟨#[61, 60]⟩
 ·subst h4; rfl
 by_cases h5 : s = ⟨#[62]⟩
 ·subst h5; rfl
 by_cases h6 : s = ⟨#[62, 61]⟩
 ·subst h6; rfl
 rw [if_neg h1, if_neg h2, if_neg h3, if_neg h4, if_neg h5, if_neg h6]
 have g : ∀ l : List UInt8, ¬ s = ⟨l.toArray⟩ → (s.data.toList == l) = false := fun l h => beq_eq_false_iff_ne.2 fun e => h (ByteArray.ext (by rw [← e]))
 simp only [List.any_cons, List.any_nil, g _ h1, g _ h2, g _ h3, g _ h4, g _ h5, g _ h6, Bool.or_false]
theorem arith_ariB (s : ByteArray) : arithB s = ariB s := by
 unfold arithB ariB sPlus sMinus sTimes sDiv sRem
 by_cases h1 : s = ⟨#[43]⟩
 ·subst h1; rfl
 by_cases h2 : s = ⟨#[45]⟩
 ·subst h2; rfl
 by_cases h3 : s = ⟨#[42]⟩
 ·subst h3; rfl
 by_cases h4 : s = ⟨#[100, 105, 118]⟩
 ·subst h4; rfl
 by_cases h5 : s = ⟨#[114, 101, 109]⟩
 ·subst h5; rfl
 rw [decide_eq_false (by rintro (h | h | h | h | h) <;> contradiction)]
 have g : ∀ l : List UInt8, ¬ s = ⟨l.toArray⟩ → (s.data.toList == l) = false := fun l h => beq_eq_false_iff_ne.2 fun e => h (ByteArray.ext (by rw [← e]))
 simp only [List.any_cons, List.any_nil, g _ h1, g _ h2, g _ h3, g _ h4, g _ h5, Bool.or_false]

theorem elem_one {w : World} {ad : Addr} {c0 c1 c2 c3 c4 : Value} (h : ElemAt w ad 1 (.agg #[c0, c1, c2, c3, c4])) :
  w.cell? ⟨ad.block, ad.off + 5, none⟩ = some c0 ∧ w.cell? ⟨ad.block, ad.off + 5 + 1, none⟩ = some c1 ∧ w.cell? ⟨ad.block, ad.off + 5 + 2, none⟩ = some c2 ∧ w.cell? ⟨ad.block, ad.off + 5 + 3, none⟩ = some c3 ∧ w.cell? ⟨ad.block, ad.off + 5 + 4, none⟩ = some c4 := by
 obtain ⟨d0, d1, d2, d3, d4, e, h0, h1, h2, h3, h4⟩ := h
 simp only [Value.agg.injEq, Array.mk.injEq, List.cons.injEq, and_true] at e
 obtain ⟨rfl, rfl, rfl, rfl, rfl⟩ := e
 rw [← five_on] at h0 h1 h2 h3 h4
 exact ⟨h0, h1, h2, h3, h4⟩
def operR (s : ByteArray) (p : Int) : Bool := if p = 32 then cmpB s else if p = 64 then plusB s else cmpB s || ariB s
set_option maxHeartbeats 4000000 in
theorem operator_any (s : ByteArray) (p : Int) (w : World) : Calls Tryz.prog 142 #[.string s, .int .u16 p] w fun e w' => e = .returned (.bool (operR s p)) ∧ Below w.heap.size w w' := by
 obtain ⟨R, hR⟩ : ∃ R, R = operR s p := ⟨_, rfl⟩
 have HR := Lib.hid hR
 rw [← hR]
 obtain ⟨c1, hc1⟩ : ∃ c1, c1 = (cmpR s 0).1 := ⟨_, rfl⟩
 obtain ⟨c2, hc2⟩ : ∃ c2, c2 = cmpB s := ⟨_, rfl⟩
 have HC2 := Lib.hid hc2
 have HCC : Hid (∀ V, Calls Tryz.prog 147 #[.string s, .int .i64 0] V fun e w' => e = .returned (.tuple #[.bool c1, .bool c2]) ∧ Below V.heap.size V w') := fun V =>
  (Compare_any s 0 V).mono fun e w' h => ⟨by rw [h.1, ← hc1, cmpR_cmpB, ← hc2], h.2⟩
 clear hR hc1 hc2
 go_enter Tryz.func142, Tryz.ntmps142
 go_wp2_with fail
 refine (HCC.out w).mono ?_
 rintro e w1 ⟨rfl, b1⟩
 have HB := Lib.hid b1
 clear b1
 by_cases h1 : p = 32
 ·go_wp2_with fail
  go_ret
  exact ⟨ret_bool (by rw [HR.out, HC2.out]; unfold operR; rw [if_pos h1]), HB.out⟩
 by_cases h2 : p = 64
 ·go_wp2_with fail
  all_goals
   go_ret
   exact ⟨ret_bool (by rw [HR.out]; unfold operR plusB; rw [if_neg h1, if_pos h2]; simp_all [Go.Lib.toList_data, Bool.or_assoc]), HB.out⟩
 cases hb : c2
 ·go_wp2_with fail
  refine (Arith_any s w1).mono ?_
  rintro e w2 ⟨rfl, b2⟩
  go_wp2_with fail
  go_ret
  exact ⟨ret_bool (by rw [HR.out]; unfold operR; rw [if_neg h1, if_neg h2, ← HC2.out, hb, arith_ariB]; rfl), HB.out.trans (b2.mono HB.out.size)⟩
 ·go_wp2_with fail
  go_ret
  exact ⟨ret_bool (by rw [HR.out]; unfold operR; rw [if_neg h1, if_neg h2, ← HC2.out, hb]; rfl), HB.out⟩

def opdQ (p : Int) : Int := if p = 32 then 64 else p
set_option maxHeartbeats 1000000 in
theorem operand_any (p : Int) (w : World) : Calls Tryz.prog 143 #[.int .u16 p] w fun e w' => e = .returned (.int .u16 (opdQ p)) ∧ Below w.heap.size w w' := by
 have HB := Lib.hid (Below.refl w.heap.size w)
 by_cases h1 : p = 32
 ·go_enter Tryz.func143, Tryz.ntmps143
  go_wp2_with fail
  go_ret
  exact ⟨ret_int (by unfold opdQ; rw [if_pos h1]), HB.out⟩
 ·go_enter Tryz.func143, Tryz.ntmps143
  go_wp2_with fail
  go_ret
  exact ⟨ret_int (by unfold opdQ; rw [if_neg h1]), HB.out⟩

def clsQ (k : Int) (s : ByteArray) : Bool := k == 5 || (k == 7 && classB s)
set_option maxHeartbeats 4000000 in
theorem class_any (k n : Int) (s t : ByteArray) (A : Option Addr) (len cap : Nat) (w : World) : Calls Tryz.prog 144 #[.agg #[.int .i8 k, .int .i64 n, .string s, .string t, .slice A len cap]] w fun e w' => e = .returned (.bool (clsQ k s)) ∧ Below w.heap.size w w' := by
 obtain ⟨R, hR⟩ : ∃ R, R = clsQ k s := ⟨_, rfl⟩
 have HR := Lib.hid hR
 rw [← hR]
 clear hR
 have HB : Hid (Below w.heap.size w (w.alloc (.cells #[.int .i8 k, .int .i64 n, .string s, .string t, .slice A len cap] 25))) := (Below.refl _ w).alloc (Nat.le_refl _) _
 by_cases h1 : k = 5
 ·go_enter Tryz.func144, Tryz.ntmps144
  go_wp2_with fail
  go_ret
  exact ⟨ret_bool (by rw [HR.out]; unfold clsQ; simp [h1]), (Below.refl _ w).alloc (Nat.le_refl _) _⟩
 by_cases h2 : k = 7
 ·go_enter Tryz.func144, Tryz.ntmps144
  go_wp2_with fail
  all_goals
   go_ret
   exact ⟨ret_bool (by rw [HR.out]; unfold clsQ classB; simp_all [Go.Lib.toList_data, Bool.or_assoc]), (Below.refl _ w).alloc (Nat.le_refl _) _⟩
 ·go_enter Tryz.func144, Tryz.ntmps144
  go_wp2_with fail
  go_ret
  exact ⟨ret_bool (by rw [HR.out]; unfold clsQ; simp [h1, h2]), HB.out⟩

set_option maxHeartbeats 8000000 in
set_option maxRecDepth 100000 in
theorem shp_op (k n : Int) (s t : ByteArray) (l : List Tm) (A : Option Addr) (cap : Nat) (p : Int) (w : World) (hR : TRow (· < w.heap.size) w A l.length cap l) (hs : s.size ≤ maxLen) (ht : t.size ≤ maxLen) (hn : -9223372036854775808 ≤ n ∧ n ≤ 9223372036854775807) (hE : Env7 w) (hM : ∀ y ∈ l, MayAt (opdQ p) y) :
  Calls Tryz.prog 118 #[.agg #[.int .i8 k, .int .i64 n, .string s, .string t, .slice A l.length cap], .int .u16 p] w fun e w' => e = .returned (.bool (operR s p && ((l.length : Int) == 2) && l.all (plcB (opdQ p)))) ∧ Below w.heap.size w w' := by
 have hlen := hR.max
 unfold maxLen at hlen
 have hcap := hR.cap
 have HRW : Hid (∀ V, NBx Env7 w V w.heap.size #[.int .i8 k, .int .i64 n, .string s, .string t, .slice A l.length cap] → TRow (· < V.heap.size) V A l.length cap l) := fun V h => hR.later h.below
 have HSS : Hid (s.size ≤ maxLen ∧ t.size ≤ maxLen) := ⟨hs, ht⟩
 have HNN : Hid (-9223372036854775808 ≤ n ∧ n ≤ 9223372036854775807) := hn
 obtain ⟨R, hRR⟩ : ∃ R, R = (operR s p && ((l.length : Int) == 2) && l.all (plcB (opdQ p))) := ⟨_, rfl⟩
 have HR := Lib.hid hRR
 rw [← hRR]
 have HM := Lib.hid hM
 have HB := Lib.hid (nbx_of env7_E hE #[.int .i8 k, .int .i64 n, .string s, .string t, .slice A l.length cap])
 clear hR hs ht hn hRR hE hM
 go_enter Tryz.func118, Tryz.ntmps118
 go_upto_region 1 with fail
 generalize w.alloc (.cells #[.int .i8 k, .int .i64 n, .string s, .string t, .slice A l.length cap] 25) = w1 at HB ⊢
 obtain ⟨x0, x1, x2, x3, x4⟩ := five_of HB.out.box
 clear x0 x1 x2 x3 x4
 refine wp_region_held (S := fun V => Below w1.heap.size w1 V) (by kernel_rfl) ?_
 show wpAnyH _ _ _ _ _ _ _ _ w1.drew
 have hS0 : Below w1.heap.size w1 w1.drew := ⟨rfl, rfl, rfl, Nat.le_refl _, fun _ _ => rfl⟩
 generalize w1.drew = D at hS0 ⊢
 refine tkq 0 ?_; (try simp only [Act.put, sI, sZ, sS])
 refine wpAnyH_take (i := 1) (oi := ⟨some 6, _, _, _, _, _⟩) (v := ?_) rfl (by kernel_rfl) (by kernel_rfl) (by kernel_rfl) (fun _ _ _ h => h) (Or.inl ⟨by kernel_rfl, ?_⟩) (by assumption) ?_; rotate_left; (intro w hSw; (try dsimp only at hSw); have q0 := cell_of_row (i := 0) ((hSw.block _ (heap_lt HB.out.box)).trans HB.out.box) rfl; have q1 := cell_of_row (i := 1) ((hSw.block _ (heap_lt HB.out.box)).trans HB.out.box) rfl; have q2 := cell_of_row (i := 2) ((hSw.block _ (heap_lt HB.out.box)).trans HB.out.box) rfl; have q3 := cell_of_row (i := 3) ((hSw.block _ (heap_lt HB.out.box)).trans HB.out.box) rfl; have q4 := cell_of_row (i := 4) ((hSw.block _ (heap_lt HB.out.box)).trans HB.out.box) rfl; go_simp; first | done | with_reducible rfl); (try simp only [Act.put, sI, sZ, sS])
 refine tkq 2 ?_; (try simp only [Act.put, sI, sZ, sS])
 refine wpAnyH_ready (rs := [3]) (by kernel_rfl) (by simp) ?_
 refine AllReadyH.cons (o := ⟨some 8, _, _, _, _, _⟩) rfl (fun K hK => ?_) AllReadyH.nil
 rw [if_pos (by rfl)]
 go_simp
 refine (operator_any s p D).mono ?_
 rintro e Y1 ⟨rfl, bY⟩
 have hS1 : Below w1.heap.size w1 Y1 := hS0.trans (bY.mono hS0.size)
 clear bY
 refine hK.out _ _ hS1 (fun hSn => ?_)
 clear hK K; (try simp only [Act.put, sI, sZ, sS])
 cases h0 : operR s p
 ·skip
  refine tkq 4 ?_; (try simp only [Act.put, sI, sZ, sS])
  refine skq 5 ?_; (try simp only [Act.put, sI, sZ, sS])
  refine skq 6 ?_; (try simp only [Act.put, sI, sZ, sS])
  refine skq 7 ?_; (try simp only [Act.put, sI, sZ, sS])
  refine skq 8 ?_; (try simp only [Act.put, sI, sZ, sS])
  refine tkq 9 ?_; (try simp only [Act.put, sI, sZ, sS])
  refine tkq 10 ?_; (try simp only [Act.put, sI, sZ, sS])
  refine skq 11 ?_; (try simp only [Act.put, sI, sZ, sS])
  refine skq 12 ?_; (try simp only [Act.put, sI, sZ, sS])
  refine skq 13 ?_; (try simp only [Act.put, sI, sZ, sS])
  refine skq 14 ?_; (try simp only [Act.put, sI, sZ, sS])
  refine skq 15 ?_; (try simp only [Act.put, sI, sZ, sS])
  refine tkq 16 ?_; (try simp only [Act.put, sI, sZ, sS])
  refine tkq 17 ?_; (try simp only [Act.put, sI, sZ, sS])
  refine wpAnyH_done (by kernel_rfl) ?_ _
  go_wp2_with fail
  go_ret
  exact ⟨ret_bool (by rw [HR.out, h0]; first | done | rfl), HB.out.below.trans (hS1.mono HB.out.below.size)⟩
 ·skip
  refine tkq 4 ?_; (try simp only [Act.put, sI, sZ, sS])
  refine tkq 5 ?_; (try simp only [Act.put, sI, sZ, sS])
  refine wpAnyH_take (i := 6) (oi := ⟨some 11, _, _, _, _, _⟩) (v := ?_) rfl (by kernel_rfl) (by kernel_rfl) (by kernel_rfl) (fun _ _ _ h => h) (Or.inl ⟨by kernel_rfl, ?_⟩) (by assumption) ?_; rotate_left; (intro w hSw; (try dsimp only at hSw); have q0 := cell_of_row (i := 0) ((hSw.block _ (heap_lt HB.out.box)).trans HB.out.box) rfl; have q1 := cell_of_row (i := 1) ((hSw.block _ (heap_lt HB.out.box)).trans HB.out.box) rfl; have q2 := cell_of_row (i := 2) ((hSw.block _ (heap_lt HB.out.box)).trans HB.out.box) rfl; have q3 := cell_of_row (i := 3) ((hSw.block _ (heap_lt HB.out.box)).trans HB.out.box) rfl; have q4 := cell_of_row (i := 4) ((hSw.block _ (heap_lt HB.out.box)).trans HB.out.box) rfl; go_simp; first | done | with_reducible rfl); (try simp only [Act.put, sI, sZ, sS])
  refine tkq 7 ?_; (try simp only [Act.put, sI, sZ, sS])
  cases h1 : ((l.length : Int) == 2)
  ·have h1p : ¬ (l.length : Int) = 2 := by simpa using h1
   refine tkq 8 ?_; (try simp only [Act.put, sI, sZ, sS])
   refine tkq 9 ?_; (try simp only [Act.put, sI, sZ, sS])
   refine tkq 10 ?_; (try simp only [Act.put, sI, sZ, sS])
   refine skq 11 ?_; (try simp only [Act.put, sI, sZ, sS])
   refine skq 12 ?_; (try simp only [Act.put, sI, sZ, sS])
   refine skq 13 ?_; (try simp only [Act.put, sI, sZ, sS])
   refine skq 14 ?_; (try simp only [Act.put, sI, sZ, sS])
   refine skq 15 ?_; (try simp only [Act.put, sI, sZ, sS])
   refine tkq 16 ?_; (try simp only [Act.put, sI, sZ, sS])
   refine tkq 17 ?_; (try simp only [Act.put, sI, sZ, sS])
   refine wpAnyH_done (by kernel_rfl) ?_ _
   go_wp2_with fail
   go_ret
   exact ⟨ret_bool (by rw [HR.out, h0, h1]; first | done | rfl), HB.out.below.trans (hS1.mono HB.out.below.size)⟩
  ·have h1p : (l.length : Int) = 2 := by simpa using h1
   refine tkq 8 ?_; (try simp only [Act.put, sI, sZ, sS])
   refine tkq 9 ?_; (try simp only [Act.put, sI, sZ, sS])
   refine tkq 10 ?_; (try simp only [Act.put, sI, sZ, sS])
   refine tkq 11 ?_; (try simp only [Act.put, sI, sZ, sS])
   refine wpAnyH_take (i := 12) (oi := ⟨some 17, _, _, _, _, _⟩) (v := ?_) rfl (by kernel_rfl) (by kernel_rfl) (by kernel_rfl) (fun _ _ _ h => h) (Or.inl ⟨by kernel_rfl, ?_⟩) (by assumption) ?_; rotate_left; (intro w hSw; (try dsimp only at hSw); have q0 := cell_of_row (i := 0) ((hSw.block _ (heap_lt HB.out.box)).trans HB.out.box) rfl; have q1 := cell_of_row (i := 1) ((hSw.block _ (heap_lt HB.out.box)).trans HB.out.box) rfl; have q2 := cell_of_row (i := 2) ((hSw.block _ (heap_lt HB.out.box)).trans HB.out.box) rfl; have q3 := cell_of_row (i := 3) ((hSw.block _ (heap_lt HB.out.box)).trans HB.out.box) rfl; have q4 := cell_of_row (i := 4) ((hSw.block _ (heap_lt HB.out.box)).trans HB.out.box) rfl; go_simp; first | done | with_reducible rfl); (try simp only [Act.put, sI, sZ, sS])
   refine tkq 13 ?_; (try simp only [Act.put, sI, sZ, sS])
   refine wpAnyH_ready (rs := [14]) (by kernel_rfl) (by simp) ?_
   refine AllReadyH.cons (o := ⟨some 19, _, _, _, _, _⟩) rfl (fun K hK => ?_) AllReadyH.nil
   rw [if_pos (by rfl)]
   go_simp
   refine (operand_any p Y1).mono ?_
   rintro e Y2 ⟨rfl, bY⟩
   have hS2 : Below w1.heap.size w1 Y2 := hS1.trans (bY.mono hS1.size)
   clear bY
   refine hK.out _ _ hS2 (fun hSn => ?_)
   clear hK K; (try simp only [Act.put, sI, sZ, sS])
   refine wpAnyH_ready (rs := [15]) (by kernel_rfl) (by simp) ?_
   refine AllReadyH.cons (o := ⟨some 20, _, _, _, _, _⟩) rfl (fun K hK => ?_) AllReadyH.nil
   rw [if_pos (by rfl)]
   go_simp
   refine (all_any (opdQ p) l A l.length cap Y2 (HRW.out _ (HB.out.under env7_E hS2)) (HB.out.env.under hS2) HM.out).mono ?_
   rintro e Y3 ⟨rfl, bY⟩
   have hS3 : Below w1.heap.size w1 Y3 := hS2.trans (bY.mono hS2.size)
   clear bY
   refine hK.out _ _ hS3 (fun hSn => ?_)
   clear hK K; (try simp only [Act.put, sI, sZ, sS])
   refine tkq 16 ?_; (try simp only [Act.put, sI, sZ, sS])
   refine tkq 17 ?_; (try simp only [Act.put, sI, sZ, sS])
   refine wpAnyH_done (by kernel_rfl) ?_ _
   go_wp2_with fail
   go_ret
   exact ⟨ret_bool (by rw [HR.out, h0, h1]; first | done | rfl), HB.out.below.trans (hS3.mono HB.out.below.size)⟩

def claR (n : Int) (l : List Tm) : Bool := decide (0 ≤ n ∧ n + 2 ≤ l.length) && ((l.take n.toNat).all (plcB 128) && ((l.drop n.toNat).take 1).all (plcB 16) && (l.drop (n.toNat + 1)).all (plcB 256))
theorem drop_take_one {l : List Tm} {j : Nat} {y : Tm} (h : l[j]? = some y) (f : Tm → Bool) : ((l.drop j).take 1).all f = f y := by
 obtain ⟨hj, e⟩ := List.getElem?_eq_some_iff.1 h
 rw [List.drop_eq_getElem_cons hj, e]; simp
set_option maxHeartbeats 8000000 in
set_option maxRecDepth 100000 in
theorem shp_clause (k n : Int) (s t : ByteArray) (l : List Tm) (A : Option Addr) (cap : Nat) (p : Int) (w : World) (hR : TRow (· < w.heap.size) w A l.length cap l) (hs : s.size ≤ maxLen) (ht : t.size ≤ maxLen) (hn : -9223372036854775808 ≤ n ∧ n ≤ 9223372036854775807) (hE : Env7 w) (hM : ∀ y ∈ l, MayAt 128 y ∧ MayAt 16 y ∧ MayAt 256 y) :
  Calls Tryz.prog 108 #[.agg #[.int .i8 k, .int .i64 n, .string s, .string t, .slice A l.length cap], .int .u16 p] w fun e w' => e = .returned (.bool (claR n l)) ∧ Below w.heap.size w w' := by
 have hlen := hR.max
 unfold maxLen at hlen
 have hcap := hR.cap
 have HRW : Hid (∀ V, NBx Env7 w V w.heap.size #[.int .i8 k, .int .i64 n, .string s, .string t, .slice A l.length cap] → TRow (· < V.heap.size) V A l.length cap l) := fun V h => hR.later h.below
 have HSS : Hid (s.size ≤ maxLen ∧ t.size ≤ maxLen) := ⟨hs, ht⟩
 have HNN : Hid (-9223372036854775808 ≤ n ∧ n ≤ 9223372036854775807) := hn
 obtain ⟨R, hRR⟩ : ∃ R, R = (claR n l) := ⟨_, rfl⟩
 have HR := Lib.hid hRR
 rw [← hRR]
 have HM := Lib.hid hM
 have HB := Lib.hid (nbx_of env7_E hE #[.int .i8 k, .int .i64 n, .string s, .string t, .slice A l.length cap])
 clear hR hs ht hn hRR hE hM
 go_enter Tryz.func108, Tryz.ntmps108
 go_upto_region 1 with fail
 generalize w.alloc (.cells #[.int .i8 k, .int .i64 n, .string s, .string t, .slice A l.length cap] 25) = w1 at HB ⊢
 obtain ⟨x0, x1, x2, x3, x4⟩ := five_of HB.out.box
 by_cases hneg : n < 0
 ·skip
  go_wp2_with fail
  go_ret
  exact ⟨ret_bool (by rw [HR.out]; unfold claR; rw [decide_eq_false (by omega)]; rfl), HB.out.below⟩
 obtain ⟨M, rfl⟩ : ∃ M : Nat, n = M := ⟨n.toNat, by omega⟩
 by_cases hbig : l.length < M + 2
 ·have hb2 : (l.length : Int) - 2 < M := by omega
  go_wp2_with fail
  go_ret
  exact ⟨ret_bool (by rw [HR.out]; unfold claR; rw [decide_eq_false (by omega)]; rfl), HB.out.below⟩
 have hle : M + 2 ≤ l.length := by omega
 have hle2 : (M : Int) ≤ (l.length : Int) - 2 := by omega
 obtain ⟨y, hy⟩ : ∃ y, l[M]? = some y := ⟨l[M], List.getElem?_eq_getElem (by omega)⟩
 have HMY := Lib.hid (HM.out y (List.mem_of_getElem? hy))
 obtain ⟨ad, u0, rfl, -, -, -⟩ := (HRW.out _ HB.out).at_ M y hy
 have HY := Lib.hid hy
 have hd : decide ((0 : Int) ≤ (M : Int) ∧ (M : Int) + 2 ≤ l.length) = true := decide_eq_true (by omega)
 have HD := Lib.hid hd
 clear hy hd hbig hneg
 go_wp2_with fail
 refine (all_any 128 (l.take M) (some ad) M cap w1 ((HRW.out _ HB.out).take M (by omega)) HB.out.env (fun z hz => (HM.out z (List.mem_of_mem_take hz)).1)).mono ?_
 rintro e w2 ⟨rfl, b2⟩
 have HB2 := Lib.hid (HB.out.under env7_E b2)
 clear b2 x0 x1 x2 x3 x4
 obtain ⟨x0, x1, x2, x3, x4⟩ := five_of HB2.out.box
 cases h0 : (l.take M).all (plcB 128)
 ·skip
  go_wp2_with fail
  go_ret
  exact ⟨ret_bool (by rw [HR.out]; unfold claR; rw [HD.out, Int.toNat_natCast, drop_take_one HY.out, h0]; rfl), HB2.out.below⟩
 ·skip
  obtain ⟨ad', u, hA, had, hEl, hTy⟩ := (HRW.out _ HB2.out).at_ M y HY.out
  cases hA
  obtain ⟨k', n', s', t', l', A', cap', hy', rfl⟩ : ∃ k' n' s' t' l' A' cap', y = Tm.mk k' n' s' t' l' ∧ u = .agg #[.int .i8 k', .int .i64 n', .string s', .string t', .slice A' l'.length cap'] := by
   cases hTy; exact ⟨_, _, _, _, _, _, _, rfl, rfl⟩
  clear hy'
  have HTY := Lib.hid hTy
  clear hTy had
  obtain ⟨c0, c1, c2, c3, c4, hc, e0, e1, e2, e3, e4⟩ := hEl
  simp only [Value.agg.injEq, Array.mk.injEq, List.cons.injEq, and_true] at hc
  obtain ⟨rfl, rfl, rfl, rfl, rfl⟩ := hc
  go_wp2_with fail
  refine (HMY.out.2.1 _ w2 HTY.out HB2.out.env).mono ?_
  rintro e w3 ⟨rfl, b3⟩
  have HB3 := Lib.hid (HB2.out.under env7_E b3)
  clear b3 x0 x1 x2 x3 x4 e0 e1 e2 e3 e4
  obtain ⟨x0, x1, x2, x3, x4⟩ := five_of HB3.out.box
  cases h1 : plcB 16 y
  ·skip
   go_wp2_with fail
   go_ret
   exact ⟨ret_bool (by rw [HR.out]; unfold claR; rw [HD.out, Int.toNat_natCast, drop_take_one HY.out, h0, h1]; rfl), HB3.out.below⟩
  ·skip
   go_wp2_with fail
   refine (all_any 256 (l.drop (M + 1)) _ (l.length - (M + 1)) (cap - (M + 1)) w3 ((HRW.out _ HB3.out).drop (M + 1)) HB3.out.env (fun z hz => (HM.out z (List.mem_of_mem_drop hz)).2.2)).mono ?_
   rintro e w4 ⟨rfl, b4⟩
   have HB4 := Lib.hid (HB3.out.under env7_E b4)
   clear b4 x0 x1 x2 x3 x4
   obtain ⟨x0, x1, x2, x3, x4⟩ := five_of HB4.out.box
   go_wp2_with fail
   go_ret
   exact ⟨ret_bool (by rw [HR.out]; unfold claR; rw [HD.out, Int.toNat_natCast, drop_take_one HY.out, h0, h1]; rfl), HB4.out.below⟩

set_option maxHeartbeats 8000000 in
set_option maxRecDepth 100000 in
theorem shp_match (k n : Int) (s t : ByteArray) (l : List Tm) (A : Option Addr) (cap : Nat) (p : Int) (w : World) (hR : TRow (· < w.heap.size) w A l.length cap l) (hs : s.size ≤ maxLen) (ht : t.size ≤ maxLen) (hn : -9223372036854775808 ≤ n ∧ n ≤ 9223372036854775807) (hE : Env7 w) (hM : ∀ y ∈ l, MayAt 128 y ∧ MayAt 256 y) :
    Calls Tryz.prog 121 #[.agg #[.int .i8 k, .int .i64 n, .string s, .string t, .slice A l.length cap], .int .u16 p] w fun e w' => e = .returned (.bool (((l.length : Int) == 2) && ((l.take 1).all (plcB 128) && (l.drop 1).all (plcB 256)))) ∧ Below w.heap.size w w' := by
  have hlen := hR.max
  unfold maxLen at hlen
  have hcap := hR.cap
  have HRW : Hid (∀ V, NBx Env7 w V w.heap.size #[.int .i8 k, .int .i64 n, .string s, .string t, .slice A l.length cap] → TRow (· < V.heap.size) V A l.length cap l) := fun V h => hR.later h.below
  have HSS : Hid (s.size ≤ maxLen ∧ t.size ≤ maxLen) := ⟨hs, ht⟩
  have HNN : Hid (-9223372036854775808 ≤ n ∧ n ≤ 9223372036854775807) := hn
  obtain ⟨R, hRR⟩ : ∃ R, R = (((l.length : Int) == 2) && ((l.take 1).all (plcB 128) && (l.drop 1).all (plcB 256))) := ⟨_, rfl⟩
  have HR := Lib.hid hRR
  rw [← hRR]
  have HM := Lib.hid hM
  have HB := Lib.hid (nbx_of env7_E hE #[.int .i8 k, .int .i64 n, .string s, .string t, .slice A l.length cap])
  clear hR hs ht hn hRR hE hM
  go_enter Tryz.func121, Tryz.ntmps121
  go_upto_region 1 with fail
  generalize w.alloc (.cells #[.int .i8 k, .int .i64 n, .string s, .string t, .slice A l.length cap] 25) = w1 at HB ⊢
  obtain ⟨x0, x1, x2, x3, x4⟩ := five_of HB.out.box
  cases h0 : ((l.length : Int) == 2)
  · have h0p : ¬ (l.length : Int) = 2 := by simpa using h0
    go_wp2_with fail
    go_ret
    exact ⟨ret_bool (by rw [HR.out]; rw [h0]; rfl), HB.out.below⟩
  · have hl2 : l.length = 2 := by have : (l.length : Int) = 2 := by simpa using h0
                                  omega
    match l, hl2, HM, HRW, HR with
    | [y, z], _, HM, HRW, HR =>
      clear h0 hl2 hlen
      obtain ⟨ad, u0, rfl, -, -, -⟩ := (HRW.out _ HB.out).at_ 0 y rfl
      obtain ⟨ad', u, hA, had, hEl, hTy⟩ := (HRW.out _ HB.out).at_ 0 y rfl
      cases hA
      obtain ⟨k', n', s', t', l', A', cap', hy', rfl⟩ : ∃ k' n' s' t' l' A' cap', y = Tm.mk k' n' s' t' l' ∧ u = .agg #[.int .i8 k', .int .i64 n', .string s', .string t', .slice A' l'.length cap'] := by
        cases hTy; exact ⟨_, _, _, _, _, _, _, rfl, rfl⟩
      clear hy'
      have HTY := Lib.hid hTy
      clear hTy had
      obtain ⟨z0, z1, z2, z3, z4⟩ := elem_zero hEl
      clear hEl
      go_wp2_with fail
      refine ((HM.out y (by simp)).1 _ w1 HTY.out HB.out.env).mono ?_
      rintro e w2 ⟨rfl, b2⟩
      have HB2 := Lib.hid (HB.out.under env7_E b2)
      clear b2 x0 x1 x2 x3 x4 z0 z1 z2 z3 z4
      obtain ⟨x0, x1, x2, x3, x4⟩ := five_of HB2.out.box
      cases h1 : plcB 128 y
      · skip
        go_wp2_with fail
        go_ret
        exact ⟨ret_bool (by rw [HR.out]; simp [h1]), HB2.out.below⟩
      · skip
        obtain ⟨ad', u, hA, had, hEl, hTy⟩ := (HRW.out _ HB2.out).at_ 1 z rfl
        cases hA
        obtain ⟨k', n', s', t', l', A', cap', hy', rfl⟩ : ∃ k' n' s' t' l' A' cap', z = Tm.mk k' n' s' t' l' ∧ u = .agg #[.int .i8 k', .int .i64 n', .string s', .string t', .slice A' l'.length cap'] := by
          cases hTy; exact ⟨_, _, _, _, _, _, _, rfl, rfl⟩
        clear hy'
        have HTY := Lib.hid hTy
        clear hTy had
        obtain ⟨z0, z1, z2, z3, z4⟩ := elem_one hEl
        clear hEl
        go_wp2_with fail
        refine ((HM.out z (by simp)).2 _ w2 HTY.out HB2.out.env).mono ?_
        rintro e w3 ⟨rfl, b3⟩
        have HB3 := Lib.hid (HB2.out.under env7_E b3)
        clear b3 x0 x1 x2 x3 x4 z0 z1 z2 z3 z4
        obtain ⟨x0, x1, x2, x3, x4⟩ := five_of HB3.out.box
        go_wp2_with fail
        go_ret
        exact ⟨ret_bool (by rw [HR.out]; simp [h1]), HB3.out.below⟩

end Go.Proofs.YtmdcdhdjojimeaaGreatDoor
set_option linter.unusedVariables false
namespace Go.Proofs.YtmdcdhdjojimeaaGreatDoor
open Go.RowKit

set_option maxHeartbeats 8000000 in
set_option maxRecDepth 100000 in
theorem shp_apply (k n : Int) (s t : ByteArray) (l : List Tm) (A : Option Addr) (cap : Nat) (p : Int) (w : World) (hR : TRow (· < w.heap.size) w A l.length cap l) (hs : s.size ≤ maxLen) (ht : t.size ≤ maxLen) (hn : -9223372036854775808 ≤ n ∧ n ≤ 9223372036854775807) (hE : Env7 w) (hM : ∀ y ∈ l, MayAt 256 y) :
  Calls Tryz.prog 125 #[.agg #[.int .i8 k, .int .i64 n, .string s, .string t, .slice A l.length cap], .int .u16 p] w fun e w' => e = .returned (.bool (decide (0 < l.length) && varFirst l && ((l.take 1).all (plcB 256) && (decide (l.tail.length ≤ 8) && l.tail.all (plcB 256))))) ∧ Below w.heap.size w w' := by
 have hlen := hR.max
 unfold maxLen at hlen
 have hcap := hR.cap
 have HRW : Hid (∀ V, NBx Env7 w V w.heap.size #[.int .i8 k, .int .i64 n, .string s, .string t, .slice A l.length cap] → TRow (· < V.heap.size) V A l.length cap l) := fun V h => hR.later h.below
 have HSS : Hid (s.size ≤ maxLen ∧ t.size ≤ maxLen) := ⟨hs, ht⟩
 have HNN : Hid (-9223372036854775808 ≤ n ∧ n ≤ 9223372036854775807) := hn
 obtain ⟨R, hRR⟩ : ∃ R, R = (decide (0 < l.length) && varFirst l && ((l.take 1).all (plcB 256) && (decide (l.tail.length ≤ 8) && l.tail.all (plcB 256)))) := ⟨_, rfl⟩
 have HR := Lib.hid hRR
 rw [← hRR]
 have HM := Lib.hid hM
 have HB := Lib.hid (nbx_of env7_E hE #[.int .i8 k, .int .i64 n, .string s, .string t, .slice A l.length cap])
 clear hR hs ht hn hRR hE hM
 go_enter Tryz.func125, Tryz.ntmps125
 go_upto_region 1 with fail
 generalize w.alloc (.cells #[.int .i8 k, .int .i64 n, .string s, .string t, .slice A l.length cap] 25) = w1 at HB ⊢
 obtain ⟨x0, x1, x2, x3, x4⟩ := five_of HB.out.box
 clear x0 x1 x2 x3 x4
 match l, hlen, hcap, HM, HRW, HR, HB with
 | [], hlen, hcap, HM, HRW, HR, HB =>
  obtain ⟨x0, x1, x2, x3, x4⟩ := five_of HB.out.box
  go_wp2_with fail
  go_ret
  exact ⟨ret_bool (by rw [HR.out]; rfl), HB.out.below⟩
 | y :: l, hlen, hcap, HM, HRW, HR, HB =>
  obtain ⟨ad, u0, rfl, -, -, -⟩ := (HRW.out _ HB.out).at_ 0 y rfl
  obtain ⟨ad', u, hA, had, hEl, hTy⟩ := (HRW.out _ HB.out).at_ 0 y rfl
  cases hA
  obtain ⟨k', n', s', t', l', A', cap', hy', rfl⟩ : ∃ k' n' s' t' l' A' cap', y = Tm.mk k' n' s' t' l' ∧ u = .agg #[.int .i8 k', .int .i64 n', .string s', .string t', .slice A' l'.length cap'] := by
   cases hTy; exact ⟨_, _, _, _, _, _, _, rfl, rfl⟩
  have hyk : varFirst (y :: l) = (k' == 5) := by rw [hy']; rfl
  have HYK := Lib.hid hyk
  have HTY := Lib.hid hTy
  clear hy' hyk hTy had
  obtain ⟨z0, z1, z2, z3, z4⟩ := elem_zero hEl
  obtain ⟨N, hN⟩ : ∃ N, N = (y :: l).length := ⟨_, rfl⟩
  rw [← hN] at HB HRW hlen hcap
  have hN1 : 1 ≤ N := by rw [hN]; simp
  have HNL : Hid (N - 1 = l.length) := by show _ = _; rw [hN]; simp
  have hd : decide (0 < (y :: l).length) = true := by simp
  have HD := Lib.hid hd
  clear hEl hN hd
  obtain ⟨x0, x1, x2, x3, x4⟩ := five_of HB.out.box
  by_cases hk5 : k' = 5
  rotate_left
  ·skip
   go_wp2_with fail
   go_ret
   exact ⟨ret_bool (by rw [HR.out]; rw [HD.out, HYK.out, show (k' == 5) = false by simpa using hk5]; rfl), HB.out.below⟩
  subst hk5
  have HK5 : Hid (((5 : Int) == 5) = true) := rfl
  go_wp2_with fail
  refine (HM.out y (by simp) _ w1 HTY.out HB.out.env).mono ?_
  rintro e w2 ⟨rfl, b2⟩
  have HB2 := Lib.hid (HB.out.under env7_E b2)
  clear b2 x0 x1 x2 x3 x4 z0 z1 z2 z3 z4
  obtain ⟨x0, x1, x2, x3, x4⟩ := five_of HB2.out.box
  cases h1 : plcB 256 y
  ·skip
   go_wp2_with fail
   go_ret
   exact ⟨ret_bool (by rw [HR.out]; rw [HD.out, HYK.out, HK5.out]; simp [h1]), HB2.out.below⟩
  ·by_cases hc1 : cap = 1
   ·have hN2 : N = 1 := by omega
    subst hc1
    have hl0 : l = [] := List.length_eq_zero_iff.1 (by have := HNL.out; omega)
    have HL0 := Lib.hid hl0
    clear hl0 x0 x1 x2 x3 x4
    subst hN2
    obtain ⟨x0, x1, x2, x3, x4⟩ := five_of HB2.out.box
    go_wp2_with fail
    refine (arguments_any [] (some ad) 0 0 w2 (TRow.nil _ _ _ _) HB2.out.env (fun y hy => by cases hy)).mono ?_
    rintro e w3 ⟨rfl, b3⟩
    have HB3 := Lib.hid (HB2.out.under env7_E b3)
    clear b3 x0 x1 x2 x3 x4
    obtain ⟨x0, x1, x2, x3, x4⟩ := five_of HB3.out.box
    go_wp2_with fail
    go_ret
    exact ⟨ret_bool (by rw [HR.out]; rw [HD.out, HYK.out, HK5.out, HL0.out]; simp [h1]), HB3.out.below⟩
   ·have hc2 : 1 < cap := by omega
    clear hc1
    have hD : TRow (· < w2.heap.size) w2 (some (ad.add (1 * 5))) (N - 1) (cap - 1) l := (HRW.out _ HB2.out).drop 1
    rw [← five_on] at hD
    have HDD := Lib.hid hD
    clear hD
    go_wp2_with fail
    refine (arguments_any l _ (N - 1) (cap - 1) w2 HDD.out HB2.out.env (fun z hz => HM.out z (by simp [hz]))).mono ?_
    rintro e w3 ⟨rfl, b3⟩
    have HB3 := Lib.hid (HB2.out.under env7_E b3)
    clear b3 x0 x1 x2 x3 x4
    obtain ⟨x0, x1, x2, x3, x4⟩ := five_of HB3.out.box
    go_wp2_with fail
    go_ret
    exact ⟨ret_bool (by rw [HR.out]; rw [HD.out, HYK.out, HK5.out, show ((y :: l).take 1).all (plcB 256) = plcB 256 y by simp, h1]; rfl), HB3.out.below⟩

def recvR (n : Int) (l : List Tm) : Bool := if n = 0 then clausesR l 1 else if n = 1 ∧ 0 < l.length then ((l.drop (l.length - 1)).take 1).all (plcB 512) && (decide (l.length = 1) || clausesR (l.take (l.length - 1)) 1) else false
set_option maxHeartbeats 8000000 in
set_option maxRecDepth 100000 in
theorem shp_recv (k n : Int) (s t : ByteArray) (l : List Tm) (A : Option Addr) (cap : Nat) (p : Int) (w : World) (hR : TRow (· < w.heap.size) w A l.length cap l) (hs : s.size ≤ maxLen) (ht : t.size ≤ maxLen) (hn : -9223372036854775808 ≤ n ∧ n ≤ 9223372036854775807) (hE : Env7 w) (hM : ∀ y ∈ l, MayAt 8 y ∧ MayAt 512 y) :
  Calls Tryz.prog 131 #[.agg #[.int .i8 k, .int .i64 n, .string s, .string t, .slice A l.length cap], .int .u16 p] w fun e w' => e = .returned (.bool (recvR n l)) ∧ Below w.heap.size w w' := by
 have hlen := hR.max
 unfold maxLen at hlen
 have hcap := hR.cap
 have HRW : Hid (∀ V, NBx Env7 w V w.heap.size #[.int .i8 k, .int .i64 n, .string s, .string t, .slice A l.length cap] → TRow (· < V.heap.size) V A l.length cap l) := fun V h => hR.later h.below
 have HSS : Hid (s.size ≤ maxLen ∧ t.size ≤ maxLen) := ⟨hs, ht⟩
 have HNN : Hid (-9223372036854775808 ≤ n ∧ n ≤ 9223372036854775807) := hn
 obtain ⟨R, hRR⟩ : ∃ R, R = (recvR n l) := ⟨_, rfl⟩
 have HR := Lib.hid hRR
 rw [← hRR]
 have HM := Lib.hid hM
 have HB := Lib.hid (nbx_of env7_E hE #[.int .i8 k, .int .i64 n, .string s, .string t, .slice A l.length cap])
 clear hR hs ht hn hRR hE hM
 go_enter Tryz.func131, Tryz.ntmps131
 go_upto_region 1 with fail
 generalize w.alloc (.cells #[.int .i8 k, .int .i64 n, .string s, .string t, .slice A l.length cap] 25) = w1 at HB ⊢
 obtain ⟨x0, x1, x2, x3, x4⟩ := five_of HB.out.box
 by_cases hn0 : n = 0
 ·have HN0 := Lib.hid hn0
  go_wp2_with fail
  refine (clauses_any 1 l A l.length cap w1 (HRW.out _ HB.out) HB.out.env (fun z hz => (HM.out z hz).1)).mono ?_
  rintro e w2 ⟨rfl, b2⟩
  have HB2 := Lib.hid (HB.out.under env7_E b2)
  clear b2 x0 x1 x2 x3 x4
  obtain ⟨x0, x1, x2, x3, x4⟩ := five_of HB2.out.box
  go_wp2_with fail
  go_ret
  exact ⟨ret_bool (by rw [HR.out]; unfold recvR; rw [if_pos HN0.out]), HB2.out.below⟩
 by_cases hn1 : n = 1
 rotate_left
 ·skip
  go_wp2_with fail
  go_ret
  exact ⟨ret_bool (by rw [HR.out]; unfold recvR; rw [if_neg hn0, if_neg (fun h => hn1 h.1)]), HB.out.below⟩
 clear hn0
 clear x0 x1 x2 x3 x4
 subst hn1
 by_cases hl0 : l.length = 0
 ·have hR0 : recvR 1 l = false := by unfold recvR; rw [if_neg (by omega), if_neg (by omega)]
  have HR0 := Lib.hid hR0
  clear hR0
  obtain ⟨x0, x1, x2, x3, x4⟩ := five_of HB.out.box
  go_wp2_with fail
  go_ret
  exact ⟨ret_bool (by rw [HR.out]; rw [HR0.out]), HB.out.below⟩
 obtain ⟨M, hM⟩ : ∃ M, l.length = M + 1 := ⟨l.length - 1, by omega⟩
 obtain ⟨y, hy⟩ : ∃ y, l[M]? = some y := ⟨l[M], List.getElem?_eq_getElem (by omega)⟩
 have hRM : recvR 1 l = (plcB 512 y && (decide (M = 0) || clausesR (l.take M) 1)) := by
  unfold recvR
  rw [if_neg (by omega), if_pos ⟨rfl, by omega⟩, hM, Nat.add_sub_cancel, drop_take_one hy]
  rw [show decide (M + 1 = 1) = decide (M = 0) from decide_eq_decide.2 (by omega)]
 have HRM := Lib.hid hRM
 have HMY := Lib.hid (HM.out y (List.mem_of_getElem? hy))
 obtain ⟨ad, u0, rfl, -, -, -⟩ := (HRW.out _ HB.out).at_ M y hy
 obtain ⟨ad', u, hA, had, hEl, hTy⟩ := (HRW.out _ HB.out).at_ M y hy
 cases hA
 obtain ⟨k', n', s', t', l', A', cap', hy', rfl⟩ : ∃ k' n' s' t' l' A' cap', y = Tm.mk k' n' s' t' l' ∧ u = .agg #[.int .i8 k', .int .i64 n', .string s', .string t', .slice A' l'.length cap'] := by
  cases hTy; exact ⟨_, _, _, _, _, _, _, rfl, rfl⟩
 have HTY := Lib.hid hTy
 clear hy' hTy had hy hRM
 obtain ⟨c0, c1, c2, c3, c4, hc, e0, e1, e2, e3, e4⟩ := hEl
 simp only [Value.agg.injEq, Array.mk.injEq, List.cons.injEq, and_true] at hc
 obtain ⟨rfl, rfl, rfl, rfl, rfl⟩ := hc
 rw [hM] at HB HRW hlen hcap
 clear hM hl0
 obtain ⟨x0, x1, x2, x3, x4⟩ := five_of HB.out.box
 go_wp2_with fail
 refine (HMY.out.2 _ w1 HTY.out HB.out.env).mono ?_
 rintro e w2 ⟨rfl, b2⟩
 have HB2 := Lib.hid (HB.out.under env7_E b2)
 clear b2 x0 x1 x2 x3 x4 e0 e1 e2 e3 e4
 obtain ⟨x0, x1, x2, x3, x4⟩ := five_of HB2.out.box
 cases h1 : plcB 512 y
 ·skip
  go_wp2_with fail
  go_ret
  exact ⟨ret_bool (by rw [HR.out]; rw [HRM.out, h1]; rfl), HB2.out.below⟩
 ·by_cases hM0 : M = 0
  ·skip
   go_wp2_with fail
   go_ret
   exact ⟨ret_bool (by rw [HR.out]; rw [HRM.out, h1]; simp [hM0]), HB2.out.below⟩
  ·skip
   go_wp2_with fail
   refine (clauses_any 1 (l.take M) (some ad) M cap w2 ((HRW.out _ HB2.out).take M (by omega)) HB2.out.env (fun z hz => (HM.out z (List.mem_of_mem_take hz)).1)).mono ?_
   rintro e w3 ⟨rfl, b3⟩
   have HB3 := Lib.hid (HB2.out.under env7_E b3)
   clear b3 x0 x1 x2 x3 x4
   obtain ⟨x0, x1, x2, x3, x4⟩ := five_of HB3.out.box
   go_wp2_with fail
   go_ret
   exact ⟨ret_bool (by rw [HR.out]; rw [HRM.out, h1]; simp [hM0]), HB3.out.below⟩

theorem cla_two {c : Tm} (h : plcB 8 c = true) (hn : (c.n == 2) = true) : ∃ q qs, c.l = q :: qs ∧ classedB c = clsQ q.k q.s := by
 obtain ⟨k, n, s, t, l⟩ := c
 simp only [beq_iff_eq] at hn
 have hn2 : n = 2 := hn
 subst hn2
 have h1 : claB (.mk k 2 s t l) = true := h
 unfold claB at h1
 simp only [Bool.and_eq_true] at h1
 have h2 : clB 2 (.mk k 2 s t l) = true := h1.2
 rw [clB] at h2
 simp only [Bool.and_eq_true] at h2
 match l, h2.2 with
 | q :: qs, _ =>
  obtain ⟨kq, nq, sq, tq, lq⟩ := q
  exact ⟨_, qs, rfl, rfl⟩
theorem choice_parts {l : List Tm} {m : Int} (h : choiceR l m = true) : ∃ y tl, l = y :: tl ∧ plcB 256 y = true ∧ 0 < tl.length ∧ (∀ c ∈ tl, (c.n == m) = true ∧ plcB 8 c = true) := by
 unfold choiceR clausesR at h
 simp only [Bool.and_eq_true, decide_eq_true_eq] at h
 match l, h with
 | y :: tl, h =>
  obtain ⟨⟨_, hy⟩, h1, h2, h3⟩ := h
  rw [List.all_eq_true] at h1 h3
  exact ⟨y, tl, rfl, by simpa using hy, h2, fun c hc => ⟨h1 c hc, h3 c hc⟩⟩
set_option maxHeartbeats 8000000 in
set_option maxRecDepth 100000 in
theorem shp_try (k n : Int) (s t : ByteArray) (l : List Tm) (A : Option Addr) (cap : Nat) (p : Int) (w : World) (hR : TRow (· < w.heap.size) w A l.length cap l) (hs : s.size ≤ maxLen) (ht : t.size ≤ maxLen) (hn : -9223372036854775808 ≤ n ∧ n ≤ 9223372036854775807) (hE : Env7 w) (hM : ∀ y ∈ l, MayAt 256 y ∧ MayAt 8 y) :
  Calls Tryz.prog 130 #[.agg #[.int .i8 k, .int .i64 n, .string s, .string t, .slice A l.length cap], .int .u16 p] w fun e w' => e = .returned (.bool (choiceR l 2 && l.tail.all classedB)) ∧ Below w.heap.size w w' := by
 have hlen := hR.max
 unfold maxLen at hlen
 have hcap := hR.cap
 have HRW : Hid (∀ V, NBx Env7 w V w.heap.size #[.int .i8 k, .int .i64 n, .string s, .string t, .slice A l.length cap] → TRow (· < V.heap.size) V A l.length cap l) := fun V h => hR.later h.below
 have HSS : Hid (s.size ≤ maxLen ∧ t.size ≤ maxLen) := ⟨hs, ht⟩
 have HNN : Hid (-9223372036854775808 ≤ n ∧ n ≤ 9223372036854775807) := hn
 obtain ⟨R, hRR⟩ : ∃ R, R = (choiceR l 2 && l.tail.all classedB) := ⟨_, rfl⟩
 have HR := Lib.hid hRR
 rw [← hRR]
 have HM := Lib.hid hM
 have HB := Lib.hid (nbx_of env7_E hE #[.int .i8 k, .int .i64 n, .string s, .string t, .slice A l.length cap])
 clear hR hs ht hn hRR hE hM
 go_enter Tryz.func130, Tryz.ntmps130
 go_upto_region 1 with fail
 generalize w.alloc (.cells #[.int .i8 k, .int .i64 n, .string s, .string t, .slice A l.length cap] 25) = w1 at HB ⊢
 obtain ⟨x0, x1, x2, x3, x4⟩ := five_of HB.out.box
 go_wp2_with fail
 refine (choice_any 2 l A l.length cap w1 (HRW.out _ HB.out) HB.out.env HM.out).mono ?_
 rintro e w2 ⟨rfl, b2⟩
 have HB2 := Lib.hid (HB.out.under env7_E b2)
 clear b2 x0 x1 x2 x3 x4
 obtain ⟨x0, x1, x2, x3, x4⟩ := five_of HB2.out.box
 cases h0 : choiceR l 2
 ·skip
  go_wp2_with fail
  go_ret
  exact ⟨ret_bool (by rw [HR.out]; rw [h0]; rfl), HB2.out.below⟩
 ·obtain ⟨y, tl, hl, -, htl, hcs⟩ := choice_parts h0
  have HCS := Lib.hid hcs
  have HR2 : Hid (R = tl.all classedB) := by show _ = _; rw [HR.out, h0, hl]; rfl
  have hy : l[0]? = some y := by rw [hl]; rfl
  obtain ⟨ad, u0, rfl, -, -, -⟩ := (HRW.out _ HB.out).at_ 0 y hy
  obtain ⟨M, hN⟩ : ∃ M, M + 1 = l.length := ⟨tl.length, by rw [hl]; rfl⟩
  have hM : M = tl.length := by rw [hl] at hN; simpa using hN
  rw [← hN] at HB2 HRW hlen hcap x4 ⊢
  have hc2 : 1 < cap := by omega
  obtain ⟨bd, hbd⟩ : ∃ bd : Addr, bd = ⟨ad.block, ad.off + 5, none⟩ := ⟨_, rfl⟩
  have HDD : Hid (∀ V, NBx Env7 w V w.heap.size #[.int .i8 k, .int .i64 n, .string s, .string t, .slice (some ad) (M + 1) cap] → TRow (· < V.heap.size) V (some bd) M (cap - 1) tl) := fun V h => by
   have hD : TRow (· < V.heap.size) V (some (ad.add (1 * 5))) M (cap - 1) (l.drop 1) := (HRW.out V h).drop 1
   rw [← five_on, ← hbd, hl] at hD
   exact hD
  have HBD := Lib.hid hbd
  clear hcs hy hl hN htl hbd h0 HB HM
  go_wp2_with fail
  rw [← HBD.out]
  go_loopw [15] (fun i wr => ∃ j : Nat, j ≤ M ∧ i = .int .i64 j ∧ Hid ((tl.take j).all classedB = true) ∧ Hid (NBx Env7 w wr w.heap.size #[.int .i8 k, .int .i64 n, .string s, .string t, .slice (some ad) (M + 1) cap])) (fun i _ => M - (intOf i).toNat)
  case atStart => exact ⟨0, Nat.zero_le _, rfl, Lib.hid rfl, HB2⟩
  case round =>
   obtain ⟨j, hj, rfl, HQ, HB⟩ := hrel
   by_cases hlt : j < M
   ·obtain ⟨c, hc⟩ : ∃ c, tl[j]? = some c := ⟨tl[j]'(by omega), List.getElem?_eq_getElem (by omega)⟩
    obtain ⟨ad2, u, hA2, had, hEl, hTc⟩ := (HDD.out wr HB.out).at_ j c hc
    cases hA2
    obtain ⟨kc, nc, sc, tc, lc, Ac, capc, hc', rfl⟩ : ∃ k' n' s' t' l' A' cap', c = Tm.mk k' n' s' t' l' ∧ u = .agg #[.int .i8 k', .int .i64 n', .string s', .string t', .slice A' l'.length cap'] := by
     cases hTc; exact ⟨_, _, _, _, _, _, _, rfl, rfl⟩
    obtain ⟨hcn, hcp⟩ := HCS.out c (List.mem_of_getElem? hc)
    obtain ⟨q, qs, hlq, hcq⟩ := cla_two hcp hcn
    have HCQ := Lib.hid hcq
    have hlc : lc = q :: qs := by rw [hc'] at hlq; exact hlq
    rw [hc'] at hTc
    obtain ⟨A2, cap2, e2, hR2, -⟩ := hTc.parts
    simp only [Value.agg.injEq, Array.mk.injEq, List.cons.injEq, Value.slice.injEq, and_true, true_and] at e2
    obtain ⟨rfl, rfl⟩ := e2
    obtain ⟨ad3, u3, hA3, had3, hE3, hT3⟩ := hR2.at_ 0 q (by rw [hlc]; rfl)
    subst hA3
    obtain ⟨kq, nq, sq, tq, lq, Aq, capq, hq', rfl⟩ : ∃ k' n' s' t' l' A' cap', q = Tm.mk k' n' s' t' l' ∧ u3 = .agg #[.int .i8 k', .int .i64 n', .string s', .string t', .slice A' l'.length cap'] := by
     cases hT3; exact ⟨_, _, _, _, _, _, _, rfl, rfl⟩
    have hks : clsQ q.k q.s = clsQ kq sq := by rw [hq']; rfl
    have hlen2 : 0 < lc.length := by rw [hlc]; simp
    obtain ⟨W1, hW1⟩ : ∃ W1, W1 = wr.alloc (.cells #[.int .i8 kc, .int .i64 nc, .string sc, .string tc, .slice (some ad3) lc.length capc] 25) := ⟨_, rfl⟩
    have bW : Below wr.heap.size wr W1 := by rw [hW1]; exact (Below.refl _ _).alloc (Nat.le_refl _) _
    have gW : W1.heap[wr.heap.size]? = some (.cells #[.int .i8 kc, .int .i64 nc, .string sc, .string tc, .slice (some ad3) lc.length capc] 25 (0, 0)) := by rw [hW1]; exact block_alloc _ _
    have HW1 := Lib.hid hW1
    have HBW := Lib.hid (HB.out.under env7_E bW)
    obtain ⟨z0, z1, z2, z3, z4⟩ := elem_zero (hE3.keep (bW.block ad3.block had3))
    have d4 : W1.cell? ⟨wr.heap.size, 4, none⟩ = some (.slice (some ad3) lc.length capc) := cell_of_row gW rfl
    obtain ⟨c0, c1, c2, c3, c4, hcc, e0, e1, e2, e3, e4⟩ := hEl
    simp only [Value.agg.injEq, Array.mk.injEq, List.cons.injEq, and_true] at hcc
    obtain ⟨rfl, rfl, rfl, rfl, rfl⟩ := hcc
    have HKS := Lib.hid (hcq.trans hks)
    have HC := Lib.hid hc
    clear hc' hq' hks hlc hlq hcq hcn hcp hTc hR2 hT3 hE3 had had3 hW1 bW gW hc HCQ
    go_upto_region 6 with fail
    rw [← HW1.out]
    clear HW1
    go_wp2_with fail
    refine (class_any kq nq sq tq Aq lq.length capq W1).mono ?_
    rintro e w3 ⟨rfl, b3⟩
    have HB3 := Lib.hid (HBW.out.under env7_E b3)
    clear b3 z0 z1 z2 z3 z4 d4
    cases h1 : clsQ kq sq
    ·go_wp2_with fail
     go_ret
     exact ⟨ret_bool (by rw [HR2.out, all_false_of _ HC.out (by rw [HKS.out, h1])]), HB3.out.below⟩
    ·go_wp2_with fail
     go_roundw
     case rel => exact ⟨j + 1, by omega, by go_num, Lib.hid (by rw [all_take_succ _ HC.out, HQ.out, HKS.out, h1]; rfl), HB3⟩
     case measure => simp [intOf]; omega
   ·obtain rfl : j = M := by omega
    go_wp2_with fail
    go_ret
    exact ⟨ret_bool (by have h := HQ.out; rw [hM, List.take_length] at h; rw [HR2.out, h]), HB.out.below⟩
end Go.Proofs.YtmdcdhdjojimeaaGreatDoor
