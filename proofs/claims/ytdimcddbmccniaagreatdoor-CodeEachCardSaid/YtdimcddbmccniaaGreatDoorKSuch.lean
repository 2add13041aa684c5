/- Which nodes a term may have: okB; the contract of term.such. -/
import Derived.Test.YtdimcddbmccniaaGreatDoorKKinds
import Derived.Test.YtdimcddbmccniaaGreatDoorKCd1
set_option linter.unusedVariables false
namespace Go.Proofs.YtdimcddbmccniaaGreatDoor
open Go.RowKit

theorem List.isEmpty_no {α : Type} {l : List α} (h : l.isEmpty = false) : ¬ l = [] := by cases l <;> simp_all
def ok_integer (n : Int) (s t : ByteArray) (len : Nat) : Bool := (mayB n) && (s.toList.isEmpty) && (t.toList.isEmpty) && ((len : Int) == 0)
def ok_atom (n : Int) (s t : ByteArray) (len : Nat) : Bool := (nameB s 2) && (n == 0) && (t.toList.isEmpty) && ((len : Int) == 0)
def ok_ref (n : Int) (s t : ByteArray) (len : Nat) : Bool := (pidB n) && (s.toList.isEmpty) && (t.toList.isEmpty) && ((len : Int) == 0)
def ok_fun (n : Int) (s t : ByteArray) (len : Nat) : Bool := ((nameB s 2 && nameB t 2 && arB n)) && ((len : Int) == 0)
def ok_pid (n : Int) (s t : ByteArray) (len : Nat) : Bool := (pidB n) && (s.toList.isEmpty) && (t.toList.isEmpty) && ((len : Int) == 0)
def ok_tuple (n : Int) (s t : ByteArray) (len : Nat) : Bool := (n == 0) && (s.toList.isEmpty) && (t.toList.isEmpty)
def ok_empty (n : Int) (s t : ByteArray) (len : Nat) : Bool := (n == 0) && (s.toList.isEmpty) && (t.toList.isEmpty) && ((len : Int) == 0)
def ok_cons (n : Int) (s t : ByteArray) (len : Nat) : Bool := (((len : Int) == 2)) && (n == 0) && (s.toList.isEmpty) && (t.toList.isEmpty)

def okN (k n : Int) (s t : ByteArray) (len : Nat) : Bool :=
  if k = 0 then ok_integer n s t len
  else if k = 1 then ok_atom n s t len
  else if k = 2 then ok_ref n s t len
  else if k = 3 then ok_fun n s t len
  else if k = 4 then ok_pid n s t len
  else if k = 5 then ok_tuple n s t len
  else if k = 6 then ok_empty n s t len
  else if k = 7 then ok_cons n s t len
  else false
def okB (x : Tm) : Bool := okN x.k x.n x.s x.t x.l.length

set_option maxHeartbeats 2000000 in
set_option maxRecDepth 100000 in
theorem such_integer (n : Int) (s t : ByteArray) (A : Option Addr) (len cap : Nat) (hsz : s.size ≤ maxLen) (htz : t.size ≤ maxLen) (w : World) (hS : Spans w) :
    Calls Tryz.prog 210 #[.agg #[.int .i8 0, .int .i64 n, .string s, .string t, .slice A len cap]] w fun e w' => e = .returned (.bool (ok_integer n s t len)) ∧ Below w.heap.size w w' := by
  have HZ := Lib.hid hsz
  have HTZ := Lib.hid htz
  clear hsz htz
  obtain ⟨R, hR⟩ : ∃ R, R = ok_integer n s t len := ⟨_, rfl⟩
  have HR := Lib.hid hR
  rw [← hR]
  clear hR
  have hb0 : Below w.heap.size w (w.alloc (.cells #[.int .i8 0, .int .i64 n, .string s, .string t, .slice A len cap] 48)) := (Below.refl _ w).alloc (Nat.le_refl _) _
  have HB0 := Lib.hid hb0
  clear hb0
  go_enter Tryz.func210, Tryz.ntmps210
  go_wp2_with fail
  refine (nodeOf_integer n s t A len cap _).mono ?_
  rintro e w1 ⟨rfl, b1⟩
  go_wp2_with fail
  refine (termOf_integer n s t A len cap _).mono ?_
  rintro e w2 ⟨rfl, b2⟩
  have hs1 : w.heap.size < w1.heap.size := by have := b1.size; simp at this; omega
  have hs2 : w1.heap.size ≤ w2.heap.size := b2.size
  obtain ⟨V, hV⟩ : ∃ V, V = w2.alloc (.cells #[.int .i8 0, .int .i64 n, .string ⟨#[]⟩, .string ⟨#[]⟩, .slice none 0 0] 48) := ⟨_, rfl⟩
  have bV : Below w2.heap.size w2 V := by rw [hV]; exact (Below.refl _ w2).alloc (Nat.le_refl _) _
  have hsV : V.heap.size = w2.heap.size + 1 := by rw [hV]; simp
  have HB3 := Lib.hid (((HB0.out.trans (b1.mono (by simp))).trans (b2.mono (Nat.le_of_lt hs1))).trans (bV.mono (by omega)))
  have HBX := Lib.hid ((bV.block w.heap.size (by omega)).trans ((b2.block w.heap.size (by omega)).trans ((b1.block w.heap.size (by simp)).trans (block_alloc _ _))))
  have HBB : Hid (V.heap[w2.heap.size]? = some (.cells #[.int .i8 0, .int .i64 n, .string ⟨#[]⟩, .string ⟨#[]⟩, .slice none 0 0] 48)) := by rw [hV]; exact block_alloc _ _
  have hS3 := hS.below HB3.out hS.lt
  have HSV := Lib.hid hsV
  clear b1 b2 bV hsV
  go_wp2_with fail
  rw [← hV]
  clear hV
  refine (mayN_integer _ _).mono ?_
  rintro e w3 ⟨rfl, b3⟩
  have HB4 := Lib.hid (HB3.out.trans (b3.mono HB3.out.size))
  have hx : w3.heap[w.heap.size]? = _ := (b3.block w.heap.size (by rw [HSV.out]; omega)).trans HBX.out
  have hbk : w3.heap[w2.heap.size]? = _ := (b3.block w2.heap.size (by rw [HSV.out]; omega)).trans HBB.out
  have x1 : w3.cell? ⟨w.heap.size, 1, none⟩ = some (.int .i64 n) := cell_of_row hx rfl
  have y1 : w3.cell? ⟨w2.heap.size, 1, none⟩ = some (.int .i64 n) := cell_of_row hbk rfl
  have x2 : w3.cell? ⟨w.heap.size, 2, none⟩ = some (.string s) := cell_of_row hx rfl
  have y2 : w3.cell? ⟨w2.heap.size, 2, none⟩ = some (.string ⟨#[]⟩) := cell_of_row hbk rfl
  have x3 : w3.cell? ⟨w.heap.size, 3, none⟩ = some (.string t) := cell_of_row hx rfl
  have y3 : w3.cell? ⟨w2.heap.size, 3, none⟩ = some (.string ⟨#[]⟩) := cell_of_row hbk rfl
  have x4 : w3.cell? ⟨w.heap.size, 4, none⟩ = some (.slice A len cap) := cell_of_row hx rfl
  have y4 : w3.cell? ⟨w2.heap.size, 4, none⟩ = some (.slice none 0 0) := cell_of_row hbk rfl
  clear hx hbk b3 HBX HBB
  cases hm : (mayB n)
  · go_wp2_with fail
    go_ret
    exact ⟨ret_bool (by rw [HR.out]; simp [ok_integer, hm]), HB4.out⟩
  · skip
    cases hs : (s.toList.isEmpty)
    · have hsn := List.isEmpty_no hs
      go_wp2_with fail
      go_ret
      exact ⟨ret_bool (by rw [HR.out]; simp [ok_integer, hs]), HB4.out⟩
    · have hsy := List.isEmpty_iff.1 hs
      skip
      cases ht : (t.toList.isEmpty)
      · have htn := List.isEmpty_no ht
        go_wp2_with fail
        go_ret
        exact ⟨ret_bool (by rw [HR.out]; simp [ok_integer, ht]), HB4.out⟩
      · have hty := List.isEmpty_iff.1 ht
        skip
        cases hl : ((len : Int) == 0)
        · go_wp2_with fail
          go_ret
          exact ⟨ret_bool (by rw [HR.out]; simp [ok_integer, hl]), HB4.out⟩
        · go_wp2_with fail
          go_ret
          exact ⟨ret_bool (by rw [HR.out]; simp [ok_integer, hm, hs, ht, hl]), HB4.out⟩

set_option maxHeartbeats 2000000 in
set_option maxRecDepth 100000 in
theorem such_atom (n : Int) (s t : ByteArray) (A : Option Addr) (len cap : Nat) (hsz : s.size ≤ maxLen) (htz : t.size ≤ maxLen) (w : World) (hS : Spans w) :
    Calls Tryz.prog 210 #[.agg #[.int .i8 1, .int .i64 n, .string s, .string t, .slice A len cap]] w fun e w' => e = .returned (.bool (ok_atom n s t len)) ∧ Below w.heap.size w w' := by
  have HZ := Lib.hid hsz
  have HTZ := Lib.hid htz
  clear hsz htz
  obtain ⟨R, hR⟩ : ∃ R, R = ok_atom n s t len := ⟨_, rfl⟩
  have HR := Lib.hid hR
  rw [← hR]
  clear hR
  have hb0 : Below w.heap.size w (w.alloc (.cells #[.int .i8 1, .int .i64 n, .string s, .string t, .slice A len cap] 48)) := (Below.refl _ w).alloc (Nat.le_refl _) _
  have HB0 := Lib.hid hb0
  clear hb0
  go_enter Tryz.func210, Tryz.ntmps210
  go_wp2_with fail
  refine (nodeOf_atom n s t A len cap _).mono ?_
  rintro e w1 ⟨rfl, b1⟩
  go_wp2_with fail
  refine (termOf_atom n s t A len cap _).mono ?_
  rintro e w2 ⟨rfl, b2⟩
  have hs1 : w.heap.size < w1.heap.size := by have := b1.size; simp at this; omega
  have hs2 : w1.heap.size ≤ w2.heap.size := b2.size
  obtain ⟨V, hV⟩ : ∃ V, V = w2.alloc (.cells #[.int .i8 1, .int .i64 0, .string s, .string ⟨#[]⟩, .slice none 0 0] 48) := ⟨_, rfl⟩
  have bV : Below w2.heap.size w2 V := by rw [hV]; exact (Below.refl _ w2).alloc (Nat.le_refl _) _
  have hsV : V.heap.size = w2.heap.size + 1 := by rw [hV]; simp
  have HB3 := Lib.hid (((HB0.out.trans (b1.mono (by simp))).trans (b2.mono (Nat.le_of_lt hs1))).trans (bV.mono (by omega)))
  have HBX := Lib.hid ((bV.block w.heap.size (by omega)).trans ((b2.block w.heap.size (by omega)).trans ((b1.block w.heap.size (by simp)).trans (block_alloc _ _))))
  have HBB : Hid (V.heap[w2.heap.size]? = some (.cells #[.int .i8 1, .int .i64 0, .string s, .string ⟨#[]⟩, .slice none 0 0] 48)) := by rw [hV]; exact block_alloc _ _
  have hS3 := hS.below HB3.out hS.lt
  have HSV := Lib.hid hsV
  clear b1 b2 bV hsV
  go_wp2_with fail
  rw [← hV]
  clear hV
  refine (mayN_atom s HZ.out _ hS3).mono ?_
  rintro e w3 ⟨rfl, b3⟩
  have HB4 := Lib.hid (HB3.out.trans (b3.mono HB3.out.size))
  have hx : w3.heap[w.heap.size]? = _ := (b3.block w.heap.size (by rw [HSV.out]; omega)).trans HBX.out
  have hbk : w3.heap[w2.heap.size]? = _ := (b3.block w2.heap.size (by rw [HSV.out]; omega)).trans HBB.out
  have x1 : w3.cell? ⟨w.heap.size, 1, none⟩ = some (.int .i64 n) := cell_of_row hx rfl
  have y1 : w3.cell? ⟨w2.heap.size, 1, none⟩ = some (.int .i64 0) := cell_of_row hbk rfl
  have x2 : w3.cell? ⟨w.heap.size, 2, none⟩ = some (.string s) := cell_of_row hx rfl
  have y2 : w3.cell? ⟨w2.heap.size, 2, none⟩ = some (.string s) := cell_of_row hbk rfl
  have x3 : w3.cell? ⟨w.heap.size, 3, none⟩ = some (.string t) := cell_of_row hx rfl
  have y3 : w3.cell? ⟨w2.heap.size, 3, none⟩ = some (.string ⟨#[]⟩) := cell_of_row hbk rfl
  have x4 : w3.cell? ⟨w.heap.size, 4, none⟩ = some (.slice A len cap) := cell_of_row hx rfl
  have y4 : w3.cell? ⟨w2.heap.size, 4, none⟩ = some (.slice none 0 0) := cell_of_row hbk rfl
  clear hx hbk b3 HBX HBB
  cases hm : (nameB s 2)
  · go_wp2_with fail
    go_ret
    exact ⟨ret_bool (by rw [HR.out]; simp [ok_atom, hm]), HB4.out⟩
  · skip
    cases hn : (n == 0)
    · go_wp2_with fail
      go_ret
      exact ⟨ret_bool (by rw [HR.out]; simp [ok_atom, hn]), HB4.out⟩
    · obtain rfl : n = 0 := by simpa using hn
      skip
      cases ht : (t.toList.isEmpty)
      · have htn := List.isEmpty_no ht
        go_wp2_with fail
        go_ret
        exact ⟨ret_bool (by rw [HR.out]; simp [ok_atom, ht]), HB4.out⟩
      · have hty := List.isEmpty_iff.1 ht
        skip
        cases hl : ((len : Int) == 0)
        · go_wp2_with fail
          go_ret
          exact ⟨ret_bool (by rw [HR.out]; simp [ok_atom, hl]), HB4.out⟩
        · go_wp2_with fail
          go_ret
          exact ⟨ret_bool (by rw [HR.out]; simp [ok_atom, hm, ht, hl]), HB4.out⟩

set_option maxHeartbeats 2000000 in
set_option maxRecDepth 100000 in
theorem such_ref (n : Int) (s t : ByteArray) (A : Option Addr) (len cap : Nat) (hsz : s.size ≤ maxLen) (htz : t.size ≤ maxLen) (w : World) (hS : Spans w) :
    Calls Tryz.prog 210 #[.agg #[.int .i8 2, .int .i64 n, .string s, .string t, .slice A len cap]] w fun e w' => e = .returned (.bool (ok_ref n s t len)) ∧ Below w.heap.size w w' := by
  have HZ := Lib.hid hsz
  have HTZ := Lib.hid htz
  clear hsz htz
  obtain ⟨R, hR⟩ : ∃ R, R = ok_ref n s t len := ⟨_, rfl⟩
  have HR := Lib.hid hR
  rw [← hR]
  clear hR
  have hb0 : Below w.heap.size w (w.alloc (.cells #[.int .i8 2, .int .i64 n, .string s, .string t, .slice A len cap] 48)) := (Below.refl _ w).alloc (Nat.le_refl _) _
  have HB0 := Lib.hid hb0
  clear hb0
  go_enter Tryz.func210, Tryz.ntmps210
  go_wp2_with fail
  refine (nodeOf_ref n s t A len cap _).mono ?_
  rintro e w1 ⟨rfl, b1⟩
  go_wp2_with fail
  refine (termOf_ref n s t A len cap _).mono ?_
  rintro e w2 ⟨rfl, b2⟩
  have hs1 : w.heap.size < w1.heap.size := by have := b1.size; simp at this; omega
  have hs2 : w1.heap.size ≤ w2.heap.size := b2.size
  obtain ⟨V, hV⟩ : ∃ V, V = w2.alloc (.cells #[.int .i8 2, .int .i64 n, .string ⟨#[]⟩, .string ⟨#[]⟩, .slice none 0 0] 48) := ⟨_, rfl⟩
  have bV : Below w2.heap.size w2 V := by rw [hV]; exact (Below.refl _ w2).alloc (Nat.le_refl _) _
  have hsV : V.heap.size = w2.heap.size + 1 := by rw [hV]; simp
  have HB3 := Lib.hid (((HB0.out.trans (b1.mono (by simp))).trans (b2.mono (Nat.le_of_lt hs1))).trans (bV.mono (by omega)))
  have HBX := Lib.hid ((bV.block w.heap.size (by omega)).trans ((b2.block w.heap.size (by omega)).trans ((b1.block w.heap.size (by simp)).trans (block_alloc _ _))))
  have HBB : Hid (V.heap[w2.heap.size]? = some (.cells #[.int .i8 2, .int .i64 n, .string ⟨#[]⟩, .string ⟨#[]⟩, .slice none 0 0] 48)) := by rw [hV]; exact block_alloc _ _
  have hS3 := hS.below HB3.out hS.lt
  have HSV := Lib.hid hsV
  clear b1 b2 bV hsV
  go_wp2_with fail
  rw [← hV]
  clear hV
  refine (mayN_ref _ _).mono ?_
  rintro e w3 ⟨rfl, b3⟩
  have HB4 := Lib.hid (HB3.out.trans (b3.mono HB3.out.size))
  have hx : w3.heap[w.heap.size]? = _ := (b3.block w.heap.size (by rw [HSV.out]; omega)).trans HBX.out
  have hbk : w3.heap[w2.heap.size]? = _ := (b3.block w2.heap.size (by rw [HSV.out]; omega)).trans HBB.out
  have x1 : w3.cell? ⟨w.heap.size, 1, none⟩ = some (.int .i64 n) := cell_of_row hx rfl
  have y1 : w3.cell? ⟨w2.heap.size, 1, none⟩ = some (.int .i64 n) := cell_of_row hbk rfl
  have x2 : w3.cell? ⟨w.heap.size, 2, none⟩ = some (.string s) := cell_of_row hx rfl
  have y2 : w3.cell? ⟨w2.heap.size, 2, none⟩ = some (.string ⟨#[]⟩) := cell_of_row hbk rfl
  have x3 : w3.cell? ⟨w.heap.size, 3, none⟩ = some (.string t) := cell_of_row hx rfl
  have y3 : w3.cell? ⟨w2.heap.size, 3, none⟩ = some (.string ⟨#[]⟩) := cell_of_row hbk rfl
  have x4 : w3.cell? ⟨w.heap.size, 4, none⟩ = some (.slice A len cap) := cell_of_row hx rfl
  have y4 : w3.cell? ⟨w2.heap.size, 4, none⟩ = some (.slice none 0 0) := cell_of_row hbk rfl
  clear hx hbk b3 HBX HBB
  cases hm : (pidB n)
  · go_wp2_with fail
    go_ret
    exact ⟨ret_bool (by rw [HR.out]; simp [ok_ref, hm]), HB4.out⟩
  · skip
    cases hs : (s.toList.isEmpty)
    · have hsn := List.isEmpty_no hs
      go_wp2_with fail
      go_ret
      exact ⟨ret_bool (by rw [HR.out]; simp [ok_ref, hs]), HB4.out⟩
    · have hsy := List.isEmpty_iff.1 hs
      skip
      cases ht : (t.toList.isEmpty)
      · have htn := List.isEmpty_no ht
        go_wp2_with fail
        go_ret
        exact ⟨ret_bool (by rw [HR.out]; simp [ok_ref, ht]), HB4.out⟩
      · have hty := List.isEmpty_iff.1 ht
        skip
        cases hl : ((len : Int) == 0)
        · go_wp2_with fail
          go_ret
          exact ⟨ret_bool (by rw [HR.out]; simp [ok_ref, hl]), HB4.out⟩
        · go_wp2_with fail
          go_ret
          exact ⟨ret_bool (by rw [HR.out]; simp [ok_ref, hm, hs, ht, hl]), HB4.out⟩

set_option maxHeartbeats 2000000 in
set_option maxRecDepth 100000 in
theorem such_fun (n : Int) (s t : ByteArray) (A : Option Addr) (len cap : Nat) (hsz : s.size ≤ maxLen) (htz : t.size ≤ maxLen) (w : World) (hS : Spans w) :
    Calls Tryz.prog 210 #[.agg #[.int .i8 3, .int .i64 n, .string s, .string t, .slice A len cap]] w fun e w' => e = .returned (.bool (ok_fun n s t len)) ∧ Below w.heap.size w w' := by
  have HZ := Lib.hid hsz
  have HTZ := Lib.hid htz
  clear hsz htz
  obtain ⟨R, hR⟩ : ∃ R, R = ok_fun n s t len := ⟨_, rfl⟩
  have HR := Lib.hid hR
  rw [← hR]
  clear hR
  have hb0 : Below w.heap.size w (w.alloc (.cells #[.int .i8 3, .int .i64 n, .string s, .string t, .slice A len cap] 48)) := (Below.refl _ w).alloc (Nat.le_refl _) _
  have HB0 := Lib.hid hb0
  clear hb0
  go_enter Tryz.func210, Tryz.ntmps210
  go_wp2_with fail
  refine (nodeOf_fun n s t A len cap _).mono ?_
  rintro e w1 ⟨rfl, b1⟩
  go_wp2_with fail
  refine (termOf_fun n s t A len cap _).mono ?_
  rintro e w2 ⟨rfl, b2⟩
  have hs1 : w.heap.size < w1.heap.size := by have := b1.size; simp at this; omega
  have hs2 : w1.heap.size ≤ w2.heap.size := b2.size
  obtain ⟨V, hV⟩ : ∃ V, V = w2.alloc (.cells #[.int .i8 3, .int .i64 n, .string s, .string t, .slice none 0 0] 48) := ⟨_, rfl⟩
  have bV : Below w2.heap.size w2 V := by rw [hV]; exact (Below.refl _ w2).alloc (Nat.le_refl _) _
  have hsV : V.heap.size = w2.heap.size + 1 := by rw [hV]; simp
  have HB3 := Lib.hid (((HB0.out.trans (b1.mono (by simp))).trans (b2.mono (Nat.le_of_lt hs1))).trans (bV.mono (by omega)))
  have HBX := Lib.hid ((bV.block w.heap.size (by omega)).trans ((b2.block w.heap.size (by omega)).trans ((b1.block w.heap.size (by simp)).trans (block_alloc _ _))))
  have HBB : Hid (V.heap[w2.heap.size]? = some (.cells #[.int .i8 3, .int .i64 n, .string s, .string t, .slice none 0 0] 48)) := by rw [hV]; exact block_alloc _ _
  have hS3 := hS.below HB3.out hS.lt
  have HSV := Lib.hid hsV
  clear b1 b2 bV hsV
  go_wp2_with fail
  rw [← hV]
  clear hV
  refine (mayN_fun s t n HZ.out HTZ.out _ hS3).mono ?_
  rintro e w3 ⟨rfl, b3⟩
  have HB4 := Lib.hid (HB3.out.trans (b3.mono HB3.out.size))
  have hx : w3.heap[w.heap.size]? = _ := (b3.block w.heap.size (by rw [HSV.out]; omega)).trans HBX.out
  have hbk : w3.heap[w2.heap.size]? = _ := (b3.block w2.heap.size (by rw [HSV.out]; omega)).trans HBB.out
  have x1 : w3.cell? ⟨w.heap.size, 1, none⟩ = some (.int .i64 n) := cell_of_row hx rfl
  have y1 : w3.cell? ⟨w2.heap.size, 1, none⟩ = some (.int .i64 n) := cell_of_row hbk rfl
  have x2 : w3.cell? ⟨w.heap.size, 2, none⟩ = some (.string s) := cell_of_row hx rfl
  have y2 : w3.cell? ⟨w2.heap.size, 2, none⟩ = some (.string s) := cell_of_row hbk rfl
  have x3 : w3.cell? ⟨w.heap.size, 3, none⟩ = some (.string t) := cell_of_row hx rfl
  have y3 : w3.cell? ⟨w2.heap.size, 3, none⟩ = some (.string t) := cell_of_row hbk rfl
  have x4 : w3.cell? ⟨w.heap.size, 4, none⟩ = some (.slice A len cap) := cell_of_row hx rfl
  have y4 : w3.cell? ⟨w2.heap.size, 4, none⟩ = some (.slice none 0 0) := cell_of_row hbk rfl
  clear hx hbk b3 HBX HBB
  cases hm : ((nameB s 2 && nameB t 2 && arB n))
  · go_wp2_with fail
    go_ret
    exact ⟨ret_bool (by rw [HR.out]; simp [ok_fun, hm]), HB4.out⟩
  · skip
    cases hl : ((len : Int) == 0)
    · go_wp2_with fail
      go_ret
      exact ⟨ret_bool (by rw [HR.out]; simp [ok_fun, hl]), HB4.out⟩
    · go_wp2_with fail
      go_ret
      exact ⟨ret_bool (by rw [HR.out]; simp [ok_fun, hm, hl]), HB4.out⟩

set_option maxHeartbeats 2000000 in
set_option maxRecDepth 100000 in
theorem such_pid (n : Int) (s t : ByteArray) (A : Option Addr) (len cap : Nat) (hsz : s.size ≤ maxLen) (htz : t.size ≤ maxLen) (w : World) (hS : Spans w) :
    Calls Tryz.prog 210 #[.agg #[.int .i8 4, .int .i64 n, .string s, .string t, .slice A len cap]] w fun e w' => e = .returned (.bool (ok_pid n s t len)) ∧ Below w.heap.size w w' := by
  have HZ := Lib.hid hsz
  have HTZ := Lib.hid htz
  clear hsz htz
  obtain ⟨R, hR⟩ : ∃ R, R = ok_pid n s t len := ⟨_, rfl⟩
  have HR := Lib.hid hR
  rw [← hR]
  clear hR
  have hb0 : Below w.heap.size w (w.alloc (.cells #[.int .i8 4, .int .i64 n, .string s, .string t, .slice A len cap] 48)) := (Below.refl _ w).alloc (Nat.le_refl _) _
  have HB0 := Lib.hid hb0
  clear hb0
  go_enter Tryz.func210, Tryz.ntmps210
  go_wp2_with fail
  refine (nodeOf_pid n s t A len cap _).mono ?_
  rintro e w1 ⟨rfl, b1⟩
  go_wp2_with fail
  refine (termOf_pid n s t A len cap _).mono ?_
  rintro e w2 ⟨rfl, b2⟩
  have hs1 : w.heap.size < w1.heap.size := by have := b1.size; simp at this; omega
  have hs2 : w1.heap.size ≤ w2.heap.size := b2.size
  obtain ⟨V, hV⟩ : ∃ V, V = w2.alloc (.cells #[.int .i8 4, .int .i64 n, .string ⟨#[]⟩, .string ⟨#[]⟩, .slice none 0 0] 48) := ⟨_, rfl⟩
  have bV : Below w2.heap.size w2 V := by rw [hV]; exact (Below.refl _ w2).alloc (Nat.le_refl _) _
  have hsV : V.heap.size = w2.heap.size + 1 := by rw [hV]; simp
  have HB3 := Lib.hid (((HB0.out.trans (b1.mono (by simp))).trans (b2.mono (Nat.le_of_lt hs1))).trans (bV.mono (by omega)))
  have HBX := Lib.hid ((bV.block w.heap.size (by omega)).trans ((b2.block w.heap.size (by omega)).trans ((b1.block w.heap.size (by simp)).trans (block_alloc _ _))))
  have HBB : Hid (V.heap[w2.heap.size]? = some (.cells #[.int .i8 4, .int .i64 n, .string ⟨#[]⟩, .string ⟨#[]⟩, .slice none 0 0] 48)) := by rw [hV]; exact block_alloc _ _
  have hS3 := hS.below HB3.out hS.lt
  have HSV := Lib.hid hsV
  clear b1 b2 bV hsV
  go_wp2_with fail
  rw [← hV]
  clear hV
  refine (mayN_pid _ _).mono ?_
  rintro e w3 ⟨rfl, b3⟩
  have HB4 := Lib.hid (HB3.out.trans (b3.mono HB3.out.size))
  have hx : w3.heap[w.heap.size]? = _ := (b3.block w.heap.size (by rw [HSV.out]; omega)).trans HBX.out
  have hbk : w3.heap[w2.heap.size]? = _ := (b3.block w2.heap.size (by rw [HSV.out]; omega)).trans HBB.out
  have x1 : w3.cell? ⟨w.heap.size, 1, none⟩ = some (.int .i64 n) := cell_of_row hx rfl
  have y1 : w3.cell? ⟨w2.heap.size, 1, none⟩ = some (.int .i64 n) := cell_of_row hbk rfl
  have x2 : w3.cell? ⟨w.heap.size, 2, none⟩ = some (.string s) := cell_of_row hx rfl
  have y2 : w3.cell? ⟨w2.heap.size, 2, none⟩ = some (.string ⟨#[]⟩) := cell_of_row hbk rfl
  have x3 : w3.cell? ⟨w.heap.size, 3, none⟩ = some (.string t) := cell_of_row hx rfl
  have y3 : w3.cell? ⟨w2.heap.size, 3, none⟩ = some (.string ⟨#[]⟩) := cell_of_row hbk rfl
  have x4 : w3.cell? ⟨w.heap.size, 4, none⟩ = some (.slice A len cap) := cell_of_row hx rfl
  have y4 : w3.cell? ⟨w2.heap.size, 4, none⟩ = some (.slice none 0 0) := cell_of_row hbk rfl
  clear hx hbk b3 HBX HBB
  cases hm : (pidB n)
  · go_wp2_with fail
    go_ret
    exact ⟨ret_bool (by rw [HR.out]; simp [ok_pid, hm]), HB4.out⟩
  · skip
    cases hs : (s.toList.isEmpty)
    · have hsn := List.isEmpty_no hs
      go_wp2_with fail
      go_ret
      exact ⟨ret_bool (by rw [HR.out]; simp [ok_pid, hs]), HB4.out⟩
    · have hsy := List.isEmpty_iff.1 hs
      skip
      cases ht : (t.toList.isEmpty)
      · have htn := List.isEmpty_no ht
        go_wp2_with fail
        go_ret
        exact ⟨ret_bool (by rw [HR.out]; simp [ok_pid, ht]), HB4.out⟩
      · have hty := List.isEmpty_iff.1 ht
        skip
        cases hl : ((len : Int) == 0)
        · go_wp2_with fail
          go_ret
          exact ⟨ret_bool (by rw [HR.out]; simp [ok_pid, hl]), HB4.out⟩
        · go_wp2_with fail
          go_ret
          exact ⟨ret_bool (by rw [HR.out]; simp [ok_pid, hm, hs, ht, hl]), HB4.out⟩

set_option maxHeartbeats 2000000 in
set_option maxRecDepth 100000 in
theorem such_tuple (n : Int) (s t : ByteArray) (A : Option Addr) (len cap : Nat) (hsz : s.size ≤ maxLen) (htz : t.size ≤ maxLen) (w : World) (hS : Spans w) :
    Calls Tryz.prog 210 #[.agg #[.int .i8 5, .int .i64 n, .string s, .string t, .slice A len cap]] w fun e w' => e = .returned (.bool (ok_tuple n s t len)) ∧ Below w.heap.size w w' := by
  have HZ := Lib.hid hsz
  have HTZ := Lib.hid htz
  clear hsz htz
  obtain ⟨R, hR⟩ : ∃ R, R = ok_tuple n s t len := ⟨_, rfl⟩
  have HR := Lib.hid hR
  rw [← hR]
  clear hR
  have hb0 : Below w.heap.size w (w.alloc (.cells #[.int .i8 5, .int .i64 n, .string s, .string t, .slice A len cap] 48)) := (Below.refl _ w).alloc (Nat.le_refl _) _
  have HB0 := Lib.hid hb0
  clear hb0
  go_enter Tryz.func210, Tryz.ntmps210
  go_wp2_with fail
  refine (nodeOf_tuple n s t A len cap _).mono ?_
  rintro e w1 ⟨rfl, b1⟩
  go_wp2_with fail
  refine (termOf_tuple n s t A len cap _).mono ?_
  rintro e w2 ⟨rfl, b2⟩
  have hs1 : w.heap.size < w1.heap.size := by have := b1.size; simp at this; omega
  have hs2 : w1.heap.size ≤ w2.heap.size := b2.size
  obtain ⟨V, hV⟩ : ∃ V, V = w2.alloc (.cells #[.int .i8 5, .int .i64 0, .string ⟨#[]⟩, .string ⟨#[]⟩, .slice A len cap] 48) := ⟨_, rfl⟩
  have bV : Below w2.heap.size w2 V := by rw [hV]; exact (Below.refl _ w2).alloc (Nat.le_refl _) _
  have hsV : V.heap.size = w2.heap.size + 1 := by rw [hV]; simp
  have HB3 := Lib.hid (((HB0.out.trans (b1.mono (by simp))).trans (b2.mono (Nat.le_of_lt hs1))).trans (bV.mono (by omega)))
  have HBX := Lib.hid ((bV.block w.heap.size (by omega)).trans ((b2.block w.heap.size (by omega)).trans ((b1.block w.heap.size (by simp)).trans (block_alloc _ _))))
  have HBB : Hid (V.heap[w2.heap.size]? = some (.cells #[.int .i8 5, .int .i64 0, .string ⟨#[]⟩, .string ⟨#[]⟩, .slice A len cap] 48)) := by rw [hV]; exact block_alloc _ _
  have hS3 := hS.below HB3.out hS.lt
  have HSV := Lib.hid hsV
  clear b1 b2 bV hsV
  go_wp2_with fail
  rw [← hV]
  clear hV
  refine (mayN_tuple _ _ _ _).mono ?_
  rintro e w3 ⟨rfl, b3⟩
  have HB4 := Lib.hid (HB3.out.trans (b3.mono HB3.out.size))
  have hx : w3.heap[w.heap.size]? = _ := (b3.block w.heap.size (by rw [HSV.out]; omega)).trans HBX.out
  have hbk : w3.heap[w2.heap.size]? = _ := (b3.block w2.heap.size (by rw [HSV.out]; omega)).trans HBB.out
  have x1 : w3.cell? ⟨w.heap.size, 1, none⟩ = some (.int .i64 n) := cell_of_row hx rfl
  have y1 : w3.cell? ⟨w2.heap.size, 1, none⟩ = some (.int .i64 0) := cell_of_row hbk rfl
  have x2 : w3.cell? ⟨w.heap.size, 2, none⟩ = some (.string s) := cell_of_row hx rfl
  have y2 : w3.cell? ⟨w2.heap.size, 2, none⟩ = some (.string ⟨#[]⟩) := cell_of_row hbk rfl
  have x3 : w3.cell? ⟨w.heap.size, 3, none⟩ = some (.string t) := cell_of_row hx rfl
  have y3 : w3.cell? ⟨w2.heap.size, 3, none⟩ = some (.string ⟨#[]⟩) := cell_of_row hbk rfl
  have x4 : w3.cell? ⟨w.heap.size, 4, none⟩ = some (.slice A len cap) := cell_of_row hx rfl
  have y4 : w3.cell? ⟨w2.heap.size, 4, none⟩ = some (.slice A len cap) := cell_of_row hbk rfl
  clear hx hbk b3 HBX HBB
  cases hn : (n == 0)
  · go_wp2_with fail
    go_ret
    exact ⟨ret_bool (by rw [HR.out]; simp [ok_tuple, hn]), HB4.out⟩
  · obtain rfl : n = 0 := by simpa using hn
    skip
    cases hs : (s.toList.isEmpty)
    · have hsn := List.isEmpty_no hs
      go_wp2_with fail
      go_ret
      exact ⟨ret_bool (by rw [HR.out]; simp [ok_tuple, hs]), HB4.out⟩
    · have hsy := List.isEmpty_iff.1 hs
      skip
      cases ht : (t.toList.isEmpty)
      · have htn := List.isEmpty_no ht
        go_wp2_with fail
        go_ret
        exact ⟨ret_bool (by rw [HR.out]; simp [ok_tuple, ht]), HB4.out⟩
      · have hty := List.isEmpty_iff.1 ht
        go_wp2_with fail
        go_ret
        exact ⟨ret_bool (by rw [HR.out]; simp [ok_tuple, hs, ht]), HB4.out⟩

set_option maxHeartbeats 2000000 in
set_option maxRecDepth 100000 in
theorem such_empty (n : Int) (s t : ByteArray) (A : Option Addr) (len cap : Nat) (hsz : s.size ≤ maxLen) (htz : t.size ≤ maxLen) (w : World) (hS : Spans w) :
    Calls Tryz.prog 210 #[.agg #[.int .i8 6, .int .i64 n, .string s, .string t, .slice A len cap]] w fun e w' => e = .returned (.bool (ok_empty n s t len)) ∧ Below w.heap.size w w' := by
  have HZ := Lib.hid hsz
  have HTZ := Lib.hid htz
  clear hsz htz
  obtain ⟨R, hR⟩ : ∃ R, R = ok_empty n s t len := ⟨_, rfl⟩
  have HR := Lib.hid hR
  rw [← hR]
  clear hR
  have hb0 : Below w.heap.size w (w.alloc (.cells #[.int .i8 6, .int .i64 n, .string s, .string t, .slice A len cap] 48)) := (Below.refl _ w).alloc (Nat.le_refl _) _
  have HB0 := Lib.hid hb0
  clear hb0
  go_enter Tryz.func210, Tryz.ntmps210
  go_wp2_with fail
  refine (nodeOf_empty n s t A len cap _).mono ?_
  rintro e w1 ⟨rfl, b1⟩
  go_wp2_with fail
  refine (termOf_empty n s t A len cap _).mono ?_
  rintro e w2 ⟨rfl, b2⟩
  have hs1 : w.heap.size < w1.heap.size := by have := b1.size; simp at this; omega
  have hs2 : w1.heap.size ≤ w2.heap.size := b2.size
  obtain ⟨V, hV⟩ : ∃ V, V = w2.alloc (.cells #[.int .i8 6, .int .i64 0, .string ⟨#[]⟩, .string ⟨#[]⟩, .slice none 0 0] 48) := ⟨_, rfl⟩
  have bV : Below w2.heap.size w2 V := by rw [hV]; exact (Below.refl _ w2).alloc (Nat.le_refl _) _
  have hsV : V.heap.size = w2.heap.size + 1 := by rw [hV]; simp
  have HB3 := Lib.hid (((HB0.out.trans (b1.mono (by simp))).trans (b2.mono (Nat.le_of_lt hs1))).trans (bV.mono (by omega)))
  have HBX := Lib.hid ((bV.block w.heap.size (by omega)).trans ((b2.block w.heap.size (by omega)).trans ((b1.block w.heap.size (by simp)).trans (block_alloc _ _))))
  have HBB : Hid (V.heap[w2.heap.size]? = some (.cells #[.int .i8 6, .int .i64 0, .string ⟨#[]⟩, .string ⟨#[]⟩, .slice none 0 0] 48)) := by rw [hV]; exact block_alloc _ _
  have hS3 := hS.below HB3.out hS.lt
  have HSV := Lib.hid hsV
  clear b1 b2 bV hsV
  go_wp2_with fail
  rw [← hV]
  clear hV
  refine (mayN_empty _).mono ?_
  rintro e w3 ⟨rfl, b3⟩
  have HB4 := Lib.hid (HB3.out.trans (b3.mono HB3.out.size))
  have hx : w3.heap[w.heap.size]? = _ := (b3.block w.heap.size (by rw [HSV.out]; omega)).trans HBX.out
  have hbk : w3.heap[w2.heap.size]? = _ := (b3.block w2.heap.size (by rw [HSV.out]; omega)).trans HBB.out
  have x1 : w3.cell? ⟨w.heap.size, 1, none⟩ = some (.int .i64 n) := cell_of_row hx rfl
  have y1 : w3.cell? ⟨w2.heap.size, 1, none⟩ = some (.int .i64 0) := cell_of_row hbk rfl
  have x2 : w3.cell? ⟨w.heap.size, 2, none⟩ = some (.string s) := cell_of_row hx rfl
  have y2 : w3.cell? ⟨w2.heap.size, 2, none⟩ = some (.string ⟨#[]⟩) := cell_of_row hbk rfl
  have x3 : w3.cell? ⟨w.heap.size, 3, none⟩ = some (.string t) := cell_of_row hx rfl
  have y3 : w3.cell? ⟨w2.heap.size, 3, none⟩ = some (.string ⟨#[]⟩) := cell_of_row hbk rfl
  have x4 : w3.cell? ⟨w.heap.size, 4, none⟩ = some (.slice A len cap) := cell_of_row hx rfl
  have y4 : w3.cell? ⟨w2.heap.size, 4, none⟩ = some (.slice none 0 0) := cell_of_row hbk rfl
  clear hx hbk b3 HBX HBB
  cases hn : (n == 0)
  · go_wp2_with fail
    go_ret
    exact ⟨ret_bool (by rw [HR.out]; simp [ok_empty, hn]), HB4.out⟩
  · obtain rfl : n = 0 := by simpa using hn
    skip
    cases hs : (s.toList.isEmpty)
    · have hsn := List.isEmpty_no hs
      go_wp2_with fail
      go_ret
      exact ⟨ret_bool (by rw [HR.out]; simp [ok_empty, hs]), HB4.out⟩
    · have hsy := List.isEmpty_iff.1 hs
      skip
      cases ht : (t.toList.isEmpty)
      · have htn := List.isEmpty_no ht
        go_wp2_with fail
        go_ret
        exact ⟨ret_bool (by rw [HR.out]; simp [ok_empty, ht]), HB4.out⟩
      · have hty := List.isEmpty_iff.1 ht
        skip
        cases hl : ((len : Int) == 0)
        · go_wp2_with fail
          go_ret
          exact ⟨ret_bool (by rw [HR.out]; simp [ok_empty, hl]), HB4.out⟩
        · go_wp2_with fail
          go_ret
          exact ⟨ret_bool (by rw [HR.out]; simp [ok_empty, hs, ht, hl]), HB4.out⟩

set_option maxHeartbeats 2000000 in
set_option maxRecDepth 100000 in
theorem such_cons (n : Int) (s t : ByteArray) (A : Option Addr) (len cap : Nat) (hsz : s.size ≤ maxLen) (htz : t.size ≤ maxLen) (w : World) (hS : Spans w) :
    Calls Tryz.prog 210 #[.agg #[.int .i8 7, .int .i64 n, .string s, .string t, .slice A len cap]] w fun e w' => e = .returned (.bool (ok_cons n s t len)) ∧ Below w.heap.size w w' := by
  have HZ := Lib.hid hsz
  have HTZ := Lib.hid htz
  clear hsz htz
  obtain ⟨R, hR⟩ : ∃ R, R = ok_cons n s t len := ⟨_, rfl⟩
  have HR := Lib.hid hR
  rw [← hR]
  clear hR
  have hb0 : Below w.heap.size w (w.alloc (.cells #[.int .i8 7, .int .i64 n, .string s, .string t, .slice A len cap] 48)) := (Below.refl _ w).alloc (Nat.le_refl _) _
  have HB0 := Lib.hid hb0
  clear hb0
  go_enter Tryz.func210, Tryz.ntmps210
  go_wp2_with fail
  refine (nodeOf_cons n s t A len cap _).mono ?_
  rintro e w1 ⟨rfl, b1⟩
  go_wp2_with fail
  refine (termOf_cons n s t A len cap _).mono ?_
  rintro e w2 ⟨rfl, b2⟩
  have hs1 : w.heap.size < w1.heap.size := by have := b1.size; simp at this; omega
  have hs2 : w1.heap.size ≤ w2.heap.size := b2.size
  obtain ⟨V, hV⟩ : ∃ V, V = w2.alloc (.cells #[.int .i8 7, .int .i64 0, .string ⟨#[]⟩, .string ⟨#[]⟩, .slice A len cap] 48) := ⟨_, rfl⟩
  have bV : Below w2.heap.size w2 V := by rw [hV]; exact (Below.refl _ w2).alloc (Nat.le_refl _) _
  have hsV : V.heap.size = w2.heap.size + 1 := by rw [hV]; simp
  have HB3 := Lib.hid (((HB0.out.trans (b1.mono (by simp))).trans (b2.mono (Nat.le_of_lt hs1))).trans (bV.mono (by omega)))
  have HBX := Lib.hid ((bV.block w.heap.size (by omega)).trans ((b2.block w.heap.size (by omega)).trans ((b1.block w.heap.size (by simp)).trans (block_alloc _ _))))
  have HBB : Hid (V.heap[w2.heap.size]? = some (.cells #[.int .i8 7, .int .i64 0, .string ⟨#[]⟩, .string ⟨#[]⟩, .slice A len cap] 48)) := by rw [hV]; exact block_alloc _ _
  have hS3 := hS.below HB3.out hS.lt
  have HSV := Lib.hid hsV
  clear b1 b2 bV hsV
  go_wp2_with fail
  rw [← hV]
  clear hV
  refine (mayN_cons _ _ _ _).mono ?_
  rintro e w3 ⟨rfl, b3⟩
  have HB4 := Lib.hid (HB3.out.trans (b3.mono HB3.out.size))
  have hx : w3.heap[w.heap.size]? = _ := (b3.block w.heap.size (by rw [HSV.out]; omega)).trans HBX.out
  have hbk : w3.heap[w2.heap.size]? = _ := (b3.block w2.heap.size (by rw [HSV.out]; omega)).trans HBB.out
  have x1 : w3.cell? ⟨w.heap.size, 1, none⟩ = some (.int .i64 n) := cell_of_row hx rfl
  have y1 : w3.cell? ⟨w2.heap.size, 1, none⟩ = some (.int .i64 0) := cell_of_row hbk rfl
  have x2 : w3.cell? ⟨w.heap.size, 2, none⟩ = some (.string s) := cell_of_row hx rfl
  have y2 : w3.cell? ⟨w2.heap.size, 2, none⟩ = some (.string ⟨#[]⟩) := cell_of_row hbk rfl
  have x3 : w3.cell? ⟨w.heap.size, 3, none⟩ = some (.string t) := cell_of_row hx rfl
  have y3 : w3.cell? ⟨w2.heap.size, 3, none⟩ = some (.string ⟨#[]⟩) := cell_of_row hbk rfl
  have x4 : w3.cell? ⟨w.heap.size, 4, none⟩ = some (.slice A len cap) := cell_of_row hx rfl
  have y4 : w3.cell? ⟨w2.heap.size, 4, none⟩ = some (.slice A len cap) := cell_of_row hbk rfl
  clear hx hbk b3 HBX HBB
  cases hm : (((len : Int) == 2))
  · go_wp2_with fail
    go_ret
    exact ⟨ret_bool (by rw [HR.out]; simp [ok_cons, hm]), HB4.out⟩
  · skip
    cases hn : (n == 0)
    · go_wp2_with fail
      go_ret
      exact ⟨ret_bool (by rw [HR.out]; simp [ok_cons, hn]), HB4.out⟩
    · obtain rfl : n = 0 := by simpa using hn
      skip
      cases hs : (s.toList.isEmpty)
      · have hsn := List.isEmpty_no hs
        go_wp2_with fail
        go_ret
        exact ⟨ret_bool (by rw [HR.out]; simp [ok_cons, hs]), HB4.out⟩
      · have hsy := List.isEmpty_iff.1 hs
        skip
        cases ht : (t.toList.isEmpty)
        · have htn := List.isEmpty_no ht
          go_wp2_with fail
          go_ret
          exact ⟨ret_bool (by rw [HR.out]; simp [ok_cons, ht]), HB4.out⟩
        · have hty := List.isEmpty_iff.1 ht
          go_wp2_with fail
          go_ret
          exact ⟨ret_bool (by rw [HR.out]; simp [ok_cons, hm, hs, ht]), HB4.out⟩

set_option maxHeartbeats 2000000 in
set_option maxRecDepth 100000 in
theorem such_none (k n : Int) (s t : ByteArray) (A : Option Addr) (len cap : Nat) (hk : k < 0 ∨ 7 < k) (hsz : s.size ≤ maxLen) (htz : t.size ≤ maxLen) (w : World) (hS : Spans w) :
    Calls Tryz.prog 210 #[.agg #[.int .i8 k, .int .i64 n, .string s, .string t, .slice A len cap]] w fun e w' => e = .returned (.bool false) ∧ Below w.heap.size w w' := by
  have HZ := Lib.hid hsz
  have HTZ := Lib.hid htz
  clear hsz htz
  have hb0 : Below w.heap.size w (w.alloc (.cells #[.int .i8 k, .int .i64 n, .string s, .string t, .slice A len cap] 48)) := (Below.refl _ w).alloc (Nat.le_refl _) _
  have HB0 := Lib.hid hb0
  clear hb0
  have HK := Lib.hid hk
  clear hk
  go_enter Tryz.func210, Tryz.ntmps210
  go_wp2_with fail
  refine (nodeOf_none k n s t A len cap HK.out _).mono ?_
  rintro e w1 ⟨rfl, b1⟩
  go_wp2_with fail
  refine (termOf_none n s t A len cap _).mono ?_
  rintro e w2 ⟨rfl, b2⟩
  have hs1 : w.heap.size < w1.heap.size := by have := b1.size; simp at this; omega
  have hs2 : w1.heap.size ≤ w2.heap.size := b2.size
  obtain ⟨V, hV⟩ : ∃ V, V = w2.alloc (.cells #[.int .i8 0, .int .i64 0, .string ⟨#[]⟩, .string ⟨#[]⟩, .slice none 0 0] 48) := ⟨_, rfl⟩
  have bV : Below w2.heap.size w2 V := by rw [hV]; exact (Below.refl _ w2).alloc (Nat.le_refl _) _
  have hsV : V.heap.size = w2.heap.size + 1 := by rw [hV]; simp
  have HB3 := Lib.hid (((HB0.out.trans (b1.mono (by simp))).trans (b2.mono (Nat.le_of_lt hs1))).trans (bV.mono (by omega)))
  have HBX := Lib.hid ((bV.block w.heap.size (by omega)).trans ((b2.block w.heap.size (by omega)).trans ((b1.block w.heap.size (by simp)).trans (block_alloc _ _))))
  have HBB : Hid (V.heap[w2.heap.size]? = some (.cells #[.int .i8 0, .int .i64 0, .string ⟨#[]⟩, .string ⟨#[]⟩, .slice none 0 0] 48)) := by rw [hV]; exact block_alloc _ _
  have hS3 := hS.below HB3.out hS.lt
  have HSV := Lib.hid hsV
  clear b1 b2 bV hsV
  go_wp2_with fail
  rw [← hV]
  clear hV
  refine (mayN_none _).mono ?_
  rintro e w3 ⟨rfl, b3⟩
  have HB4 := Lib.hid (HB3.out.trans (b3.mono HB3.out.size))
  have hx : w3.heap[w.heap.size]? = _ := (b3.block w.heap.size (by rw [HSV.out]; omega)).trans HBX.out
  have hbk : w3.heap[w2.heap.size]? = _ := (b3.block w2.heap.size (by rw [HSV.out]; omega)).trans HBB.out
  have x1 : w3.cell? ⟨w.heap.size, 1, none⟩ = some (.int .i64 n) := cell_of_row hx rfl
  have y1 : w3.cell? ⟨w2.heap.size, 1, none⟩ = some (.int .i64 0) := cell_of_row hbk rfl
  have x2 : w3.cell? ⟨w.heap.size, 2, none⟩ = some (.string s) := cell_of_row hx rfl
  have y2 : w3.cell? ⟨w2.heap.size, 2, none⟩ = some (.string ⟨#[]⟩) := cell_of_row hbk rfl
  have x3 : w3.cell? ⟨w.heap.size, 3, none⟩ = some (.string t) := cell_of_row hx rfl
  have y3 : w3.cell? ⟨w2.heap.size, 3, none⟩ = some (.string ⟨#[]⟩) := cell_of_row hbk rfl
  have x4 : w3.cell? ⟨w.heap.size, 4, none⟩ = some (.slice A len cap) := cell_of_row hx rfl
  have y4 : w3.cell? ⟨w2.heap.size, 4, none⟩ = some (.slice none 0 0) := cell_of_row hbk rfl
  clear hx hbk b3 HBX HBB
  go_wp2_with fail
  go_ret
  exact ⟨rfl, HB4.out⟩

theorem such_any {P : Nat → Prop} {x : Tm} {v : Value} {w : World} (hT : TmAt P w x v) (hS : Spans w) : Calls Tryz.prog 210 #[v] w fun e w' => e = .returned (.bool (okB x)) ∧ Below w.heap.size w w' := by
  cases hT with
  | @mk k n s t l A cap vs hk hn hs ht hl hcap hc hx =>
    unfold okB
    dsimp only [Tm.k, Tm.n, Tm.s, Tm.t, Tm.l]
    by_cases h : k < 0 ∨ 7 < k
    · have hf : okN k n s t l.length = false := by
        unfold okN
        rw [if_neg (by omega), if_neg (by omega), if_neg (by omega), if_neg (by omega), if_neg (by omega), if_neg (by omega), if_neg (by omega), if_neg (by omega)]
      rw [hf]
      exact such_none k n s t A _ cap h hs ht w hS
    · have h8 : k = 0 ∨ k = 1 ∨ k = 2 ∨ k = 3 ∨ k = 4 ∨ k = 5 ∨ k = 6 ∨ k = 7 := by omega
      rcases h8 with rfl | rfl | rfl | rfl | rfl | rfl | rfl | rfl
      · exact such_integer n s t A _ cap hs ht w hS
      · exact such_atom n s t A _ cap hs ht w hS
      · exact such_ref n s t A _ cap hs ht w hS
      · exact such_fun n s t A _ cap hs ht w hS
      · exact such_pid n s t A _ cap hs ht w hS
      · exact such_tuple n s t A _ cap hs ht w hS
      · exact such_empty n s t A _ cap hs ht w hS
      · exact such_cons n s t A _ cap hs ht w hS
end Go.Proofs.YtdimcddbmccniaaGreatDoor
