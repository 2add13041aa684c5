/- The document's own table of atoms (layer 2), by definition: its methods' contracts. -/
import Derived.Test.YtjimnkbgnblanaaDoorAtomsAll
import Derived.Test.YtjimnkbgnblanaaDoorRef02
import Derived.Deep.QuietTactic
import Derived.BigQuiet
set_option linter.unusedVariables false
namespace Go.Proofs.YtjimnkbgnblanaaDoor
open Go.RowKit

/-- At block tb lies the document's table for at most so many, with the atoms L; rv: its row. -/
structure RTb (base : Nat) (w : World) (tb : Nat) (rv : Value) (most : Int) (L : List ByteArray) : Prop where
  tbl : w.heap[tb]? = some (.cells #[.int .i64 most, rv] 44 (0, 0))
  row : w.ownsRow base 9 1 rv L.length (L.map .string)
  len : (L.length : Int) ≤ most
  most : most ≤ 65536
  tlow : base ≤ tb

def rfoot (tb : Nat) (rv : Value) (k : Nat) : Prop := k = tb ∨ rv.ownBlock = some k

theorem RTb.kept {base : Nat} {w w' : World} {tb : Nat} {rv : Value} {most : Int} {L : List ByteArray} (h : RTb base w tb rv most L) {F : Nat → Prop} (hm : Mod F w w') (hF : ∀ k, rfoot tb rv k → ¬ F k) : RTb base w' tb rv most L :=
  { h with
    tbl := (hm.block tb (heap_lt h.tbl) (hF _ (.inl rfl))).trans h.tbl
    row := hm.row h.row (fun k hk => hF k (.inr hk)) }
theorem RTb.below {base : Nat} {w w' : World} {tb : Nat} {rv : Value} {most : Int} {L : List ByteArray} (h : RTb base w tb rv most L) (hb : Below w.heap.size w w') : RTb base w' tb rv most L :=
  h.kept (F := fun _ => False) (Mod.of_below hb) (fun _ _ f => f)

theorem rNew_no (most : Int) (h : most < 1 ∨ 65536 < most) (w : World) : Calls Tryd.prog 15 #[.int .i64 most] w fun e w' => e = .returned (.tuple #[.pointer none, .int .i64 2]) ∧ w = w' := by
  rcases h with h | h
  · go_enter Tryd.func15, Tryd.ntmps15
    go_wp2
    go_ret2
    exact ⟨rfl, rfl⟩
  · have h1 : ¬ most < 1 := by omega
    go_enter Tryd.func15, Tryd.ntmps15
    go_wp2
    go_ret2
    exact ⟨rfl, rfl⟩

theorem rNew_yes (most : Int) (h1 : 1 ≤ most) (h2 : most ≤ 65536) (w : World) : Calls Tryd.prog 15 #[.int .i64 most] w fun e w' => ∃ tb, e = .returned (.tuple #[.pointer (some ⟨tb, 0, none⟩), .int .i64 0]) ∧ RTb w.heap.size w' tb (.slice none 0 0) most [] ∧ Below w.heap.size w w' := by
  go_enter Tryd.func15, Tryd.ntmps15
  go_wp2
  go_ret2
  exact ⟨w.heap.size, rfl, ⟨World.alloc_heap_new w _, World.ownsRow_nil _ _ _ _, by simp; omega, h2, Nat.le_refl _⟩, (Below.refl _ _).alloc (Nat.le_refl _) _⟩

/-- Where an atom stands first, or that it is not there. -/
def findR (L : List ByteArray) (s : ByteArray) : Int × Bool := match L.findIdx? (· == s) with | some j => (j, true) | none => (0, false)

theorem beq_list {a b : ByteArray} : (a.toList == b.toList) = (a == b) := by
  rw [Bool.eq_iff_iff, beq_iff_eq, MapKept.bytes_beq]
  constructor
  · intro e; exact ByteArray.ext (Array.ext' (by rw [← ByteArray.toList_eq, ← ByteArray.toList_eq]; exact e))
  · intro e; rw [e]

theorem rOf_hit {base : Nat} {w : World} {tb : Nat} {rv : Value} {most : Int} {L : List ByteArray} (h : RTb base w tb rv most L) (s : ByteArray) (j : Nat) (hj : L[j]? = some s) (hN : L.Nodup) :
    Calls Tryd.prog 19 #[.pointer (some ⟨tb, 0, none⟩), .string s] w fun e w' => e = .returned (.tuple #[.int .i64 (j : Int), .bool true]) ∧ w = w' := by
  obtain ⟨a, cap, rfl⟩ := row_shape h.row
  have hc := cell_of_row (i := 1) (v := .slice a L.length cap) h.tbl rfl
  have hjl := (List.getElem?_eq_some_iff.1 hj).1
  have hmost := Int.le_trans h.len h.most
  have HJ := Lib.hid hj
  clear hj
  go_enter Tryd.func19, Tryd.ntmps19
  go_wp2
  go_loop [6] (fun i => ∃ k : Nat, k ≤ j ∧ i = .int .i64 k) (fun i => j - (intOf i).toNat)
  case atStart => exact ⟨0, Nat.zero_le _, rfl⟩
  case round =>
    obtain ⟨k, hk, rfl⟩ := hrel
    obtain ⟨t, ht⟩ : ∃ t, L[k]? = some t := ⟨L[k], List.getElem?_eq_getElem _⟩
    obtain ⟨g, rfl, hcell⟩ := row_cell h.row ht
    have hkl : k < L.length := by omega
    by_cases e : k = j
    · subst e
      obtain rfl : t = s := Option.some.inj (ht.symm.trans HJ.out)
      clear ht
      go_wp2
      go_ret2
      exact ⟨rfl, rfl⟩
    · have hne : (t.toList == s.toList) = false := by
        rw [beq_list, Bool.eq_false_iff]
        intro e2
        obtain rfl := (MapKept.bytes_beq t s).1 e2
        exact e ((List.getElem?_inj hkl hN).1 (ht.trans HJ.out.symm))
      clear ht
      go_wp2
      go_round
      case rel => exact ⟨k + 1, by omega, by go_num⟩
      case measure => simp [intOf]; omega

theorem rOf_miss {base : Nat} {w : World} {tb : Nat} {rv : Value} {most : Int} {L : List ByteArray} (h : RTb base w tb rv most L) (s : ByteArray) (hs : s ∉ L) :
    Calls Tryd.prog 19 #[.pointer (some ⟨tb, 0, none⟩), .string s] w fun e w' => e = .returned (.tuple #[.int .i64 0, .bool false]) ∧ w = w' := by
  obtain ⟨a, cap, rfl⟩ := row_shape h.row
  have hc := cell_of_row (i := 1) (v := .slice a L.length cap) h.tbl rfl
  have hmost := Int.le_trans h.len h.most
  go_enter Tryd.func19, Tryd.ntmps19
  go_wp2
  go_loop [6] (fun i => ∃ k : Nat, k ≤ L.length ∧ i = .int .i64 k) (fun i => L.length - (intOf i).toNat)
  case atStart => exact ⟨0, Nat.zero_le _, rfl⟩
  case round =>
    obtain ⟨k, hk, rfl⟩ := hrel
    by_cases hkl : k < L.length
    · obtain ⟨t, ht⟩ : ∃ t, L[k]? = some t := ⟨L[k], List.getElem?_eq_getElem _⟩
      obtain ⟨g, rfl, hcell⟩ := row_cell h.row ht
      have hne : (t.toList == s.toList) = false := by
        rw [beq_list, Bool.eq_false_iff]
        intro e2
        obtain rfl := (MapKept.bytes_beq t s).1 e2
        exact hs (List.mem_of_getElem? ht)
      clear ht
      go_wp2
      go_round
      case rel => exact ⟨k + 1, by omega, by go_num⟩
      case measure => simp [intOf]; omega
    · go_wp2
      go_ret2
      exact ⟨rfl, rfl⟩

theorem rText_no {base : Nat} {w : World} {tb : Nat} {rv : Value} {most : Int} {L : List ByteArray} (h : RTb base w tb rv most L) (n : Int) (hn : n < 0 ∨ (L.length : Int) ≤ n) :
    Calls Tryd.prog 21 #[.pointer (some ⟨tb, 0, none⟩), .int .i64 n] w fun e w' => e = .returned (.tuple #[.string ⟨#[]⟩, .int .i64 4]) ∧ w = w' := by
  obtain ⟨a, cap, rfl⟩ := row_shape h.row
  have hc := cell_of_row (i := 1) (v := .slice a L.length cap) h.tbl rfl
  rcases hn with hn | hn
  · go_enter Tryd.func21, Tryd.ntmps21
    go_wp2
    go_ret2
    exact ⟨rfl, rfl⟩
  · have hn0 : ¬ n < 0 := by omega
    go_enter Tryd.func21, Tryd.ntmps21
    go_wp2
    go_ret2
    exact ⟨rfl, rfl⟩

theorem rText_at {base : Nat} {w : World} {tb : Nat} {rv : Value} {most : Int} {L : List ByteArray} (h : RTb base w tb rv most L) (k : Nat) (s : ByteArray) (hk : L[k]? = some s) :
    Calls Tryd.prog 21 #[.pointer (some ⟨tb, 0, none⟩), .int .i64 (k : Int)] w fun e w' => e = .returned (.tuple #[.string s, .int .i64 0]) ∧ w = w' := by
  obtain ⟨a, cap, rfl⟩ := row_shape h.row
  obtain ⟨g, rfl, hcell⟩ := row_cell h.row hk
  have hc := cell_of_row (i := 1) (v := .slice (some ⟨g, 0, none⟩) L.length cap) h.tbl rfl
  have hlt : k < L.length := (List.getElem?_eq_some_iff.1 hk).1
  have hmost := Int.le_trans h.len h.most
  clear hk
  go_enter Tryd.func21, Tryd.ntmps21
  go_wp2
  go_ret2
  exact ⟨rfl, rfl⟩

theorem rPut_bad {base : Nat} {w : World} {tb : Nat} {rv : Value} {most : Int} {L : List ByteArray} (h : RTb base w tb rv most L) (s : ByteArray) (hsz : s.size ≤ maxLen) (hm : nameB s 2 = false) :
    Calls Tryd.prog 17 #[.pointer (some ⟨tb, 0, none⟩), .string s] w fun e w' => e = .returned (.tuple #[.int .i64 0, .int .i64 2]) ∧ w = w' := by
  have HM := Lib.hid (rMay_any s w hsz)
  rw [hm] at HM
  clear hm hsz
  go_enter Tryd.func17, Tryd.ntmps17
  go_wp2_with fail
  refine HM.out.mono ?_
  rintro e w1 ⟨rfl, rfl⟩
  go_wp2_with fail
  go_ret2
  exact ⟨rfl, rfl⟩

theorem rPut_hit {base : Nat} {w : World} {tb : Nat} {rv : Value} {most : Int} {L : List ByteArray} (h : RTb base w tb rv most L) (s : ByteArray) (hm : nameB s 2 = true) (j : Nat) (hj : L[j]? = some s) (hN : L.Nodup) :
    Calls Tryd.prog 17 #[.pointer (some ⟨tb, 0, none⟩), .string s] w fun e w' => e = .returned (.tuple #[.int .i64 (j : Int), .int .i64 0]) ∧ w = w' := by
  have HM := Lib.hid (rMay_any s w (by have := name_size hm; unfold maxLen; omega))
  rw [hm] at HM
  have HJ := Lib.hid hj
  clear hm hj
  go_enter Tryd.func17, Tryd.ntmps17
  go_wp2_with fail
  refine HM.out.mono ?_
  rintro e w1 ⟨rfl, rfl⟩
  go_wp2_with fail
  refine (rOf_hit h s j HJ.out hN).mono ?_
  rintro e w1 ⟨rfl, rfl⟩
  go_wp2_with fail
  go_ret2
  exact ⟨rfl, rfl⟩

theorem rPut_full {base : Nat} {w : World} {tb : Nat} {rv : Value} {most : Int} {L : List ByteArray} (h : RTb base w tb rv most L) (s : ByteArray) (hm : nameB s 2 = true) (hs : s ∉ L) (hf : most ≤ L.length) :
    Calls Tryd.prog 17 #[.pointer (some ⟨tb, 0, none⟩), .string s] w fun e w' => e = .returned (.tuple #[.int .i64 0, .int .i64 20]) ∧ Below w.heap.size w w' := by
  have HM := Lib.hid (rMay_any s w (by have := name_size hm; unfold maxLen; omega))
  rw [hm] at HM
  clear hm
  obtain ⟨a, cap, rfl⟩ := row_shape h.row
  have hc := cell_of_row (i := 1) (v := .slice a L.length cap) h.tbl rfl
  have hc0 := cell_of_row (i := 0) (v := .int .i64 most) h.tbl rfl
  go_enter Tryd.func17, Tryd.ntmps17
  go_wp2_with fail
  refine HM.out.mono ?_
  rintro e w1 ⟨rfl, rfl⟩
  go_wp2_with fail
  refine (rOf_miss h s hs).mono ?_
  rintro e w1 ⟨rfl, rfl⟩
  go_wp2_with fail
  go_quiet (fail)
  go_wp2_with fail
  go_ret2
  exact ⟨rfl, Below.drewN_ (Below.refl _ _) _⟩

set_option maxHeartbeats 1000000 in
theorem rPut_new {base : Nat} {w : World} {tb : Nat} {rv : Value} {most : Int} {L : List ByteArray} (h : RTb base w tb rv most L) (s : ByteArray) (hbase : base ≤ w.heap.size) (hm : nameB s 2 = true) (hs : s ∉ L) (hf : (L.length : Int) < most) :
    Calls Tryd.prog 17 #[.pointer (some ⟨tb, 0, none⟩), .string s] w fun e w' => e = .returned (.tuple #[.int .i64 (L.length : Int), .int .i64 0]) ∧
      ∃ rv', RTb base w' tb rv' most (L ++ [s]) ∧ Mod (rfoot tb rv) w w' ∧ ∀ k, rv'.ownBlock = some k → rv.ownBlock = some k ∨ w.heap.size ≤ k := by
  have HM := Lib.hid (rMay_any s w (by have := name_size hm; unfold maxLen; omega))
  rw [hm] at HM
  clear hm
  obtain ⟨a, cap, rfl⟩ := row_shape h.row
  have hmost := h.most
  obtain ⟨i0, hi, hz0, hz1, hz2⟩ := info_parts info_str
  have hc := cell_of_row (i := 1) (v := .slice a L.length cap) h.tbl rfl
  have hc0 := cell_of_row (i := 0) (v := .int .i64 most) h.tbl rfl
  go_enter Tryd.func17, Tryd.ntmps17
  go_wp2_with fail
  refine HM.out.mono ?_
  rintro e w1 ⟨rfl, rfl⟩
  go_wp2_with fail
  refine (rOf_miss h s hs).mono ?_
  rintro e w1 ⟨rfl, rfl⟩
  go_wp2_with fail
  go_quiet (fail)
  generalize hw1 : World.drewN w _ = w1
  have t1 : w1.heap[tb]? = some (.cells #[.int .i64 most, .slice a L.length cap] 44 (0, 0)) := by rw [← hw1]; exact h.tbl
  have r1 : w1.ownsRow base 9 1 (.slice a L.length cap) L.length (L.map .string) := by rw [← hw1]; exact h.row
  have m1 : Mod (rfoot tb (.slice a L.length cap)) w w1 := by rw [← hw1]; exact Mod.of_below (Below.drewN_ (Below.refl _ _) _)
  have hsz1 : base ≤ w1.heap.size := by rw [← hw1]; exact hbase
  have hc1 := cell_of_row (i := 1) (v := .slice a L.length cap) t1 rfl
  have T1 := Lib.hid t1
  have M1 := Lib.hid m1
  have HW1 := Lib.hid hw1
  clear t1 m1 hw1 hc hc0
  go_wp2_with (at_builtin; refine wpList_append_at _ rfl _ _ 42 rfl base 9 i0 (.string ⟨#[]⟩) 1 16 Tryd.underlying42 hi hz0 hz1 hz2 rfl (by decide) _ _ _ rfl (r1.alloc _) ⟨w1.heap.size, 0, none⟩ 1 1 [.string s] rfl (by decide) rfl ?c1 ?c2 ?c3 ?c4 ?c5 ?_)
  case c1 =>
    intro j u hu
    exact cell_one_new _ _ _ j u hu
  case c2 => simp [Value.oneCell']
  case c3 => unfold maxLen; omega
  case c4 => omega
  case c5 => simp; omega
  intro g' cap' w4 own4 grow4 hwh
  have ap := row_apart T1.out (by decide) r1
  have t4 : w4.heap[tb]? = some (.cells #[.int .i64 most, .slice a L.length cap] 44 (0, 0)) :=
    (grow4.block tb (by have := heap_lt T1.out; simp; omega) (fun e => ap e.symm)).trans ((Below.heap_alloc _ _ _ (heap_lt T1.out)).trans T1.out)
  have m4 : Mod (rfoot tb (.slice a L.length cap)) w w4 :=
    (M1.out.trans (Mod.alloc _ w1 _) (fun _ _ g => g)).trans (Mod.grown (F := rfoot tb (.slice a L.length cap)) grow4 (fun k _ e => .inr e)) (fun _ _ g => g)
  have ap4 := row_apart t4 (by decide) own4
  have hc4 := cell_of_row (i := 1) (v := .slice a L.length cap) t4 rfl
  have hf4 := free_of_row (i := 1) t4
  have T4 := Lib.hid t4
  have M4 := Lib.hid m4
  clear t4 m4 hc1 ap grow4
  go_wp2
  go_ret2
  have m5 := M4.out.trans (Mod.setCell (F := rfoot tb (.slice a L.length cap)) w4 ⟨tb, 1, none⟩ (.slice (some ⟨g', 0, none⟩) (L.length + 1) cap') (.inl (.inl rfl))) (fun _ _ g => g)
  refine ⟨rfl, .slice (some ⟨g', 0, none⟩) (L.length + 1) cap', ⟨?_, ?_, ?_, h.most, h.tlow⟩, m5, ?_⟩
  · exact set_row _ T4.out
  · have := (Mod.setCell (F := fun k => k = tb) w4 ⟨tb, 1, none⟩ (.slice (some ⟨g', 0, none⟩) (L.length + 1) cap') (.inl rfl)).row own4 (fun k hk e => ap4 (by rw [hk, e]))
    simpa using this
  · simp; omega
  · intro k hk
    simp [Value.ownBlock] at hk
    subst hk
    rcases hwh with hw | hw
    · exact .inl hw
    · right
      have := M1.out.size
      have e : (w1.alloc (.cells #[.string s] 9)).heap.size = w1.heap.size + 1 := World.size_alloc _ _
      omega
end Go.Proofs.YtjimnkbgnblanaaDoor
