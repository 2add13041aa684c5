/- Text and Put of a table of atoms. -/
import Derived.Test.YtjimnkbgnblanaaDoorAtomsTable
import Derived.Test.YtjimnkbgnblanaaDoorAppend
set_option linter.unusedVariables false
namespace Go.Proofs.YtjimnkbgnblanaaDoor
open Go.RowKit

theorem ret_str_int {k : IntKind} {a b : ByteArray} {n : Int} (h : a = b) : Ending.returned (.tuple #[.string a, .int k n]) = .returned (.tuple #[.string b, .int k n]) := by rw [h]

theorem Text_no {base : Nat} {w : World} {tb mb : Nat} {rv : Value} {most : Int} {L : List ByteArray} (h : Tbl base w tb mb rv most L) (n : Int) (hn : n < 0 ∨ (L.length : Int) ≤ n) :
    Calls Tryd.prog 20 #[.pointer (some ⟨tb, 0, none⟩), .int .i64 n] w fun e w' => e = .returned (.tuple #[.string ⟨#[]⟩, .int .i64 4]) ∧ w = w' := by
  obtain ⟨a, cap, rfl⟩ := row_shape h.row
  have hc := cell_of_row (i := 2) (v := .slice a L.length cap) h.tbl rfl
  rcases hn with hn | hn
  · go_enter Tryd.func20, Tryd.ntmps20
    go_wp2
    go_ret2
    exact ⟨rfl, rfl⟩
  · have hn0 : ¬ n < 0 := by omega
    go_enter Tryd.func20, Tryd.ntmps20
    go_wp2
    go_ret2
    exact ⟨rfl, rfl⟩

theorem row_cell {w : World} {base : Nat} {e : TypeId} {n : Nat} {L : List ByteArray} {a : Option Addr} {cap k : Nat} {s : ByteArray} (hr : w.ownsRow base e 1 (.slice a n cap) n (L.map Value.string)) (hk : L[k]? = some s) :
    ∃ g, a = some ⟨g, 0, none⟩ ∧ w.cell? ⟨g, k, none⟩ = some (.string s) := by
  rcases hr.2 with ⟨he, rfl⟩ | ⟨g, cap', cur, he, hb, hg, hc⟩
  · have := hr.1
    simp at this
    subst this
    simp at hk
  · simp at he
    obtain ⟨rfl, rfl⟩ := he
    have := hr.cells (g := g) rfl k (.string s) (by simp [hk])
    have e : (⟨g, 0, none⟩ : Addr).add k = ⟨g, k, none⟩ := by unfold Addr.add; split <;> simp_all
    rw [e] at this
    exact ⟨g, rfl, this⟩

theorem Text_at {base : Nat} {w : World} {tb mb : Nat} {rv : Value} {most : Int} {L : List ByteArray} (h : Tbl base w tb mb rv most L) (k : Nat) (s : ByteArray) (hk : L[k]? = some s) :
    Calls Tryd.prog 20 #[.pointer (some ⟨tb, 0, none⟩), .int .i64 (k : Int)] w fun e w' => e = .returned (.tuple #[.string s, .int .i64 0]) ∧ w = w' := by
  obtain ⟨a, cap, rfl⟩ := row_shape h.row
  obtain ⟨g, rfl, hcell⟩ := row_cell h.row hk
  have hc := cell_of_row (i := 2) (v := .slice (some ⟨g, 0, none⟩) L.length cap) h.tbl rfl
  have hlt : k < L.length := (List.getElem?_eq_some_iff.1 hk).1
  have hmost := Int.le_trans h.len h.most
  clear hk
  go_enter Tryd.func20, Tryd.ntmps20
  go_wp2
  go_ret2
  exact ⟨rfl, rfl⟩

theorem name_size {s : ByteArray} {k : Int} (h : nameB s k = true) : s.size ≤ 32 := by
  unfold nameB at h
  exact (of_decide_eq_true h).2.1

theorem Put_bad {base : Nat} {w : World} {tb mb : Nat} {rv : Value} {most : Int} {L : List ByteArray} (h : Tbl base w tb mb rv most L) (s : ByteArray) (hsz : s.size ≤ maxLen) (hS : Spans w) (hm : nameB s 2 = false) :
    Calls Tryd.prog 16 #[.pointer (some ⟨tb, 0, none⟩), .string s] w fun e w' => e = .returned (.tuple #[.int .i64 0, .int .i64 2]) ∧ Below w.heap.size w w' := by
  have HM := Lib.hid (May_any s hsz w hS)
  rw [hm] at HM
  clear hm hsz
  go_enter Tryd.func16, Tryd.ntmps16
  go_wp2_with fail
  refine HM.out.mono ?_
  rintro e w1 ⟨rfl, b1⟩
  go_wp2_with fail
  go_ret2
  exact ⟨rfl, b1⟩

theorem Put_hit {base : Nat} {w : World} {tb mb : Nat} {rv : Value} {most : Int} {L : List ByteArray} (h : Tbl base w tb mb rv most L) (s : ByteArray) (hS : Spans w) (hm : nameB s 2 = true) (j : Nat) (hn : Instr.findNow .string (.string s) (ents L).toList 0 = some (some (j, .int .i64 (j : Int)))) :
    Calls Tryd.prog 16 #[.pointer (some ⟨tb, 0, none⟩), .string s] w fun e w' => e = .returned (.tuple #[.int .i64 (j : Int), .int .i64 0]) ∧ Below w.heap.size w w' := by
  have HM := Lib.hid (May_any s (by have := name_size hm; unfold maxLen; omega) w hS)
  rw [hm] at HM
  have HN := Lib.hid hn
  clear hm hn
  go_enter Tryd.func16, Tryd.ntmps16
  go_wp2_with fail
  refine HM.out.mono ?_
  rintro e w1 ⟨rfl, b1⟩
  go_wp2_with fail
  refine (Of_hit (h.below b1) s j HN.out).mono ?_
  rintro e w2 ⟨rfl, rfl⟩
  go_wp2_with fail
  go_ret2
  exact ⟨rfl, b1⟩

theorem Put_full {base : Nat} {w : World} {tb mb : Nat} {rv : Value} {most : Int} {L : List ByteArray} (h : Tbl base w tb mb rv most L) (s : ByteArray) (hS : Spans w) (hm : nameB s 2 = true) (hn : Instr.findNow .string (.string s) (ents L).toList 0 = some none) (hf : most ≤ L.length) :
    Calls Tryd.prog 16 #[.pointer (some ⟨tb, 0, none⟩), .string s] w fun e w' => e = .returned (.tuple #[.int .i64 0, .int .i64 20]) ∧ Below w.heap.size w w' := by
  have HM := Lib.hid (May_any s (by have := name_size hm; unfold maxLen; omega) w hS)
  rw [hm] at HM
  have HN := Lib.hid hn
  clear hm hn
  obtain ⟨a, cap, rfl⟩ := row_shape h.row
  go_enter Tryd.func16, Tryd.ntmps16
  go_wp2_with fail
  refine HM.out.mono ?_
  rintro e w1 ⟨rfl, b1⟩
  have h1 := h.below b1
  have hc := cell_of_row (i := 2) (v := .slice a L.length cap) h1.tbl rfl
  have hc0 := cell_of_row (i := 0) (v := .int .i64 most) h1.tbl rfl
  go_wp2_with fail
  refine (Of_miss h1 s HN.out).mono ?_
  rintro e w2 ⟨rfl, rfl⟩
  go_wp2_with fail
  go_ret2
  exact ⟨rfl, b1⟩

set_option maxHeartbeats 1000000 in
theorem Put_new {base : Nat} {w : World} {tb mb : Nat} {rv : Value} {most : Int} {L : List ByteArray} (h : Tbl base w tb mb rv most L) (s : ByteArray) (hS : Spans w) (hbase : base ≤ w.heap.size) (hm : nameB s 2 = true) (hn : Instr.findNow .string (.string s) (ents L).toList 0 = some none) (hf : (L.length : Int) < most) (hmem : s ∉ L) :
    Calls Tryd.prog 16 #[.pointer (some ⟨tb, 0, none⟩), .string s] w fun e w' => e = .returned (.tuple #[.int .i64 (L.length : Int), .int .i64 0]) ∧
      ∃ rv', Tbl base w' tb mb rv' most (L ++ [s]) ∧ Mod (foot tb mb rv) w w' ∧ ∀ k, rv'.ownBlock = some k → rv.ownBlock = some k ∨ w.heap.size ≤ k := by
  have HM := Lib.hid (May_any s (by have := name_size hm; unfold maxLen; omega) w hS)
  rw [hm] at HM
  have HN := Lib.hid hn
  have HS := Lib.hid (name_size hm)
  have HY := Lib.hid hm
  clear hm hn
  obtain ⟨a, cap, rfl⟩ := row_shape h.row
  have hmost := h.most
  obtain ⟨i0, hi, hz0, hz1, hz2⟩ := info_parts info_str
  go_enter Tryd.func16, Tryd.ntmps16
  go_wp2_with fail
  refine HM.out.mono ?_
  rintro e w1 ⟨rfl, b1⟩
  have h1 := h.below b1
  have hc := cell_of_row (i := 2) (v := .slice a L.length cap) h1.tbl rfl
  have hc0 := cell_of_row (i := 0) (v := .int .i64 most) h1.tbl rfl
  go_wp2_with fail
  refine (Of_miss h1 s HN.out).mono ?_
  rintro e w2 ⟨rfl, rfl⟩
  go_wp2_with fail
  refine (Clone_any s _ (by have := HS.out; omega)).mono ?_
  rintro e w2 ⟨rfl, b2⟩
  clear hc hc0
  have h2 := h1.below b2
  have m2 : Mod (foot tb mb (.slice a L.length cap)) w w2 := Mod.of_below (b1.trans (b2.mono b1.size))
  have hput := run_put_new (P := Tryd.prog) Tryd.underlying55 Tryd.underlying9 w2 mb _ _ s (.int .i64 (L.length : Int)) h2.map HN.out
  have m3 : Mod (foot tb mb (.slice a L.length cap)) w (w2.putObj mb (.map ((ents L).push ⟨.string s, .int .i64 (L.length : Int), L.length⟩) (L.length + 1))) :=
    m2.trans (Mod.putObj w2 mb _ (show foot tb mb (.slice a L.length cap) mb from .inr (.inl rfl))) (fun _ _ g => g)
  obtain ⟨w3, hw3⟩ : ∃ w3, w2.putObj mb (.map ((ents L).push ⟨.string s, .int .i64 (L.length : Int), L.length⟩) (L.length + 1)) = w3 := ⟨_, rfl⟩
  have tm : tb ≠ mb := fun e => by have := h2.tbl; rw [e, h2.map] at this; simp at this
  have t3 : w3.heap[tb]? = some (.cells #[.int .i64 most, .map (some mb), .slice a L.length cap] 57 (0, 0)) := by
    rw [← hw3, World.putObj_heap_other tm]; exact h2.tbl
  have q3 : w3.heap[mb]? = some (.map (ents (L ++ [s])) (L ++ [s]).length) := by
    rw [← hw3, World.putObj_heap_same (heap_lt h2.map), ents_snoc]; simp
  have r3 : w3.ownsRow base 9 1 (.slice a L.length cap) L.length (L.map .string) := by
    rw [← hw3]
    exact h2.row.kept (grownBy_putObj' w2 mb _) (.inr (row_apart_map h2.map h2.row))
  have hc2 := cell_of_row (i := 1) (v := .map (some mb)) h2.tbl rfl
  rw [hw3] at hput m3
  have hsz3 : base ≤ w3.heap.size := Nat.le_trans hbase m3.size
  have hc3 := cell_of_row (i := 2) (v := .slice a L.length cap) t3 rfl
  have T3 := Lib.hid t3
  have Q3 := Lib.hid q3
  have M3 := Lib.hid m3
  have HW3 := Lib.hid hw3
  clear t3 q3 m3 hw3 h2 h1 b2 b1 m2
  go_wp2_with (at_builtin; refine wpList_append_at _ rfl _ _ 42 rfl base 9 i0 (.string ⟨#[]⟩) 1 16 Tryd.underlying42 hi hz0 hz1 hz2 rfl (by decide) _ _ _ rfl (r3.alloc _) ⟨w3.heap.size, 0, none⟩ 1 1 [.string s] rfl (by decide) rfl ?c1 ?c2 ?c3 ?c4 ?c5 ?_)
  case c1 =>
    intro j u hu
    exact cell_one_new _ _ _ j u hu
  case c2 => simp [Value.oneCell']
  case c3 => unfold maxLen; omega
  case c4 => omega
  case c5 => simp; omega
  intro g' cap' w4 own4 grow4 hwh
  have ap := row_apart T3.out (by decide) r3
  have am := row_apart_map Q3.out r3
  have t4 : w4.heap[tb]? = some (.cells #[.int .i64 most, .map (some mb), .slice a L.length cap] 57 (0, 0)) :=
    (grow4.block tb (by have := heap_lt T3.out; simp; omega) (fun e => ap e.symm)).trans ((Below.heap_alloc _ _ _ (heap_lt T3.out)).trans T3.out)
  have q4 : w4.heap[mb]? = some (.map (ents (L ++ [s])) (L ++ [s]).length) :=
    (grow4.block mb (by have := heap_lt Q3.out; simp; omega) (fun e => am e.symm)).trans ((Below.heap_alloc _ _ _ (heap_lt Q3.out)).trans Q3.out)
  have m4 : Mod (foot tb mb (.slice a L.length cap)) w w4 :=
    (M3.out.trans (Mod.alloc _ w3 _) (fun _ _ g => g)).trans (Mod.grown (F := foot tb mb (.slice a L.length cap)) grow4 (fun k _ e => .inr (.inr e))) (fun _ _ g => g)
  have hc4 := cell_of_row (i := 2) (v := .slice a L.length cap) t4 rfl
  have hf4 := free_of_row (i := 2) t4
  have T4 := Lib.hid t4
  have Q4 := Lib.hid q4
  have M4 := Lib.hid m4
  clear t4 q4 m4 hc3 hput ap am grow4
  go_wp2
  go_ret2
  have m5 := M4.out.trans (Mod.setCell (F := foot tb mb (.slice a L.length cap)) w4 ⟨tb, 2, none⟩ (.slice (some ⟨g', 0, none⟩) (L.length + 1) cap') (.inl (.inl rfl))) (fun _ _ g => g)
  have tmn : mb ≠ tb := fun e => tm e.symm
  refine ⟨rfl, .slice (some ⟨g', 0, none⟩) (L.length + 1) cap', ⟨?_, ?_, ?_, ?_, ?_, ?_, h.most, h.tlow, h.mlow⟩, m5, ?_⟩
  · exact set_row _ T4.out
  · exact (Below.heap_setCell _ _ _ _ tmn).trans Q4.out
  · have ap4 := row_apart T4.out (by decide) own4
    have := (Mod.setCell (F := fun k => k = tb) w4 ⟨tb, 2, none⟩ (.slice (some ⟨g', 0, none⟩) (L.length + 1) cap') (.inl rfl)).row own4 (fun k hk e => ap4 (by rw [hk, e]))
    simpa using this
  · rw [List.nodup_append]
    exact ⟨h.nodup, by simp, fun x hx y hy e => hmem (by simp at hy; subst hy; subst e; exact hx)⟩
  · intro x hx
    rcases List.mem_append.1 hx with hx | hx
    · exact h.may x hx
    · simp at hx; subst hx; exact HY.out
  · simp; omega
  · intro k hk
    simp [Value.ownBlock] at hk
    subst hk
    rcases hwh with hw | hw
    · exact .inl hw
    · right
      have := M3.out.size
      have e : (w3.alloc (.cells #[.string s] 9)).heap.size = w3.heap.size + 1 := World.size_alloc _ _
      omega
end Go.Proofs.YtjimnkbgnblanaaDoor
