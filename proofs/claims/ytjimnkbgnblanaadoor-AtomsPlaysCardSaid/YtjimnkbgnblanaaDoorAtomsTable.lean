/- A table of atoms in memory, and what its methods come to. -/
import Derived.Test.YtjimnkbgnblanaaDoorAtomsPrefix
import Derived.Test.YtjimnkbgnblanaaDoorStrClone
import Derived.Test.YtjimnkbgnblanaaDoorMod
import Derived.Maps.AppendAt
set_option linter.unusedVariables false
namespace Go.Proofs.YtjimnkbgnblanaaDoor
open Go.RowKit

/-- The entries of the map of a table that holds the atoms L. -/
def ents (L : List ByteArray) : Array MapEntry := (L.mapIdx (fun i s => (⟨.string s, .int .i64 (i : Int), i⟩ : MapEntry))).toArray
theorem ents_snoc (L : List ByteArray) (s : ByteArray) : ents (L ++ [s]) = (ents L).push ⟨.string s, .int .i64 (L.length : Int), L.length⟩ := by
  simp [ents, List.mapIdx_append]
theorem ents_find (L : List ByteArray) (s : ByteArray) :
    (Instr.findNow .string (.string s) (ents L).toList 0 = some none ∧ s ∉ L) ∨ ∃ j, Instr.findNow .string (.string s) (ents L).toList 0 = some (some (j, .int .i64 (j : Int))) ∧ L[j]? = some s := by
  have hkey : MapKept.IsKey .string (.string s) := by simp [MapKept.IsKey]
  rcases MapKept.findNow_spec hkey (ents L).toList 0 (fun x hx => by
      simp only [ents, List.mem_mapIdx] at hx
      obtain ⟨i, hi, rfl⟩ := hx
      simp [MapKept.IsKey]) with ⟨h1, h2⟩ | ⟨j, e, h1, h2, h3⟩
  · refine .inl ⟨h1, fun hs => ?_⟩
    obtain ⟨i, hi, e⟩ := List.mem_iff_getElem.1 hs
    exact h2 ⟨.string s, .int .i64 (i : Int), i⟩ (by simp only [ents, List.mem_mapIdx]; exact ⟨i, hi, by rw [e]⟩) rfl
  · right
    simp only [ents, List.getElem?_mapIdx] at h2
    cases hl : L[j]? with
    | none => simp [hl] at h2
    | some t =>
      simp [hl] at h2
      subst h2
      simp at h3
      subst h3
      exact ⟨j, by simpa using h1, hl⟩

/-- At block tb lies a table for at most so many, with the atoms L; mb: its map; rv: its row. -/
structure Tbl (base : Nat) (w : World) (tb mb : Nat) (rv : Value) (most : Int) (L : List ByteArray) : Prop where
  tbl : w.heap[tb]? = some (.cells #[.int .i64 most, .map (some mb), rv] 57 (0, 0))
  map : w.heap[mb]? = some (.map (ents L) L.length)
  row : w.ownsRow base 9 1 rv L.length (L.map .string)
  nodup : L.Nodup
  may : ∀ s ∈ L, nameB s 2 = true
  len : (L.length : Int) ≤ most
  most : most ≤ 65536
  tlow : base ≤ tb
  mlow : base ≤ mb

/-- The blocks of a table. -/
def foot (tb mb : Nat) (rv : Value) (k : Nat) : Prop := k = tb ∨ k = mb ∨ rv.ownBlock = some k

theorem row_apart {w : World} {base tb : Nat} {cs : Array Value} {T e : TypeId} {z : Nat × Nat} {v : Value} {n : Nat} {xs : List Value} (h : w.heap[tb]? = some (.cells cs T z)) (hT : T ≠ e) (hr : w.ownsRow base e 1 v n xs) : v.ownBlock ≠ some tb := by
  intro hb
  rcases hr.2 with ⟨rfl, _⟩ | ⟨g, cap, cur, rfl, _, hg, _⟩
  · simp [Value.ownBlock] at hb
  · simp [Value.ownBlock] at hb; subst hb
    rw [h] at hg; simp at hg; exact hT hg.2.1
theorem row_apart_map {w : World} {base tb : Nat} {es : Array MapEntry} {c : Nat} {e : TypeId} {v : Value} {n : Nat} {xs : List Value} (h : w.heap[tb]? = some (.map es c)) (hr : w.ownsRow base e 1 v n xs) : v.ownBlock ≠ some tb := by
  intro hb
  rcases hr.2 with ⟨rfl, _⟩ | ⟨g, cap, cur, rfl, _, hg, _⟩
  · simp [Value.ownBlock] at hb
  · simp [Value.ownBlock] at hb; subst hb
    rw [h] at hg; simp at hg
theorem row_shape {w : World} {base : Nat} {e : TypeId} {v : Value} {n : Nat} {xs : List Value} (hr : w.ownsRow base e 1 v n xs) : ∃ a cap, v = .slice a n cap := by
  rcases hr.2 with ⟨rfl, rfl⟩ | ⟨g, cap, cur, rfl, _⟩
  · exact ⟨_, _, rfl⟩
  · exact ⟨_, _, rfl⟩

theorem Tbl.kept {base : Nat} {w w' : World} {tb mb : Nat} {rv : Value} {most : Int} {L : List ByteArray} (h : Tbl base w tb mb rv most L) {F : Nat → Prop} (hm : Mod F w w') (hF : ∀ k, foot tb mb rv k → ¬ F k) : Tbl base w' tb mb rv most L :=
  { h with
    tbl := (hm.block tb (heap_lt h.tbl) (hF _ (.inl rfl))).trans h.tbl
    map := (hm.block mb (heap_lt h.map) (hF _ (.inr (.inl rfl)))).trans h.map
    row := hm.row h.row (fun k hk => hF k (.inr (.inr hk))) }
theorem Tbl.below {base : Nat} {w w' : World} {tb mb : Nat} {rv : Value} {most : Int} {L : List ByteArray} (h : Tbl base w tb mb rv most L) (hb : Below w.heap.size w w') : Tbl base w' tb mb rv most L :=
  h.kept (F := fun _ => False) (Mod.of_below hb) (fun _ _ f => f)

theorem zero_int (w : World) : (zeroValue 3).run Tryd.prog w = .ok (.int .i64 0) w := by kernel_rfl
theorem info_str : (Tryd.prog.info? 9).map (fun i => (i.zero, i.size, i.bytes)) = some (some (.string ⟨#[]⟩), 1, 16) := by kernel_rfl

theorem New_no (most : Int) (h : most < 1 ∨ 65536 < most) (w : World) : Calls Tryd.prog 14 #[.int .i64 most] w fun e w' => e = .returned (.tuple #[.pointer none, .int .i64 2]) ∧ w = w' := by
  rcases h with h | h
  · go_enter Tryd.func14, Tryd.ntmps14
    go_wp2
    go_ret2
    exact ⟨rfl, rfl⟩
  · have h1 : ¬ most < 1 := by omega
    go_enter Tryd.func14, Tryd.ntmps14
    go_wp2
    go_ret2
    exact ⟨rfl, rfl⟩

theorem New_yes (most : Int) (h1 : 1 ≤ most) (h2 : most ≤ 65536) (w : World) : Calls Tryd.prog 14 #[.int .i64 most] w fun e w' => ∃ mb tb, e = .returned (.tuple #[.pointer (some ⟨tb, 0, none⟩), .int .i64 0]) ∧ Tbl w.heap.size w' tb mb (.slice none 0 0) most [] ∧ Below w.heap.size w w' := by
  have hmm := @run_makeMap Tryd.prog
  go_enter Tryd.func14, Tryd.ntmps14
  go_wp2
  go_ret2
  refine ⟨w.heap.size, w.heap.size + 1, rfl, ?_, ((Below.refl _ _).alloc (Nat.le_refl _) _).alloc (by simp) _⟩
  refine ⟨?_, ?_, World.ownsRow_nil _ _ _ _, by simp, by simp, by simp; omega, h2, by omega, by omega⟩
  · have := World.alloc_heap_new (w.alloc (.map #[] 0)) (.cells #[.int .i64 most, .map (some w.heap.size), .slice none 0 0] 57)
    rw [World.size_alloc] at this
    exact this
  · exact (Below.heap_alloc _ _ _ (by simp)).trans (World.alloc_heap_new w _)

theorem Of_hit {base : Nat} {w : World} {tb mb : Nat} {rv : Value} {most : Int} {L : List ByteArray} (h : Tbl base w tb mb rv most L) (s : ByteArray) (j : Nat) (hn : Instr.findNow .string (.string s) (ents L).toList 0 = some (some (j, .int .i64 (j : Int)))) :
    Calls Tryd.prog 18 #[.pointer (some ⟨tb, 0, none⟩), .string s] w fun e w' => e = .returned (.tuple #[.int .i64 (j : Int), .bool true]) ∧ w = w' := by
  have hl := run_look_hit (P := Tryd.prog) Tryd.underlying55 Tryd.underlying9 w mb _ _ s j _ h.map hn
  have hc := cell_of_row (i := 1) (v := .map (some mb)) h.tbl rfl
  go_enter Tryd.func18, Tryd.ntmps18
  go_wp2
  go_ret2
  exact ⟨rfl, rfl⟩

theorem Of_miss {base : Nat} {w : World} {tb mb : Nat} {rv : Value} {most : Int} {L : List ByteArray} (h : Tbl base w tb mb rv most L) (s : ByteArray) (hn : Instr.findNow .string (.string s) (ents L).toList 0 = some none) :
    Calls Tryd.prog 18 #[.pointer (some ⟨tb, 0, none⟩), .string s] w fun e w' => e = .returned (.tuple #[.int .i64 0, .bool false]) ∧ w = w' := by
  have hl := run_look_miss (P := Tryd.prog) Tryd.underlying55 Tryd.underlying9 w mb _ _ s (.int .i64 0) h.map zero_int hn
  have hc := cell_of_row (i := 1) (v := .map (some mb)) h.tbl rfl
  go_enter Tryd.func18, Tryd.ntmps18
  go_wp2
  go_ret2
  exact ⟨rfl, rfl⟩

theorem Len_any {base : Nat} {w : World} {tb mb : Nat} {rv : Value} {most : Int} {L : List ByteArray} (h : Tbl base w tb mb rv most L) :
    Calls Tryd.prog 22 #[.pointer (some ⟨tb, 0, none⟩)] w fun e w' => e = .returned (.int .i64 (L.length : Int)) ∧ w = w' := by
  obtain ⟨a, cap, rfl⟩ := row_shape h.row
  have hc := cell_of_row (i := 2) (v := .slice a L.length cap) h.tbl rfl
  go_enter Tryd.func22, Tryd.ntmps22
  go_wp2
  go_ret
  exact ⟨rfl, rfl⟩
end Go.Proofs.YtjimnkbgnblanaaDoor
