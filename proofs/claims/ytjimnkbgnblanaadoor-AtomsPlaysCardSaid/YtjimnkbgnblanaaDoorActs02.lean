/- An argument that is a slice of acts on a table of atoms, opened. -/
import Derived.Test.YtjimnkbgnblanaaDoorStrs
import Derived.Deep.Slices
import Derived.Deep.Fields
import Derived.ChangeSame
set_option linter.unusedVariables false
namespace Go.Proofs.YtjimnkbgnblanaaDoor
open Go.RowKit Go.ChangeShapes Go.WideShapes Go.Deep

/-- The value v is a slice of acts; all lie below the heap's end. -/
def ActsAt (w : World) (v : Value) : Prop :=
  ∃ A n cap, ∃ al : List (Int × ByteArray × Int), v = .slice A n cap ∧ al.length = n ∧ n ≤ maxLen ∧ ∀ k a, al[k]? = some a → a.2.1.size ≤ maxLen ∧ ∃ ad, A = some ad ∧ ad.block < w.heap.size ∧
    w.cell? (ad.add (k * 3)) = some (.int .i64 a.1) ∧ w.cell? (ad.add (k * 3 + 1)) = some (.string a.2.1) ∧ w.cell? (ad.add (k * 3 + 2)) = some (.int .i64 a.2.2)

theorem cells_act : Tryd.prog.cellsOf 34 = 3 := by kernel_rfl
theorem cells_int : Tryd.prog.cellsOf 3 = 1 := by kernel_rfl

theorem choose_list {α : Type} {n : Nat} {p : Nat → α → Prop} (h : ∀ i, i < n → ∃ a, p i a) : ∃ l : List α, l.length = n ∧ ∀ i a, l[i]? = some a → p i a := by
  induction n with
  | zero => exact ⟨[], rfl, fun i a h => by simp at h⟩
  | succ n ih =>
    obtain ⟨l, hl, hp⟩ := ih (fun i hi => h i (by omega))
    obtain ⟨a, ha⟩ := h n (by omega)
    refine ⟨l ++ [a], by simp [hl], fun i b hb => ?_⟩
    by_cases hi : i < n
    · rw [List.getElem?_append_left (by omega)] at hb
      exact hp i b hb
    · rw [List.getElem?_append_right (by omega)] at hb
      have : i - l.length = 0 := by
        have := (List.getElem?_eq_some_iff.1 hb).1
        simp at this
        omega
      rw [this] at hb
      simp at hb
      subst hb
      have e : i = n := by omega
      subst e
      exact ha

theorem open_acts {H : Type} {enc : TypeId × Value → H} {W : World} {base : Nat} {v : Value} {d : DataW H} {p : List MemPlace} (hv : Value.okWide Tryd.prog W .any base 25 v) (h : DataW.Trod enc Tryd.prog W 0 (fun _ => true) true 25 v d p) : ActsAt W v := by
  obtain ⟨a0, len, cap, rfl⟩ := okWide_slice Tryd.underlying25 hv
  obtain ⟨fuel, hf⟩ := h
  rcases open_slice Tryd.underlying25 hf with ⟨hcs, _⟩ | ⟨a, len', cap', m, n, D, Pl, hcs, hb, hl, hm, hmm, hx, hi⟩
  · simp [Value.cells] at hcs
    obtain ⟨rfl, rfl, rfl⟩ := hcs
    exact ⟨none, 0, 0, [], rfl, rfl, Nat.zero_le _, fun k s h => by simp at h⟩
  · simp [Value.cells] at hcs
    obtain ⟨rfl, rfl, rfl⟩ := hcs
    simp at hmm
    have each : ∀ i, i < len → ∃ x : Int × ByteArray × Int, x.2.1.size ≤ maxLen ∧ ∃ ad, some a = some ad ∧ ad.block < W.heap.size ∧
        W.cell? (ad.add (i * 3)) = some (.int .i64 x.1) ∧ W.cell? (ad.add (i * 3 + 1)) = some (.string x.2.1) ∧ W.cell? (ad.add (i * 3 + 2)) = some (.int .i64 x.2.2) := by
      intro i hil
      obtain ⟨cs', hc, ht⟩ := hi i (by omega)
      rw [cells_act] at hc
      obtain ⟨ys, n', hn', hy, hlen, hyl, hfl⟩ := DataW.trod_struct Tryd.underlying34 ht
      obtain ⟨_, hcl, hat⟩ := World.cells?_some hc
      match cs', hcl with
      | [u, v, z], _ =>
        have f0 : DataW.trod enc Tryd.prog W 0 (fun _ => true) true n' 3 (([u, v, z].drop 0).take (Tryd.prog.cellsOf 3)) = ys[0]? := hfl 0 _ rfl
        have f1 : DataW.trod enc Tryd.prog W 0 (fun _ => true) true n' 9 (([u, v, z].drop 1).take (Tryd.prog.cellsOf 9)) = ys[1]? := hfl 1 _ rfl
        have f2 : DataW.trod enc Tryd.prog W 0 (fun _ => true) true n' 3 (([u, v, z].drop 2).take (Tryd.prog.cellsOf 3)) = ys[2]? := hfl 2 _ rfl
        rw [cells_int] at f0 f2
        rw [cells_str] at f1
        match ys, hyl with
        | [y0, y1, y2], _ =>
          simp at f0 f1 f2
          obtain ⟨k0, e0, _, _⟩ := DataW.trod_int Tryd.underlying3 f0
          obtain ⟨s1, e1, _, hs1⟩ := DataW.trod_string Tryd.underlying9 f1
          obtain ⟨k2, e2, _, _⟩ := DataW.trod_int Tryd.underlying3 f2
          simp at e0 e1 e2
          subst e0 e1 e2
          have c0 := hat 0 (by decide)
          have c1 := hat 1 (by decide)
          have c2 := hat 2 (by decide)
          rw [Go.Deep.add_add] at c0 c1 c2
          simp at c0 c1 c2
          refine ⟨(k0, s1, k2), hs1, a, rfl, ?_, c0, c1, c2⟩
          have := World.block_lt_of_cell? W _ c1
          rw [add_block] at this
          exact this
    obtain ⟨l, hll, hlp⟩ := choose_list each
    exact ⟨some a, len, cap, l, rfl, hll, by omega, hlp⟩
end Go.Proofs.YtjimnkbgnblanaaDoor
