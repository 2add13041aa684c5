/- What is collected twice, purely; collect.Same where words read alike. collect.Same, where two words read alike. pleachlaw05.sameWords, of the same words. pleachlaw05.CollectKeeps: the walk. -/
import Derived.Test.YtaemfjmmklpjeaaGreatDoorCoRun2
import Derived.Test.YtaemfjmmklpjeaaGreatDoorOrd
import Derived.Test.YtaemfjmmklpjeaaGreatDoorBoth5
set_option linter.unusedVariables false
namespace Go.Proofs.YtaemfjmmklpjeaaGreatDoor
open Go.RowKit

section
variable {cs : List HC} {R : List AW}
noncomputable def wentW (cs : List HC) (R : List AW) : List HW := R.map fun q => mvW (reachL cs (rootsOf R)) q.hw
theorem root_in (hg : HGood cs) (hall : allMay cs.length R = true) {q : AW} (hq : q ∈ R) : ∀ b, q.hw = .ref b → b ∈ reachL cs (rootsOf R) := by
  intro b e
  have hc : q.c = true := by
    unfold AW.hw at e
    cases h : q.c with
    | true => rfl
    | false => rw [h] at e; simp at e
  have : q.a.toNat = b := by
    unfold AW.hw at e
    rw [if_pos hc] at e
    exact HW.ref.inj e
  exact (reachL_mem hg (rootsOf_lt hall)).2 (.root (rootsOf_mem.2 ⟨q, hq, hc, this⟩))
theorem went_good (hg : HGood cs) (hall : allMay cs.length R = true) : ∀ y ∈ wentW cs R, wgood (reachL cs (rootsOf R)).length y := by
  intro y hy
  obtain ⟨q, hq, rfl⟩ := List.mem_map.1 hy
  have hm := List.all_eq_true.1 hall q hq
  have hw := may_wgood hm
  have hin := root_in hg hall hq
  cases h : q.hw with
  | leaf x => rw [h] at hw; exact hw
  | ref b => exact List.idxOf_lt_length_of_mem (hin b h)
end
end Go.Proofs.YtaemfjmmklpjeaaGreatDoor
set_option linter.unusedVariables false
namespace Go.Proofs.YtaemfjmmklpjeaaGreatDoor
open Go.RowKit

end Go.Proofs.YtaemfjmmklpjeaaGreatDoor
set_option linter.unusedVariables false
namespace Go.Proofs.YtaemfjmmklpjeaaGreatDoor
open Go.RowKit

end Go.Proofs.YtaemfjmmklpjeaaGreatDoor
set_option linter.unusedVariables false
namespace Go.Proofs.YtaemfjmmklpjeaaGreatDoor
open Go.RowKit

theorem Run_ans {b0 hb : Nat} {s : HSt} (hg : HGood s.cs) (w : World) (h : s.At b0 w hb) (R : List AW) (A : Option Addr) (n cap : Nat) (hn : R.length = n) (hR : WRow (· < w.heap.size) w A n cap R) (hS : Spans w) (hl : n ≤ 1000000) :
    Calls Tryz.prog 10 #[.pointer (some ⟨hb, 0, none⟩), .slice A n cap] w fun e w' => Below w.heap.size w w' ∧ ((allMay s.cs.length R = true ∧ ∃ (so : HSt) (ho g : Nat), so.cs = colC s.cs (reachL s.cs (rootsOf R)) ∧ HOk so ∧ so.At w.heap.size w' ho ∧ g < w'.heap.size ∧ WordsIn w' g (wentW s.cs R) ∧
      e = .returned (.tuple #[.pointer (some ⟨ho, 0, none⟩), .slice (some ⟨g, 0, none⟩) n n, .int .i64 0])) ∨
    (allMay s.cs.length R = false ∧ e = .returned (.tuple #[.pointer none, .slice none 0 0, .int .i64 2]))) := by
  subst hn
  refine (Run_any hg w h R A cap cap hR hS hl).mono ?_
  rintro e w' ⟨b, (⟨h1, so, ho, g, h2, h3, h4, h5, h6, h7, rfl⟩ | ⟨h1, rfl⟩)⟩
  · exact ⟨b, .inl ⟨h1, so, ho, g, h2, h3, h4, h5, h7, rfl⟩⟩
  · exact ⟨b, .inr ⟨h1, rfl⟩⟩
theorem MRow.later {w V : World} {A : Option Addr} {n cap : Nat} {l : List MkA} (h : MRow w.heap.size w A n cap l) (hb : Below w.heap.size w V) : MRow V.heap.size V A n cap l :=
  ⟨h.len, h.max, h.cap, fun j a hj => by
    obtain ⟨ad, e, hl, LA, Lc, h0, h2, h3, h4⟩ := h.at_ j a hj
    exact ⟨ad, e, Nat.lt_of_lt_of_le hl hb.size, LA, Lc, h0.keep (hb.block _ hl), h2.later hb, h3, h4⟩⟩
end Go.Proofs.YtaemfjmmklpjeaaGreatDoor
