/- Layer 7: an expression within others. -/
import Derived.Test.YtcallgoglnkkiaaGreatDoorAstQ
set_option linter.unusedVariables false
namespace Go.Proofs.YtcallgoglnkkiaaGreatDoor
open Go.RowKit

def nilT : Tm := .mk 8 0 ⟨#[]⟩ ⟨#[]⟩ []
def tupT (x : Tm) : Tm := .mk 10 0 ⟨#[]⟩ ⟨#[]⟩ [x, nilT]
def lisT (x : Tm) : Tm := .mk 9 0 ⟨#[]⟩ ⟨#[]⟩ [x, nilT]
def oneT (x : Tm) : Tm := .mk 3 1 ⟨#[]⟩ ⟨#[]⟩ [nilT, .mk 4 0 ⟨#[]⟩ ⟨#[]⟩ [], x]
def kasT (x : Tm) : Tm := .mk 18 0 ⟨#[]⟩ ⟨#[]⟩ [nilT, oneT x]
theorem deep_pos (x : Tm) : 1 ≤ x.deep := by cases x; rw [Tm.deep]; omega
theorem nil_fit : nilT.nodes = 1 ∧ nilT.deep = 1 := ⟨rfl, rfl⟩
theorem tup_fit (x : Tm) : (tupT x).nodes = x.nodes + 2 ∧ (tupT x).deep = x.deep + 1 := by
  have hd := deep_pos x
  refine ⟨?_, ?_⟩
  · unfold tupT
    rw [Tm.nodes_mk]
    simp only [Tm.pres, List.length_append, List.length_nil]
    rw [show nilT.pre.length = 1 from rfl]
    show x.nodes + (1 + 0) + 1 = _
    omega
  · unfold tupT
    rw [Tm.deep]
    simp only [Tm.deeps]
    rw [nil_fit.2]
    omega
theorem lis_fit (x : Tm) : (lisT x).nodes = x.nodes + 2 ∧ (lisT x).deep = x.deep + 1 := tup_fit x
theorem one_fit (x : Tm) : (oneT x).nodes = x.nodes + 3 ∧ (oneT x).deep = x.deep + 1 := by
  have hd := deep_pos x
  refine ⟨?_, ?_⟩
  · unfold oneT
    rw [Tm.nodes_mk]
    simp only [Tm.pres, List.length_append, List.length_nil]
    rw [show nilT.pre.length = 1 from rfl, show (Tm.mk 4 0 ⟨#[]⟩ ⟨#[]⟩ []).pre.length = 1 from rfl]
    show 1 + (1 + (x.nodes + 0)) + 1 = _
    omega
  · unfold oneT
    rw [Tm.deep]
    simp only [Tm.deeps]
    rw [nil_fit.2, show (Tm.mk 4 0 ⟨#[]⟩ ⟨#[]⟩ []).deep = 1 from rfl]
    omega
theorem kas_fit (x : Tm) : (kasT x).nodes = x.nodes + 5 ∧ (kasT x).deep = x.deep + 2 := by
  have hd := deep_pos x
  have h1 := one_fit x
  refine ⟨?_, ?_⟩
  · unfold kasT
    rw [Tm.nodes_mk]
    simp only [Tm.pres, List.length_append, List.length_nil]
    rw [show nilT.pre.length = 1 from rfl]
    show 1 + ((oneT x).nodes + 0) + 1 = _
    omega
  · unfold kasT
    rw [Tm.deep]
    simp only [Tm.deeps]
    rw [nil_fit.2, h1.2]
    omega
theorem wrap_fits {x y : Tm} {a d : Nat} (hn : y.nodes = x.nodes + a) (hd : y.deep = x.deep + d) (h1 : x.nodes + a ≤ 4096) (h2 : x.deep + d ≤ 64) : fitsB y = true ∧ fitsB x = true := by
  unfold fitsB
  exact ⟨decide_eq_true ⟨by omega, by omega⟩, decide_eq_true ⟨by omega, by omega⟩⟩
theorem nil_expr : exprB nilT = true := by kernel_rfl
theorem nil_pat : patB nilT = true := by kernel_rfl
theorem nil_gua : guaB nilT = true := by kernel_rfl
theorem emp0 : emp ⟨#[]⟩ = true := rfl
theorem tup_expr (x : Tm) : exprB (tupT x) = exprB x := by
  unfold tupT
  rw [exprB]
  simp [exprsB, nil_expr, leafB, emp0]
theorem lis_expr (x : Tm) : exprB (lisT x) = exprB x := by
  unfold lisT
  rw [exprB]
  simp [exprsB, nil_expr, leafB, emp0]
theorem tup_pat (x : Tm) : patB (tupT x) = patB x := by
  unfold tupT
  rw [patB]
  simp [patsB, nil_pat, leafB, emp0]
theorem lis_gua (x : Tm) : guaB (lisT x) = guaB x := by
  unfold lisT
  rw [guaB]
  simp [guasB, nil_gua, leafB, emp0]
theorem one_cl (x : Tm) : clB 1 (oneT x) = exprB x := by
  unfold oneT
  rw [clB]
  simp [partsB, nil_pat, guardB, emp0, exprsB]
theorem kas_expr (x : Tm) : exprB (kasT x) = exprB x := by
  unfold kasT
  rw [exprB]
  simp [caseB, clsB, one_cl, nil_expr, leafB, emp0]
end Go.Proofs.YtcallgoglnkkiaaGreatDoor
