/- Layer 7: node, kind by kind. Layer 7: what node writes of a tree that may stand at a place. Layer 7: texts of trees that may be are not long. Layer 7: ast.Text. -/
import Derived.Test.YtcallgoglnkkiaaGreatDoorWfw7
import Derived.Test.YtcallgoglnkkiaaGreatDoorAstL
import Derived.Test.YtcallgoglnkkiaaGreatDoorPub7
set_option linter.unusedVariables false
namespace Go.Proofs.YtcallgoglnkkiaaGreatDoor
open Go.RowKit Go.Lib

theorem nd_0 {w0 : World} {B WB PB : Nat} {n : Int} {s t : ByteArray} {l : List Tm} {TX : List UInt8} (h : CallW w0 B WB PB (fun _ => True) 32 (clo PB) (.mk 0 n s t l) TX) : NodeW w0 B WB PB (.mk 0 n s t l) TX :=
  node_c 0 n s t l 32 (by omega) (fun _ _ => rfl) (fun args w => enters_of Tryz.func32 (by kernel_rfl) rfl args w) TX h
theorem nd_1 {w0 : World} {B WB PB : Nat} {n : Int} {s t : ByteArray} {l : List Tm} {TX : List UInt8} (h : CallW w0 B WB PB (fun _ => True) 34 (mth WB) (.mk 1 n s t l) TX) : NodeW w0 B WB PB (.mk 1 n s t l) TX :=
  node_m 1 n s t l 34 (by omega) (fun _ _ => rfl) (fun args w => enters_of Tryz.func34 (by kernel_rfl) rfl args w) TX h
theorem nd_2 {w0 : World} {B WB PB : Nat} {n : Int} {s t : ByteArray} {l : List Tm} {TX : List UInt8} (h : CallW w0 B WB PB (fun _ => True) 35 (mth WB) (.mk 2 n s t l) TX) : NodeW w0 B WB PB (.mk 2 n s t l) TX :=
  node_m 2 n s t l 35 (by omega) (fun _ _ => rfl) (fun args w => enters_of Tryz.func35 (by kernel_rfl) rfl args w) TX h
theorem nd_3 {w0 : World} {B WB PB : Nat} {n : Int} {s t : ByteArray} {l : List Tm} {TX : List UInt8} (h : CallW w0 B WB PB (fun _ => True) 36 (mth WB) (.mk 3 n s t l) TX) : NodeW w0 B WB PB (.mk 3 n s t l) TX :=
  node_m 3 n s t l 36 (by omega) (fun _ _ => rfl) (fun args w => enters_of Tryz.func36 (by kernel_rfl) rfl args w) TX h
theorem nd_4 {w0 : World} {B WB PB : Nat} {n : Int} {s t : ByteArray} {l : List Tm} {TX : List UInt8} (h : CallW w0 B WB PB (fun _ => True) 37 (mth WB) (.mk 4 n s t l) TX) : NodeW w0 B WB PB (.mk 4 n s t l) TX :=
  node_m 4 n s t l 37 (by omega) (fun _ _ => rfl) (fun args w => enters_of Tryz.func37 (by kernel_rfl) rfl args w) TX h
theorem nd_5 {w0 : World} {B WB PB : Nat} {n : Int} {s t : ByteArray} {l : List Tm} {TX : List UInt8} (h : CallW w0 B WB PB (fun _ => True) 38 (mth WB) (.mk 5 n s t l) TX) : NodeW w0 B WB PB (.mk 5 n s t l) TX :=
  node_m 5 n s t l 38 (by omega) (fun _ _ => rfl) (fun args w => enters_of Tryz.func38 (by kernel_rfl) rfl args w) TX h
theorem nd_6 {w0 : World} {B WB PB : Nat} {n : Int} {s t : ByteArray} {l : List Tm} {TX : List UInt8} (h : CallW w0 B WB PB (fun _ => True) 39 (clo PB) (.mk 6 n s t l) TX) : NodeW w0 B WB PB (.mk 6 n s t l) TX :=
  node_c 6 n s t l 39 (by omega) (fun _ _ => rfl) (fun args w => enters_of Tryz.func39 (by kernel_rfl) rfl args w) TX h
theorem nd_7 {w0 : World} {B WB PB : Nat} {n : Int} {s t : ByteArray} {l : List Tm} {TX : List UInt8} (h : CallW w0 B WB PB (fun _ => True) 38 (mth WB) (.mk 7 n s t l) TX) : NodeW w0 B WB PB (.mk 7 n s t l) TX :=
  node_m 7 n s t l 38 (by omega) (fun _ _ => rfl) (fun args w => enters_of Tryz.func38 (by kernel_rfl) rfl args w) TX h
theorem nd_8 {w0 : World} {B WB PB : Nat} {n : Int} {s t : ByteArray} {l : List Tm} {TX : List UInt8} (h : CallW w0 B WB PB (fun _ => True) 42 (clo PB) (.mk 8 n s t l) TX) : NodeW w0 B WB PB (.mk 8 n s t l) TX :=
  node_c 8 n s t l 42 (by omega) (fun _ _ => rfl) (fun args w => enters_of Tryz.func42 (by kernel_rfl) rfl args w) TX h
theorem nd_9 {w0 : World} {B WB PB : Nat} {n : Int} {s t : ByteArray} {l : List Tm} {TX : List UInt8} (h : CallW w0 B WB PB (fun _ => True) 43 (clo PB) (.mk 9 n s t l) TX) : NodeW w0 B WB PB (.mk 9 n s t l) TX :=
  node_c 9 n s t l 43 (by omega) (fun _ _ => rfl) (fun args w => enters_of Tryz.func43 (by kernel_rfl) rfl args w) TX h
theorem nd_10 {w0 : World} {B WB PB : Nat} {n : Int} {s t : ByteArray} {l : List Tm} {TX : List UInt8} (h : CallW w0 B WB PB (fun _ => True) 45 (clo PB) (.mk 10 n s t l) TX) : NodeW w0 B WB PB (.mk 10 n s t l) TX :=
  node_c 10 n s t l 45 (by omega) (fun _ _ => rfl) (fun args w => enters_of Tryz.func45 (by kernel_rfl) rfl args w) TX h
theorem nd_11 {w0 : World} {B WB PB : Nat} {n : Int} {s t : ByteArray} {l : List Tm} {TX : List UInt8} (h : CallW w0 B WB PB (fun _ => True) 46 (clo PB) (.mk 11 n s t l) TX) : NodeW w0 B WB PB (.mk 11 n s t l) TX :=
  node_c 11 n s t l 46 (by omega) (fun _ _ => rfl) (fun args w => enters_of Tryz.func46 (by kernel_rfl) rfl args w) TX h
theorem nd_12 {w0 : World} {B WB PB : Nat} {n : Int} {s t : ByteArray} {l : List Tm} {TX : List UInt8} (h : CallW w0 B WB PB (fun _ => True) 47 (mth WB) (.mk 12 n s t l) TX) : NodeW w0 B WB PB (.mk 12 n s t l) TX :=
  node_m 12 n s t l 47 (by omega) (fun _ _ => rfl) (fun args w => enters_of Tryz.func47 (by kernel_rfl) rfl args w) TX h
theorem nd_13 {w0 : World} {B WB PB : Nat} {n : Int} {s t : ByteArray} {l : List Tm} {TX : List UInt8} (h : CallW w0 B WB PB (fun _ => True) 48 (clo PB) (.mk 13 n s t l) TX) : NodeW w0 B WB PB (.mk 13 n s t l) TX :=
  node_c 13 n s t l 48 (by omega) (fun _ _ => rfl) (fun args w => enters_of Tryz.func48 (by kernel_rfl) rfl args w) TX h
theorem nd_14 {w0 : World} {B WB PB : Nat} {n : Int} {s t : ByteArray} {l : List Tm} {TX : List UInt8} (h : CallW w0 B WB PB (fun _ => True) 47 (mth WB) (.mk 14 n s t l) TX) : NodeW w0 B WB PB (.mk 14 n s t l) TX :=
  node_m 14 n s t l 47 (by omega) (fun _ _ => rfl) (fun args w => enters_of Tryz.func47 (by kernel_rfl) rfl args w) TX h
theorem nd_15 {w0 : World} {B WB PB : Nat} {n : Int} {s t : ByteArray} {l : List Tm} {TX : List UInt8} (h : CallW w0 B WB PB (fun _ => True) 49 (mth WB) (.mk 15 n s t l) TX) : NodeW w0 B WB PB (.mk 15 n s t l) TX :=
  node_m 15 n s t l 49 (by omega) (fun _ _ => rfl) (fun args w => enters_of Tryz.func49 (by kernel_rfl) rfl args w) TX h
theorem nd_16 {w0 : World} {B WB PB : Nat} {n : Int} {s t : ByteArray} {l : List Tm} {TX : List UInt8} (h : CallW w0 B WB PB (fun _ => True) 50 (mth WB) (.mk 16 n s t l) TX) : NodeW w0 B WB PB (.mk 16 n s t l) TX :=
  node_m 16 n s t l 50 (by omega) (fun _ _ => rfl) (fun args w => enters_of Tryz.func50 (by kernel_rfl) rfl args w) TX h
theorem nd_17 {w0 : World} {B WB PB : Nat} {n : Int} {s t : ByteArray} {l : List Tm} {TX : List UInt8} (h : CallW w0 B WB PB (fun _ => True) 51 (clo PB) (.mk 17 n s t l) TX) : NodeW w0 B WB PB (.mk 17 n s t l) TX :=
  node_c 17 n s t l 51 (by omega) (fun _ _ => rfl) (fun args w => enters_of Tryz.func51 (by kernel_rfl) rfl args w) TX h
theorem nd_18 {w0 : World} {B WB PB : Nat} {n : Int} {s t : ByteArray} {l : List Tm} {TX : List UInt8} (h : CallW w0 B WB PB (fun _ => True) 52 (clo PB) (.mk 18 n s t l) TX) : NodeW w0 B WB PB (.mk 18 n s t l) TX :=
  node_c 18 n s t l 52 (by omega) (fun _ _ => rfl) (fun args w => enters_of Tryz.func52 (by kernel_rfl) rfl args w) TX h
theorem nd_19 {w0 : World} {B WB PB : Nat} {n : Int} {s t : ByteArray} {l : List Tm} {TX : List UInt8} (h : CallW w0 B WB PB (fun _ => True) 54 (clo PB) (.mk 19 n s t l) TX) : NodeW w0 B WB PB (.mk 19 n s t l) TX :=
  node_c 19 n s t l 54 (by omega) (fun _ _ => rfl) (fun args w => enters_of Tryz.func54 (by kernel_rfl) rfl args w) TX h
theorem nd_20 {w0 : World} {B WB PB : Nat} {n : Int} {s t : ByteArray} {l : List Tm} {TX : List UInt8} (h : CallW w0 B WB PB (fun _ => True) 55 (mth WB) (.mk 20 n s t l) TX) : NodeW w0 B WB PB (.mk 20 n s t l) TX :=
  node_m 20 n s t l 55 (by omega) (fun _ _ => rfl) (fun args w => enters_of Tryz.func55 (by kernel_rfl) rfl args w) TX h
theorem nd_21 {w0 : World} {B WB PB : Nat} {n : Int} {s t : ByteArray} {l : List Tm} {TX : List UInt8} (h : CallW w0 B WB PB (fun _ => True) 56 (mth WB) (.mk 21 n s t l) TX) : NodeW w0 B WB PB (.mk 21 n s t l) TX :=
  node_m 21 n s t l 56 (by omega) (fun _ _ => rfl) (fun args w => enters_of Tryz.func56 (by kernel_rfl) rfl args w) TX h
end Go.Proofs.YtcallgoglnkkiaaGreatDoor
set_option linter.unusedVariables false
set_option linter.unusedSimpArgs false
namespace Go.Proofs.YtcallgoglnkkiaaGreatDoor
open Go.RowKit Go.Lib

theorem sep_tx (sep : List UInt8) : ∀ l : List Tm, sepT sep (l.map txE) = txSep sep l
  | [] => by rw [txSep]; rfl
  | x :: l => by
    rw [txSep, List.map_cons, sepT, sep_tx sep l]
    cases l <;> rfl
theorem sep_cls : ∀ l : List Tm, sepT [59, 32] (l.map txCl) = txCls l
  | [] => by rw [txCls]; rfl
  | x :: l => by
    rw [txCls, List.map_cons, sepT, sep_cls l]
    cases l <;> rfl
theorem sep_flat : ∀ L : List (List UInt8), sepT [] L = L.flatten
  | [] => rfl
  | x :: l => by
    rw [sepT, sep_flat l, List.flatten_cons]
    cases l <;> simp
theorem sep_funcls (f : List UInt8) : ∀ l : List Tm, sepT [59, 10] (l.map (txFunCl f)) = txFunCls f l
  | [] => by rw [txFunCls]; rfl
  | x :: l => by
    rw [txFunCls, List.map_cons, sepT, sep_funcls f l]
    cases l <;> rfl
theorem txParts_eq (sep close : List UInt8) : ∀ (m : Nat) (l : List Tm) (g : Tm), l[m]? = some g → txParts sep close m l = sepT sep ((l.take m).map txE) ++ (close ++ (txGuard g ++ ([32, 45, 62, 32] ++ sepT [44, 32] ((l.drop (m + 1)).map txE))))
  | 0, [], g, h => by simp at h
  | 0, p :: l, g, h => by
    simp only [List.getElem?_cons_zero, Option.some.injEq] at h
    subst h
    rw [txParts, sep_tx, sep_tx]
    simp [txSep]
  | m + 1, [], g, h => by simp at h
  | m + 1, p :: l, g, h => by
    rw [List.getElem?_cons_succ] at h
    rw [txParts, txParts_eq sep close m l g h, List.take_succ_cons, List.map_cons, sepT, List.drop_succ_cons]
    have hlt : m < l.length := (List.getElem?_eq_some_iff.1 h).1
    by_cases hm : m = 0
    · subst hm; simp
    · have h1 : ((l.take m).map txE).isEmpty = false := by
        rw [List.isEmpty_eq_false_iff]; intro h2
        have h3 := congrArg List.length h2
        rw [List.length_map, List.length_take] at h3
        have h0 : ([] : List (List UInt8)).length = 0 := rfl
        omega
      rw [h1, if_neg hm]
      simp
theorem txRecv_eq (c : Tm) : ∀ (sep : List UInt8) (L : List Tm), txRecv sep (L ++ [c]) = (if L.isEmpty then [] else sep ++ sepT [59, 32] (L.map txCl)) ++ ([32, 97, 102, 116, 101, 114, 32] ++ txAfter c)
  | sep, [] => by rw [List.nil_append, txRecv]; rfl
  | sep, y :: L => by
    rw [List.cons_append, txRecv, txRecv_eq c _ L, List.map_cons, sepT]
    cases L <;> simp [sepT]
theorem cla_of_cl {m : Nat} {x : Tm} (h : clB m x = true) : claB x = true := by
  obtain ⟨k, n, s, t, l⟩ := x
  have hn := clB_n h
  unfold claB
  rw [Bool.and_eq_true]
  subst hn
  exact ⟨decide_eq_true (by show (0 : Int) ≤ (m : Int); omega), h⟩
theorem op_size {s : ByteArray} (h : cmpB s = true ∨ ariB s = true) : s.size ≤ 100000000 := by
  rw [← size_list]
  have key : ∀ L : List (List UInt8), (∀ y ∈ L, y.length ≤ 100000000) → (L.any fun x => s.data.toList == x) = true → s.data.toList.length ≤ 100000000 := fun L hL h => by
    obtain ⟨y, hy, he⟩ := List.any_eq_true.1 h
    rw [eq_of_beq he]; exact hL y hy
  rcases h with h | h
  · exact key _ (by decide) h
  · exact key _ (by decide) h

/-- What node writes of a tree, by where it may stand. -/
structure WrX (w0 : World) (B WB PB : Nat) (x : Tm) : Prop where
  expr : exprB x = true → NodeW w0 B WB PB x (txE x)
  cl : claB x = true → NodeW w0 B WB PB x (txCl x)
  guard : guardB x = true → NodeW w0 B WB PB x (txGuard x)
  after : afterB x = true → NodeW w0 B WB PB x ([32, 97, 102, 116, 101, 114, 32] ++ txAfter x)
  test : testB x = true → NodeW w0 B WB PB x (txE x)
theorem nodeW_of {w0 : World} {B WB PB : Nat} {x : Tm} {a b : List UInt8} (h : NodeW w0 B WB PB x a) (e : b = a) : NodeW w0 B WB PB x b := by rw [e]; exact h

set_option maxHeartbeats 1000000 in
theorem wr_expr {w0 : World} {B WB PB : Nat} (hE : Env7 w0) (k n : Int) (s t : ByteArray) (l : List Tm) (ih : ∀ y ∈ l, WrX w0 B WB PB y) (h : exprB (.mk k n s t l) = true) : NodeW w0 B WB PB (.mk k n s t l) (txE (.mk k n s t l)) := by
  have hX : ∀ {L : List Tm}, (∀ y ∈ L, y ∈ l) → (∀ y ∈ L, exprB y = true) → ∀ y ∈ L, NodeW w0 B WB PB y (txE y) := fun h1 h2 y hy => (ih y (h1 y hy)).expr (h2 y hy)
  have hC : ∀ {m : Nat} {L : List Tm}, (∀ y ∈ L, y ∈ l) → clsB m L = true → ∀ y ∈ L, NodeW w0 B WB PB y (txCl y) := fun h1 h2 y hy => (ih y (h1 y hy)).cl (cla_of_cl (clsB_all.1 h2 y hy))
  rcases expr_cases h with h | h | h | h | h | h | h | h | h | h | h | h
  · obtain ⟨rfl, rfl, h | h | h | h⟩ := h
    · obtain ⟨rfl, -, -⟩ := h
      exact nodeW_of (nd_5 (fm_name _ _ _ _ _)) (by simp [txE])
    · obtain ⟨rfl, -⟩ := h
      exact nodeW_of (nd_6 (fm_int _ _ _ _ _ hE)) (by simp [txE])
    · obtain ⟨rfl, -, -⟩ := h
      exact nodeW_of (nd_7 (fm_name _ _ _ _ _)) (by simp [txE])
    · obtain ⟨rfl, -, -⟩ := h
      exact nodeW_of (nd_8 (fm_nil _ _ _ _ _)) (by simp [txE])
  · obtain ⟨rfl, rfl, rfl, rfl, -, h1⟩ := h
    exact nodeW_of (nd_9 (fm_cons _ _ _ _ _ txE (hX (fun _ h => h) h1))) (by simp [txE, sep_tx])
  · obtain ⟨rfl, rfl, rfl, rfl, h1⟩ := h
    exact nodeW_of (nd_10 (fm_tuple _ _ _ _ _ txE (hX (fun _ h => h) h1))) (by simp [txE, sep_tx])
  · obtain ⟨rfl, rfl, rfl, h2, -, h1⟩ := h
    exact nodeW_of (nd_11 (fm_op _ _ _ _ _ txE (hX (fun _ h => h) h1) (op_size h2))) (by simp [txE, sep_tx])
  · obtain ⟨rfl, rfl, rfl, rfl, -, h1⟩ := h
    exact nodeW_of (nd_13 (fm_match _ _ _ _ _ txE (hX (fun _ h => h) h1))) (by simp [txE, sep_tx])
  · obtain ⟨rfl, rfl, rfl, -, h1⟩ := h
    exact nodeW_of (nd_14 (fm_call _ _ _ _ _ txE (hX (fun _ h => h) h1))) (by simp [txE, sep_tx])
  · obtain ⟨rfl, rfl, -, -, h1⟩ := h
    exact nodeW_of (nd_15 (fm_remote _ _ _ _ _ txE (hX (fun _ h => h) h1))) (by simp [txE, sep_tx])
  · obtain ⟨rfl, rfl, rfl, rfl, v, l', rfl, -, h0, h1⟩ := h
    exact nodeW_of (nd_16 (fm_apply _ _ _ _ _ v (txE v) txE ((ih v (by simp)).expr h0) (hX (fun y hy => by simp [hy]) h1))) (by simp [txE, txApp, sep_tx])
  · obtain ⟨rfl, -, -, rfl⟩ := h
    exact nodeW_of (nd_17 (fm_ref _ _ _ _ _ hE)) (by simp [txE])
  · obtain ⟨rfl, rfl, rfl, rfl, e, l', rfl, -, h0, h1⟩ := h
    exact nodeW_of (nd_18 (fm_case _ _ _ _ _ e (txE e) txCl ((ih e (by simp)).expr h0) (hC (fun y hy => by simp [hy]) h1))) (by simp [txE, txCase, sep_cls])
  · obtain ⟨rfl, rfl, rfl, rfl, e, l', rfl, -, h0, h1⟩ := h
    exact nodeW_of (nd_19 (fm_try _ _ _ _ _ e (txE e) txCl ((ih e (by simp)).expr h0) (hC (fun y hy => by simp [hy]) h1))) (by simp [txE, txCase, sep_cls])
  · obtain ⟨rfl, rfl, rfl, h | h⟩ := h
    · obtain ⟨rfl, h0, h1⟩ := h
      cases l with
      | nil => exact absurd rfl h0
      | cons y l => exact nodeW_of (nd_20 (fm_recv0 _ _ _ l y txCl (hC (fun _ h => h) h1))) (by simp [txE, ← sep_cls])
    · obtain ⟨rfl, h1⟩ := h
      obtain ⟨L, c, rfl⟩ : ∃ L c, l = L ++ [c] := by
        cases l with
        | nil => rw [recvB] at h1; cases h1
        | cons y l => exact ⟨(y :: l).dropLast, (y :: l).getLast (by simp), (List.dropLast_concat_getLast _).symm⟩
      rw [recv_last, Bool.and_eq_true] at h1
      have ha : ∀ z ∈ [c], NodeW w0 B WB PB z ([32, 97, 102, 116, 101, 114, 32] ++ txAfter z) := fun z hz => by
        rw [List.mem_singleton] at hz; subst hz
        exact (ih z (by simp)).after h1.1
      by_cases hL : L = []
      · subst hL
        exact nodeW_of (nd_20 (fm_recv1 _ _ _ _ rfl (fun z => [32, 97, 102, 116, 101, 114, 32] ++ txAfter z) ha)) (by simp [txE, txRecv, sepT])
      · have hlen : 0 < L.length := List.length_pos_iff.2 hL
        have hne : L.isEmpty = false := by rw [List.isEmpty_eq_false_iff]; exact hL
        exact nodeW_of (nd_20 (fm_recvM _ _ _ _ L.length (by simp) hlen txCl (fun z => [32, 97, 102, 116, 101, 114, 32] ++ txAfter z) (by simpa using hC (L := L) (fun y hy => by simp [hy]) h1.2) (by simpa using ha))) (by simp [txE, txRecv_eq, sepT, hne, hL])
theorem cl_parts {m : Nat} {l : List Tm} (h : partsB m l = true) : ∃ g, l[m]? = some g ∧ guardB g = true ∧ (∀ z ∈ l.take m, patB z = true) ∧ (∀ z ∈ l.drop (m + 1), exprB z = true) := by
  rw [parts_eq] at h
  simp only [Bool.and_eq_true, decide_eq_true_eq, List.all_eq_true] at h
  obtain ⟨h0, ⟨h1, h2⟩, h3⟩ := h
  have hm : m < l.length := by omega
  have hg : l[m]? = some l[m] := List.getElem?_eq_getElem hm
  refine ⟨_, hg, h2 _ ?_, h1, h3⟩
  exact List.mem_of_getElem? (i := 0) (by rw [List.getElem?_take, if_pos (by omega), List.getElem?_drop]; simp)
theorem mem_at {l : List Tm} {m : Nat} {g : Tm} (h : l[m]? = some g) : g ∈ l := List.mem_of_getElem? h
set_option maxHeartbeats 1000000 in
theorem wr_all {w0 : World} {B WB PB : Nat} (hE : Env7 w0) (x : Tm) : WrX w0 B WB PB x := by
  refine Tm.ind (fun k n s t l ih => ?_) x
  have hx := wr_expr (B := B) (WB := WB) (PB := PB) hE k n s t l ih
  refine ⟨hx, fun h => ?_, fun h => ?_, fun h => ?_, fun h => ?_⟩
  · unfold claB at h
    rw [Bool.and_eq_true] at h
    obtain ⟨rfl, hn, rfl, rfl, hp⟩ := cl_cases h.2
    obtain ⟨g, hg, h1, h2, h3⟩ := cl_parts hp
    obtain ⟨m, hm⟩ : ∃ m : Nat, n = (m : Int) := ⟨_, hn⟩
    subst hm
    rw [show (Tm.mk 3 (m : Int) (⟨#[]⟩ : ByteArray) (⟨#[]⟩ : ByteArray) l).n.toNat = m from Int.toNat_natCast m] at hg h2 h3
    exact nodeW_of (nd_3 (fm_alt 3 m _ _ l g (txGuard g) txE txE hg ((ih g (mem_at hg)).guard h1) (fun z hz => (ih z (List.mem_of_mem_drop hz)).expr (h3 z hz)) (fun z hz => (ih z (List.mem_of_mem_take hz)).expr (pat_expr z (h2 z hz))))) (by rw [txCl, Int.toNat_natCast, txParts_eq _ _ _ _ _ hg]; simp)
  · obtain ⟨rfl, rfl, rfl, rfl⟩ := guard_cases h
    have h1 := guard_tests h
    exact nodeW_of (nd_4 (fm_guard _ _ _ _ _ txE (fun z hz => (ih z hz).test (h1 z hz)))) (by rw [txGuard, sep_tx])
  · obtain ⟨rfl, rfl, rfl, rfl, e, m, rfl, -, h0, h1⟩ := after_cases h
    exact nodeW_of (nd_21 (fm_after _ _ _ _ _ e (txE e) txE ((ih e (by simp)).expr h0) (fun z hz => (ih z (by simp [hz])).expr (h1 z hz)))) (by simp [txAfter, txThen, sep_tx])
  · rcases test_cases h with h | h
    · exact hx h.2
    · obtain ⟨rfl, rfl, rfl, -, h1⟩ := h
      exact nodeW_of (nd_12 (fm_call _ _ _ _ _ txE (fun z hz => (ih z hz).expr (h1 z hz)))) (by simp [txE, sep_tx])
set_option maxHeartbeats 1000000 in
theorem wr_fun {w0 : World} {B WB PB : Nat} (hE : Env7 w0) (x : Tm) (h : funB x = true) : NodeW w0 B WB PB x (txFun x) := by
  obtain ⟨k, n, s, t, l⟩ := x
  unfold funB at h
  simp only [Bool.and_eq_true, beq_iff_eq, decide_eq_true_eq] at h
  obtain ⟨⟨⟨⟨⟨rfl, -⟩, -⟩, -⟩, -⟩, hc⟩ := h
  refine nodeW_of (nd_2 (fm_fun _ _ _ _ _ (txFunCl s.data.toList) (fun g1 g2 A cap y hy => ?_))) (by rw [txFun, sep_funcls])
  obtain ⟨k', n', s', t', l'⟩ := y
  obtain ⟨rfl, rfl, rfl, rfl, hp⟩ := cl_cases (clsB_all.1 hc _ hy)
  obtain ⟨g, hg, h1, h2, h3⟩ := cl_parts hp
  have e : txFunCl s.data.toList (.mk 3 (n.toNat : Int) ⟨#[]⟩ ⟨#[]⟩ l') = s.data.toList ++ (([40] ++ sepT [44, 32] ((l'.take n.toNat).map txE) ++ [41]) ++ (txGuard g ++ ([32, 45, 62, 32] ++ sepT [44, 32] ((l'.drop (n.toNat + 1)).map txE)))) := by
    rw [txFunCl, Int.toNat_natCast, txParts_eq _ _ _ _ _ hg]; simp
  rw [e]
  exact fm_funcl 3 n.toNat _ _ l' g (txGuard g) txE txE hg ((wr_all hE g).guard h1) (fun z hz => (wr_all hE z).expr (h3 z hz)) (fun z hz => (wr_all hE z).expr (pat_expr z (h2 z hz))) _ _ _ _ _ _ _ _ _
theorem wr_mods {w0 : World} {B WB PB : Nat} (hE : Env7 w0) (x : Tm) (h : modsB x = true) : NodeW w0 B WB PB x (txMods x) := by
  obtain ⟨k, n, s, t, l⟩ := x
  unfold modsB at h
  simp only [Bool.and_eq_true, beq_iff_eq, List.all_eq_true] at h
  obtain ⟨⟨⟨⟨rfl, -⟩, -⟩, -⟩, hm⟩ := h
  refine nodeW_of (nd_0 (fm_mods _ _ _ _ _ txMod (fun y hy => ?_))) (by rw [txMods, sep_flat])
  have hy2 := hm y hy
  obtain ⟨k', n', s', t', l'⟩ := y
  unfold modB at hy2
  simp only [Bool.and_eq_true, beq_iff_eq, List.all_eq_true] at hy2
  obtain ⟨⟨⟨⟨rfl, -⟩, -⟩, -⟩, hf⟩ := hy2
  exact nodeW_of (nd_1 (fm_mod _ _ _ _ _ txFun (fun z hz => wr_fun hE z (hf z hz)))) (by rw [txMod, sep_flat]; simp)
end Go.Proofs.YtcallgoglnkkiaaGreatDoor
set_option linter.unusedVariables false
set_option linter.unusedSimpArgs false
namespace Go.Proofs.YtcallgoglnkkiaaGreatDoor
open Go.RowKit Go.Lib

theorem name_short {s : ByteArray} {k : Int} (h : nameB s k = true) : s.size ≤ 32 := by
  unfold nameB at h; exact (of_decide_eq_true h).2.1
theorem op_small {s : ByteArray} (h : cmpB s = true ∨ ariB s = true) : s.size ≤ 10 := by
  rw [← size_list]
  have key : ∀ L : List (List UInt8), (∀ y ∈ L, y.length ≤ 10) → (L.any fun x => s.data.toList == x) = true → s.data.toList.length ≤ 10 := fun L hL h => by
    obtain ⟨y, hy, he⟩ := List.any_eq_true.1 h
    rw [eq_of_beq he]; exact hL y hy
  rcases h with h | h
  · exact key _ (by decide) h
  · exact key _ (by decide) h
theorem kind_small {s : ByteArray} (h : kindB s = true) : s.size ≤ 20 := by
  rw [← size_list]
  have key : ∀ L : List (List UInt8), (∀ y ∈ L, y.length ≤ 20) → (L.any fun x => s.data.toList == x) = true → s.data.toList.length ≤ 20 := fun L hL h => by
    obtain ⟨y, hy, he⟩ := List.any_eq_true.1 h
    rw [eq_of_beq he]; exact hL y hy
  exact key _ (by decide) h
theorem atom_small {s : ByteArray} (h : atomB s = true) : s.size ≤ 32 := by
  unfold atomB at h
  rw [Bool.and_eq_true] at h
  exact name_short h.1
theorem pres_cons_len (x : Tm) (l : List Tm) : (Tm.pres (x :: l)).length = x.nodes + (Tm.pres l).length := by rw [Tm.pres, List.length_append]; rfl
theorem pres_split {l : List Tm} {m : Nat} {g : Tm} (h : l[m]? = some g) : (Tm.pres l).length = (Tm.pres (l.take m)).length + g.nodes + (Tm.pres (l.drop (m + 1))).length := by
  have e : Tm.pres l = Tm.pres (l.take (m + 1)) ++ Tm.pres (l.drop (m + 1)) := by rw [← Tm.pres_append, List.take_append_drop]
  rw [e, Tm.pres_take_succ h, List.length_append, List.length_append]
  rfl
theorem sepT_len (sep : List UInt8) (T : Tm → List UInt8) (hs : sep.length ≤ 100) : ∀ l : List Tm, (∀ y ∈ l, (T y).length + 100 ≤ 1000 * y.nodes) → (sepT sep (l.map T)).length ≤ 1000 * (Tm.pres l).length
  | [], _ => by simp [sepT]
  | x :: l, h => by
    have h1 := h x (by simp)
    have h2 := sepT_len sep T hs l (fun y hy => h y (by simp [hy]))
    rw [List.map_cons, sepT, List.length_append, List.length_append, pres_cons_len]
    have h3 : (if (l.map T).isEmpty then ([] : List UInt8) else sep).length ≤ 100 := by split <;> simp [hs]
    omega

/-- Numbers of a tree are in an int. -/
def NumR (x : Tm) : Prop := ∀ y ∈ x.pre, -9223372036854775808 ≤ y.n ∧ y.n ≤ 9223372036854775807
structure BdX (x : Tm) : Prop where
  expr : exprB x = true → (txE x).length + 100 ≤ 1000 * x.nodes
  cl : claB x = true → (txCl x).length + 100 ≤ 1000 * x.nodes
  guard : guardB x = true → (txGuard x).length + 100 ≤ 1000 * x.nodes
  after : afterB x = true → ([32, 97, 102, 116, 101, 114, 32] ++ txAfter x).length + 100 ≤ 1000 * x.nodes
  test : testB x = true → (txE x).length + 100 ≤ 1000 * x.nodes

set_option maxHeartbeats 1000000 in
theorem bd_expr (k n : Int) (s t : ByteArray) (l : List Tm) (hn : -9223372036854775808 ≤ n ∧ n ≤ 9223372036854775807) (ih : ∀ y ∈ l, BdX y) (h : exprB (.mk k n s t l) = true) : (txE (.mk k n s t l)).length + 100 ≤ 1000 * (Tm.mk k n s t l).nodes := by
  have hX : ∀ {L : List Tm} (sep : List UInt8), sep.length ≤ 100 → (∀ y ∈ L, y ∈ l) → (∀ y ∈ L, exprB y = true) → (txSep sep L).length ≤ 1000 * (Tm.pres L).length := fun sep hs h1 h2 => by
    rw [← sep_tx]; exact sepT_len sep txE hs _ (fun y hy => (ih y (h1 y hy)).expr (h2 y hy))
  have hC : ∀ {m : Nat} {L : List Tm}, (∀ y ∈ L, y ∈ l) → clsB m L = true → (txCls L).length ≤ 1000 * (Tm.pres L).length := fun h1 h2 => by
    rw [← sep_cls]; exact sepT_len _ txCl (by simp) _ (fun y hy => (ih y (h1 y hy)).cl (cla_of_cl (clsB_all.1 h2 y hy)))
  rw [Tm.nodes_mk]
  rcases expr_cases h with h | h | h | h | h | h | h | h | h | h | h | h
  · obtain ⟨rfl, rfl, h | h | h | h⟩ := h
    · obtain ⟨rfl, -, h1⟩ := h
      have := name_short h1
      simp [txE]; omega
    · obtain ⟨rfl, -⟩ := h
      have := itoa_length_le n hn.1 hn.2
      simp [txE]; omega
    · obtain ⟨rfl, -, h1⟩ := h
      have := atom_small h1
      simp [txE]; omega
    · obtain ⟨rfl, -, -⟩ := h
      simp [txE]; omega
  · obtain ⟨rfl, rfl, rfl, rfl, -, h1⟩ := h
    have := hX [124] (by simp) (fun _ h => h) h1
    simp [txE]; omega
  · obtain ⟨rfl, rfl, rfl, rfl, h1⟩ := h
    have := hX [44, 32] (by simp) (fun _ h => h) h1
    simp [txE]; omega
  · obtain ⟨rfl, rfl, rfl, h2, -, h1⟩ := h
    have h3 := op_small h2
    have := hX ([32] ++ s.data.toList ++ [32]) (by simp; omega) (fun _ h => h) h1
    simp [txE] at this ⊢; omega
  · obtain ⟨rfl, rfl, rfl, rfl, -, h1⟩ := h
    have := hX [32, 61, 32] (by simp) (fun _ h => h) h1
    simp [txE]; omega
  · obtain ⟨rfl, rfl, rfl, h2, h1⟩ := h
    have h3 := atom_small h2
    have := hX [44, 32] (by simp) (fun _ h => h) h1
    simp [txE]; omega
  · obtain ⟨rfl, rfl, h2, h4, h1⟩ := h
    have h3 := atom_small h2
    have h5 := atom_small h4
    have := hX [44, 32] (by simp) (fun _ h => h) h1
    simp [txE]; omega
  · obtain ⟨rfl, rfl, rfl, rfl, v, l', rfl, -, h0, h1⟩ := h
    have h2 := (ih v (by simp)).expr h0
    have := hX [44, 32] (by simp) (fun y hy => by simp [hy]) h1
    rw [pres_cons_len]
    simp [txE, txApp]; omega
  · obtain ⟨rfl, h2, h4, rfl⟩ := h
    have h3 := atom_small h2
    have h5 := atom_small h4
    have := itoa_length_le n hn.1 hn.2
    simp [txE]; omega
  · obtain ⟨rfl, rfl, rfl, rfl, e, l', rfl, -, h0, h1⟩ := h
    have h2 := (ih e (by simp)).expr h0
    have := hC (L := l') (fun y hy => by simp [hy]) h1
    rw [pres_cons_len]
    simp [txE, txCase]; omega
  · obtain ⟨rfl, rfl, rfl, rfl, e, l', rfl, -, h0, h1⟩ := h
    have h2 := (ih e (by simp)).expr h0
    have := hC (L := l') (fun y hy => by simp [hy]) h1
    rw [pres_cons_len]
    simp [txE, txCase]; omega
  · obtain ⟨rfl, rfl, rfl, h | h⟩ := h
    · obtain ⟨rfl, h0, h1⟩ := h
      have := hC (L := l) (fun _ h => h) h1
      simp [txE]; omega
    · obtain ⟨rfl, h1⟩ := h
      obtain ⟨L, c, rfl⟩ : ∃ L c, l = L ++ [c] := by
        cases l with
        | nil => rw [recvB] at h1; cases h1
        | cons y l => exact ⟨(y :: l).dropLast, (y :: l).getLast (by simp), (List.dropLast_concat_getLast _).symm⟩
      rw [recv_last, Bool.and_eq_true] at h1
      have ha := (ih c (by simp)).after h1.1
      have := hC (L := L) (fun y hy => by simp [hy]) h1.2
      have e2 : (Tm.pres (L ++ [c])).length = (Tm.pres L).length + c.nodes := by rw [Tm.pres_snoc, List.length_append]; rfl
      rw [e2]
      have e3 : (txE (.mk 20 1 ⟨#[]⟩ ⟨#[]⟩ (L ++ [c]))).length ≤ 12 + (txCls L).length + ([32, 97, 102, 116, 101, 114, 32] ++ txAfter c).length := by
        simp only [txE, txRecv_eq, sep_cls]
        by_cases hL : L.isEmpty <;> simp [hL] <;> omega
      omega
theorem txGuard_len {l : List Tm} {k n : Int} {s t : ByteArray} (h : ∀ y ∈ l, (txE y).length + 100 ≤ 1000 * y.nodes) : (txGuard (.mk k n s t l)).length + 100 ≤ 1000 * (Tm.mk k n s t l).nodes := by
  have h1 := sepT_len [44, 32] txE (by simp) l h
  rw [Tm.nodes_mk, txGuard, ← sep_tx]
  split <;> simp <;> omega
set_option maxHeartbeats 1000000 in
theorem parts_len {m : Nat} {l : List Tm} {sep close : List UInt8} (hs : sep.length ≤ 100) (hc : close.length ≤ 100) (ih : ∀ y ∈ l, (exprB y = true → (txE y).length + 100 ≤ 1000 * y.nodes) ∧ (guardB y = true → (txGuard y).length + 100 ≤ 1000 * y.nodes)) (h : partsB m l = true) :
    (txParts sep close m l).length ≤ 1000 * (Tm.pres l).length + 104 := by
  obtain ⟨g, hg, h1, h2, h3⟩ := cl_parts h
  have a1 := (ih g (mem_at hg)).2 h1
  have a2 := sepT_len sep txE hs (l.take m) (fun y hy => (ih y (List.mem_of_mem_take hy)).1 (pat_expr y (h2 y hy)))
  have a3 := sepT_len [44, 32] txE (by simp) (l.drop (m + 1)) (fun y hy => (ih y (List.mem_of_mem_drop hy)).1 (h3 y hy))
  rw [txParts_eq _ _ _ _ _ hg, pres_split hg]
  simp only [List.length_append, List.length_cons, List.length_nil]
  omega
theorem num_child {k n : Int} {s t : ByteArray} {l : List Tm} (h : NumR (.mk k n s t l)) {y : Tm} (hy : y ∈ l) : NumR y := fun z hz => h z (by
  rw [Tm.pre]
  refine List.mem_cons_of_mem _ ?_
  obtain ⟨a, b, rfl⟩ := List.append_of_mem hy
  rw [Tm.pres_append_cons]
  exact List.mem_append_right _ (List.mem_append_left _ hz))
set_option maxHeartbeats 1000000 in
theorem bd_all (x : Tm) : NumR x → BdX x := by
  refine Tm.ind (M := fun x => NumR x → BdX x) (fun k n s t l ih hN => ?_) x
  have ih2 : ∀ y ∈ l, BdX y := fun y hy => ih y hy (num_child hN hy)
  have hx := bd_expr k n s t l (hN (.mk k n s t l) (by rw [Tm.pre]; exact List.mem_cons_self)) ih2
  refine ⟨hx, fun h => ?_, fun h => ?_, fun h => ?_, fun h => ?_⟩
  · unfold claB at h
    rw [Bool.and_eq_true] at h
    obtain ⟨rfl, -, rfl, rfl, hp⟩ := cl_cases h.2
    have := parts_len (sep := [58]) (close := []) (by simp) (by simp) (fun y hy => ⟨(ih2 y hy).expr, (ih2 y hy).guard⟩) hp
    rw [Tm.nodes_mk, txCl]
    have e : (Tm.mk 3 n (⟨#[]⟩ : ByteArray) (⟨#[]⟩ : ByteArray) l).n.toNat = n.toNat := rfl
    rw [e] at this
    omega
  · obtain ⟨rfl, rfl, rfl, rfl⟩ := guard_cases h
    exact txGuard_len (fun y hy => (ih2 y hy).test (guard_tests h y hy))
  · obtain ⟨rfl, rfl, rfl, rfl, e, m, rfl, -, h0, h1⟩ := after_cases h
    have h2 := (ih2 e (by simp)).expr h0
    have h3 := sepT_len [44, 32] txE (by simp) m (fun y hy => (ih2 y (by simp [hy])).expr (h1 y hy))
    rw [sep_tx] at h3
    rw [Tm.nodes_mk, pres_cons_len, txAfter, txThen]
    simp only [List.length_append, List.length_cons, List.length_nil]
    omega
  · rcases test_cases h with h | h
    · exact hx h.2
    · obtain ⟨rfl, rfl, rfl, h2, h1⟩ := h
      have h4 := kind_small h2
      have h3 := sepT_len [44, 32] txE (by simp) l (fun y hy => (ih2 y hy).expr (h1 y hy))
      rw [sep_tx] at h3
      rw [Tm.nodes_mk]
      simp [txE]; omega
end Go.Proofs.YtcallgoglnkkiaaGreatDoor
set_option linter.unusedVariables false
set_option linter.unusedSimpArgs false
namespace Go.Proofs.YtcallgoglnkkiaaGreatDoor
open Go.RowKit Go.Lib

set_option maxHeartbeats 1000000 in
theorem bd_fun (x : Tm) (hN : NumR x) (h : funB x = true) : (txFun x).length + 100 ≤ 1000 * x.nodes := by
  obtain ⟨k, n, s, t, l⟩ := x
  unfold funB at h
  simp only [Bool.and_eq_true, beq_iff_eq, decide_eq_true_eq] at h
  obtain ⟨⟨⟨⟨⟨rfl, -⟩, ha⟩, -⟩, -⟩, hc⟩ := h
  have hs := atom_small ha
  have h1 := sepT_len [59, 10] (txFunCl s.data.toList) (by simp) l (fun y hy => by
    have hy2 := num_child hN hy
    obtain ⟨k', n', s', t', l'⟩ := y
    obtain ⟨rfl, rfl, rfl, rfl, hp⟩ := cl_cases (clsB_all.1 hc _ hy)
    have := parts_len (sep := [44, 32]) (close := [41]) (by simp) (by simp) (fun z hz => ⟨(bd_all z (num_child hy2 hz)).expr, (bd_all z (num_child hy2 hz)).guard⟩) hp
    rw [Tm.nodes_mk, txFunCl, Int.toNat_natCast]
    simp only [List.length_append, List.length_cons, List.length_nil, size_list]
    omega)
  rw [sep_funcls] at h1
  rw [Tm.nodes_mk, txFun]
  simp only [List.length_append, List.length_cons, List.length_nil]
  omega
set_option maxHeartbeats 1000000 in
theorem bd_mods (x : Tm) (hN : NumR x) (h : modsB x = true) : (txMods x).length ≤ 1000 * x.nodes := by
  obtain ⟨k, n, s, t, l⟩ := x
  unfold modsB at h
  simp only [Bool.and_eq_true, beq_iff_eq, List.all_eq_true] at h
  obtain ⟨⟨⟨⟨rfl, -⟩, -⟩, -⟩, hm⟩ := h
  have h1 := sepT_len [] txMod (by simp) l (fun y hy => by
    have hy1 := num_child hN hy
    have hy2 := hm y hy
    obtain ⟨k', n', s', t', l'⟩ := y
    unfold modB at hy2
    simp only [Bool.and_eq_true, beq_iff_eq, List.all_eq_true] at hy2
    obtain ⟨⟨⟨⟨rfl, -⟩, -⟩, ha⟩, hf⟩ := hy2
    have hs := atom_small ha
    have h2 := sepT_len [] txFun (by simp) l' (fun z hz => bd_fun z (num_child hy1 hz) (hf z hz))
    rw [sep_flat] at h2
    rw [Tm.nodes_mk, txMod]
    simp only [List.length_append, List.length_cons, List.length_nil, size_list]
    omega)
  rw [sep_flat] at h1
  rw [Tm.nodes_mk, txMods]
  omega
theorem pres_of : ∀ {l : List Tm} {y : Tm}, y ∈ Tm.pres l → ∃ z ∈ l, y ∈ z.pre
  | [], y, h => by rw [Tm.pres] at h; cases h
  | x :: l, y, h => by
    rw [Tm.pres, List.mem_append] at h
    rcases h with h | h
    · exact ⟨x, by simp, h⟩
    · obtain ⟨z, hz, hy⟩ := pres_of h
      exact ⟨z, by simp [hz], hy⟩
theorem num_of {P : Nat → Prop} {w : World} {x : Tm} {v : Value} (h : TmAt P w x v) : NumR x := by
  induction h with
  | mk vs hk hn hs ht hl hcap hc hx ih =>
    rename_i k n s t l A cap
    intro y hy
    rw [Tm.pre, List.mem_cons] at hy
    rcases hy with rfl | hy
    · exact hn
    · obtain ⟨z, hz, hyz⟩ := pres_of hy
      obtain ⟨j, hj, e⟩ := List.getElem_of_mem hz
      exact ih j z (by rw [← e]; exact List.getElem?_eq_getElem hj) y hyz

set_option maxHeartbeats 4000000 in
set_option maxRecDepth 100000 in
theorem text7_ok : TextC Env7 := by
  intro x v w hT hx hE
  obtain ⟨w1, hw1⟩ : ∃ w1, w1 = w.alloc (.cells (match v with | .agg c => c | _ => #[]) 25) := ⟨_, rfl⟩
  have hNR := num_of hT
  have b1 : Below w.heap.size w w1 := by rw [hw1]; exact (Below.refl _ _).alloc (Nat.le_refl _) _
  have HT1 := Lib.hid (hT.laterN b1)
  have HE1 := Lib.hid (hE.under b1)
  have HB1 := Lib.hid b1
  have HNR := Lib.hid hNR
  have HX := Lib.hid hx
  obtain ⟨k, n, s, t, l⟩ := x
  obtain ⟨A, cap, rfl, -, -, -, -, -⟩ := hT.parts
  dsimp only at hw1
  have g1 : w1.heap[w.heap.size]? = some (.cells #[.int .i8 k, .int .i64 n, .string s, .string t, .slice A l.length cap] 25 (0, 0)) := by rw [hw1]; exact block_alloc _ _
  have HG := Lib.hid g1
  obtain ⟨X, hXX⟩ : ∃ X, X = Tm.mk k n s t l := ⟨_, rfl⟩
  rw [← hXX] at HT1 HNR HX ⊢
  obtain ⟨LN, hLN⟩ : ∃ LN, LN = l.length := ⟨_, rfl⟩
  rw [← hLN] at HT1 HG hw1 ⊢
  clear hT hx hE hNR b1 g1 hXX hLN
  go_enter Tryz.func10, Tryz.ntmps10
  go_upto_region 1 with fail
  rw [← hw1]
  clear hw1
  have q0 : w1.cell? ⟨w.heap.size, 0, none⟩ = some (.int .i8 k) := cell_of_row HG.out rfl
  have q1 : w1.cell? ⟨w.heap.size, 1, none⟩ = some (.int .i64 n) := cell_of_row HG.out rfl
  have q2 : w1.cell? ⟨w.heap.size, 2, none⟩ = some (.string s) := cell_of_row HG.out rfl
  have q3 : w1.cell? ⟨w.heap.size, 3, none⟩ = some (.string t) := cell_of_row HG.out rfl
  have q4 : w1.cell? ⟨w.heap.size, 4, none⟩ = some (.slice A LN cap) := cell_of_row HG.out rfl
  go_wp2_with fail
  refine (check7_ok X _ w1 HT1.out HX.out HE1.out).mono ?_
  rintro e w2 ⟨rfl, b2⟩
  have HB2 := Lib.hid b2
  have HG2 := Lib.hid ((b2.block _ (heap_lt HG.out)).trans HG.out)
  clear b2 q0 q1 q2 q3 q4
  rcases checkR_or X with ⟨hc, hf, hm⟩ | ⟨hc, hno⟩
  · rw [hc]
    have hTX : textL X = txMods X := by unfold textL; rw [if_pos ⟨hf, hm⟩]
    have HTX := Lib.hid hTX
    have HF := Lib.hid hf
    have HM := Lib.hid hm
    clear hc hf hm hTX
    have q0 : w2.cell? ⟨w.heap.size, 0, none⟩ = some (.int .i8 k) := cell_of_row HG2.out rfl
    have q1 : w2.cell? ⟨w.heap.size, 1, none⟩ = some (.int .i64 n) := cell_of_row HG2.out rfl
    have q2 : w2.cell? ⟨w.heap.size, 2, none⟩ = some (.string s) := cell_of_row HG2.out rfl
    have q3 : w2.cell? ⟨w.heap.size, 3, none⟩ = some (.string t) := cell_of_row HG2.out rfl
    have q4 : w2.cell? ⟨w.heap.size, 4, none⟩ = some (.slice A LN cap) := cell_of_row HG2.out rfl
    go_wp2_with fail
    refine (written_any X (txMods X) _ w2 (HT1.out.laterN HB2.out) ?_ (wr_mods (HE1.out.under HB2.out) X HM.out)).mono ?_
    · have h1 := bd_mods X HNR.out HM.out
      have h2 := HX.out
      omega
    rintro e w3 ⟨rfl, b3⟩
    go_wp2_with fail
    go_ret
    exact ⟨_, rfl, by rw [HTX.out], HB1.out.trans ((HB2.out.trans (b3.mono HB2.out.size)).mono HB1.out.size)⟩
  · rw [hc]
    have hTX : textL X = [] := by unfold textL; rw [if_neg hno]
    have HTX := Lib.hid hTX
    clear hc hno hTX
    go_wp2_with fail
    go_ret
    exact ⟨_, rfl, by rw [HTX.out], HB1.out.trans (HB2.out.mono HB1.out.size)⟩
end Go.Proofs.YtcallgoglnkkiaaGreatDoor
