/- The document's own answer of layer 7 for a variable's name. -/
import Derived.Test.YthbiaaeoajmlbaaGreatDoorKSide9
import Derived.Test.YthbiaaeoajmlbaaGreatDoorKNd7
import Derived.Test.YthbiaaeoajmlbaaGreatDoorKSet9
import Derived.Test.YthbiaaeoajmlbaaGreatDoorKTm
import Derived.Test.YthbiaaeoajmlbaaGreatDoorKDigits
import Derived.Lib.ItoaLen
import Derived.Deep.RegionHeld
import Derived.OrdersHeld
import Derived.BigQuiet
import Derived.Deep.QuietTactic
import Derived.Below
section
set_option linter.unusedVariables false
set_option linter.unusedSimpArgs false
namespace Go.Proofs.YthbiaaeoajmlbaaGreatDoor
open Go.RowKit Go.Shelf

theorem one_at9 {P : Nat → Prop} {w : World} {x : Tm} {cs : Array Value} {g : Nat} {k n : Int} {s t : ByteArray} (hx : TmAt P w x (.agg cs)) (hg : w.heap[g]? = some (.cells cs 25 (0, 0))) (hP : P g)
    (hk : -128 ≤ k ∧ k ≤ 127) (hn : -9223372036854775808 ≤ n ∧ n ≤ 9223372036854775807) (hs : s.size ≤ maxLen) (ht : t.size ≤ maxLen) :
    TmAt P w (.mk k n s t [x]) (.agg #[.int .i8 k, .int .i64 n, .string s, .string t, .slice (some ⟨g, 0, none⟩) 1 1]) := by
  refine TmAt.mk (l := [x]) (fun _ => .agg cs) hk hn hs ht (by unfold maxLen; simp) (Nat.le_refl _) (fun j hj => ?_) (fun j y hy => ?_)
  · have hj0 : j = 0 := by simp at hj; omega
    subst hj0
    refine ⟨⟨g, 0, none⟩, rfl, hP, ?_⟩
    have e : (⟨g, 0, none⟩ : Addr).add (0 * 5) = ⟨g, 0, none⟩ := by unfold Addr.add; split <;> simp_all
    unfold ElemAt
    rw [e]
    cases hx with
    | mk vs => exact ⟨_, _, _, _, _, rfl, cell_of_row (i := 0) hg rfl, cell_of_row (i := 1) hg rfl, cell_of_row (i := 2) hg rfl, cell_of_row (i := 3) hg rfl, cell_of_row (i := 4) hg rfl⟩
  · have hj0 : j = 0 ∧ y = x := by
      match j, hy with
      | 0, hy => simp at hy; exact ⟨rfl, hy.symm⟩
      | j + 1, hy => simp at hy
    obtain ⟨rfl, rfl⟩ := hj0
    exact hx
set_option maxHeartbeats 8000000 in
set_option maxRecDepth 100000 in
theorem names_any (c : Tm) (nv : Value) (w : World) (hT : TmAt (· < w.heap.size) w c nv) (hN : c.nodes ≤ 8190) (hE : Env7 w) :
    Calls Tryz.prog 23 #[nv] w fun e w' => ∃ v, e = .returned v ∧ w'.ownsRow w.heap.size 9 1 v (names9 c).length ((names9 c).map .string) ∧ Below w.heap.size w w' := by
  obtain ⟨k, n, s, t, L, A, cap, hx, rfl⟩ : ∃ k' n' s' t' L' A' cap', c = Tm.mk k' n' s' t' L' ∧ nv = .agg #[.int .i8 k', .int .i64 n', .string s', .string t', .slice A' L'.length cap'] := by
    cases hT; exact ⟨_, _, _, _, _, _, _, rfl, rfl⟩
  obtain ⟨w5, hw5⟩ : ∃ w5, w5 = ((((w.alloc (.cells #[.int .i8 k, .int .i64 n, .string s, .string t, .slice A L.length cap] 25)).alloc (.cells #[.int .i8 k, .int .i64 n, .string s, .string t, .slice A L.length cap] 25)).alloc (.cells #[.int .i8 2, .int .i64 n, .string ⟨#[102]⟩, .string ⟨#[]⟩, .slice (some ⟨w.heap.size + 1, 0, none⟩) 1 1] 25)).alloc (.cells #[.int .i8 2, .int .i64 n, .string ⟨#[102]⟩, .string ⟨#[]⟩, .slice (some ⟨w.heap.size + 1, 0, none⟩) 1 1] 25)).alloc (.cells #[.int .i8 1, .int .i64 0, .string ⟨#[109]⟩, .string ⟨#[]⟩, .slice (some ⟨w.heap.size + 3, 0, none⟩) 1 1] 25) := ⟨_, rfl⟩
  obtain ⟨g0, g1, g2, g3, g4, b5, z5⟩ := five_at w _ _ _ _ _ w5 hw5
  obtain ⟨w6, hw6⟩ : ∃ w6, w6 = w5.alloc (.cells #[.int .i8 0, .int .i64 0, .string ⟨#[]⟩, .string ⟨#[]⟩, .slice (some ⟨w.heap.size + 4, 0, none⟩) 1 1] 25) := ⟨_, rfl⟩
  have b56 : Below w5.heap.size w5 w6 := by rw [hw6]; exact (Below.refl _ _).alloc (Nat.le_refl _) _
  have z6 : w6.heap.size = w.heap.size + 6 := by rw [hw6, World.size_alloc, z5]
  have g5 : w6.heap[w.heap.size + 5]? = some (.cells #[.int .i8 0, .int .i64 0, .string ⟨#[]⟩, .string ⟨#[]⟩, .slice (some ⟨w.heap.size + 4, 0, none⟩) 1 1] 25 (0, 0)) := by rw [hw6, ← z5]; exact block_alloc _ _
  have b6 : Below w.heap.size w w6 := b5.trans (b56.mono (by omega))
  have up : ∀ {k : Nat} {o : Obj}, w5.heap[k]? = some o → w6.heap[k]? = some o := fun h => (b56.block _ (heap_lt h)).trans h
  have hc6 : TmAt (· < w6.heap.size) w6 c (.agg #[.int .i8 k, .int .i64 n, .string s, .string t, .slice A L.length cap]) := (hT.under b6 (Nat.le_refl _)).mono (fun b hb => by omega)
  have hbn : -9223372036854775808 ≤ n ∧ n ≤ 9223372036854775807 := by have h9 := hT; rw [hx] at h9; obtain ⟨_, _, _, _, _, h, _⟩ := h9.parts; exact h
  have hf6 := one_at9 (k := 2) (n := n) (s := ⟨#[102]⟩) (t := ⟨#[]⟩) hc6 (up g1) (by omega) (by omega) hbn (by decide) (by decide)
  have hm6 := one_at9 (k := 1) (n := 0) (s := ⟨#[109]⟩) (t := ⟨#[]⟩) hf6 (up g3) (by omega) (by omega) (by omega) (by decide) (by decide)
  have ht6 := one_at9 (k := 0) (n := 0) (s := ⟨#[]⟩) (t := ⟨#[]⟩) hm6 (up g4) (by omega) (by omega) (by omega) (by decide) (by decide)
  have hwr : Tm.mk 0 0 ⟨#[]⟩ ⟨#[]⟩ [.mk 1 0 ⟨#[109]⟩ ⟨#[]⟩ [.mk 2 n ⟨#[102]⟩ ⟨#[]⟩ [c]]] = wrap9 c := by rw [hx]; rfl
  rw [hwr] at ht6
  have hnod : (wrap9 c).nodes = c.nodes + 3 := by
    unfold wrap9
    rw [nodes_mk9]
    simp only [Tm.pres, Tm.pre, List.length_append, List.length_cons, List.length_nil]
    rfl
  have HCK := Lib.hid (check7_ok (wrap9 c) _ w6 ht6 (by omega) (hE.under b6))
  have HT6 := Lib.hid ht6
  have HB6 := Lib.hid b6
  have HG5 := Lib.hid g5
  have HND := Lib.hid hnod
  have HX : Hid (c.n = n) := by rw [hx]; rfl
  have hw6b := hw6
  rw [hw5] at hw6b
  clear hT hE hx g0 g1 g2 g3 g4 b5 b56 z5 z6 g5 b6 up hc6 hbn hf6 hm6 ht6 hwr hnod hw5 hw6
  go_enter Tryz.func23, Tryz.ntmps23
  go_wp2_with fail
  simp only [Nat.add_assoc, Nat.reduceAdd]
  rw [← hw6b]
  clear hw6b
  refine HCK.out.mono ?_
  rintro e w7 ⟨rfl, b7⟩
  have hb7 : Below w.heap.size w w7 := HB6.out.trans (b7.mono HB6.out.size)
  rcases checkR_or (wrap9 c) with ⟨e0, hf, hm⟩ | ⟨e0, hno⟩
  · rw [e0]
    have hn4 : (wrap9 c).nodes ≤ 4096 := by have h9 := hf; unfold fitsB at h9; exact (of_decide_eq_true h9).1
    have hg7 := (b7.block _ (heap_lt HG5.out)).trans HG5.out
    have d0 := cell_of_row (i := 0) hg7 rfl
    have d1 := cell_of_row (i := 1) hg7 rfl
    have d2 := cell_of_row (i := 2) hg7 rfl
    have d3 := cell_of_row (i := 3) hg7 rfl
    have d4 := cell_of_row (i := 4) hg7 rfl
    have HLD := Lib.hid (laid_any9 (wrap9 c) _ w7 ((HT6.out.under b7 (Nat.le_refl _)).mono (fun b hb => Nat.lt_of_lt_of_le hb b7.size)) hn4)
    have hfo : FunOk (.mk 2 c.n (bOf [102]) ⟨#[]⟩ [c]) := ((modsB_ok hm).2 _ (List.mem_cons_self)).2 _ List.mem_cons_self
    have hcl := hfo.cls c List.mem_cons_self
    have har : 0 ≤ c.n ∧ c.n ≤ 8 := hfo.arity
    have hpl : PlaceAt (wrap9 c).pre 3 c := ⟨[], by simp [wrap9, Tm.pre, Tm.pres]⟩
    have HNM : Hid (names9 c = (clW (32 - c.n) 3 c).all) := if_pos ⟨hf, hm⟩
    have HB7 := Lib.hid hb7
    have HCL := Lib.hid (And.intro hcl (And.intro har hpl))
    clear b7 hb7 hg7 hn4 hf hm hfo hcl har hpl e0
    go_wp2_with fail
    refine HLD.out.mono ?_
    rintro e w8 ⟨LB, lc, rfl, hlay, b8⟩
    have HWK := Lib.hid (walked_any9 (wrap9 c).pre LB lc 3 c w8 hlay HCL.out.2.2 (fun z hz => (HCL.out.1.2 z hz).1) HCL.out.2.1)
    have HB8 : Hid (Below w.heap.size w w8) := HB7.out.trans (b8.mono HB7.out.size)
    clear hlay b8 d0 d1 d2 d3 d4
    go_wp2_with fail
    refine HWK.out.mono ?_
    rintro e w9 ⟨X, hX0, hXb, hXP, rfl, hWk⟩
    obtain ⟨hXok, -, es3, es4, c3, c4, nv3, ov3, fv3, fs3, hWR⟩ := hWk
    have cB := cell_of_row (i := 5) hWR.box rfl
    have hbw : Below w8.heap.size w8 w9 := by have h9 := hWR.below; rw [hX0, hXb] at h9; exact h9
    have hord := hWR.order
    rw [hXb] at hord
    have HORD := Lib.hid hord
    have HB9 : Hid (Below w.heap.size w w9) := HB8.out.trans (hbw.mono HB8.out.size)
    clear hWR hbw hord hXok
    go_wp2_with fail
    go_ret
    refine ⟨_, rfl, ?_, HB9.out⟩
    rw [HNM.out]
    obtain ⟨h1, h2⟩ := HORD.out
    refine ⟨h1, ?_⟩
    rcases h2 with h2 | ⟨g, cap', cur, e1, e2, e3⟩
    · exact .inl h2
    · exact .inr ⟨g, cap', cur, e1, Nat.le_trans HB8.out.size e2, e3⟩
  · rw [e0]
    have HNM : Hid (names9 c = []) := if_neg hno
    have HB7 := Lib.hid hb7
    clear b7 hb7 e0 hno
    go_wp2_with fail
    go_ret
    refine ⟨_, rfl, ?_, HB7.out⟩
    rw [HNM.out]
    exact World.ownsRow_nil _ _ _ _
end Go.Proofs.YthbiaaeoajmlbaaGreatDoor
end
section
set_option linter.unusedVariables false
namespace Go.Proofs.YthbiaaeoajmlbaaGreatDoor
open Go.RowKit
open Go.Lib (itoa)

mutual
def txE : Tm → List UInt8
  | .mk k n s t l =>
    if k = 5 ∨ k = 7 then s.data.toList
    else if k = 6 then itoa n
    else if k = 8 then [91, 93]
    else if k = 9 then [91] ++ txSep [124] l ++ [93]
    else if k = 10 then [123] ++ txSep [44, 32] l ++ [125]
    else if k = 11 then [40] ++ txSep ([32] ++ s.data.toList ++ [32]) l ++ [41]
    else if k = 12 ∨ k = 14 then s.data.toList ++ [40] ++ txSep [44, 32] l ++ [41]
    else if k = 13 then [40] ++ txSep [32, 61, 32] l ++ [41]
    else if k = 15 then s.data.toList ++ [58] ++ t.data.toList ++ [40] ++ txSep [44, 32] l ++ [41]
    else if k = 16 then txApp l
    else if k = 17 then [102, 117, 110, 32] ++ s.data.toList ++ [58] ++ t.data.toList ++ [47] ++ itoa n
    else if k = 18 then [99, 97, 115, 101, 32] ++ txCase [32, 111, 102, 32] l ++ [32, 101, 110, 100]
    else if k = 19 then [116, 114, 121, 32] ++ txCase [32, 99, 97, 116, 99, 104, 32] l ++ [32, 101, 110, 100]
    else [114, 101, 99, 101, 105, 118, 101] ++ (if n = 1 then txRecv [32] l else [32] ++ txCls l) ++ [32, 101, 110, 100]
def txSep (sep : List UInt8) : List Tm → List UInt8
  | [] => []
  | x :: l => txE x ++ ((if l.isEmpty then [] else sep) ++ txSep sep l)
def txApp : List Tm → List UInt8
  | [] => []
  | x :: l => txE x ++ [40] ++ txSep [44, 32] l ++ [41]
def txCase (w : List UInt8) : List Tm → List UInt8
  | [] => []
  | e :: l => txE e ++ w ++ txCls l
def txCls : List Tm → List UInt8
  | [] => []
  | c :: l => txCl c ++ ((if l.isEmpty then [] else [59, 32]) ++ txCls l)
def txCl : Tm → List UInt8
  | .mk _ n _ _ l => txParts [58] [] n.toNat l
def txParts (sep close : List UInt8) : Nat → List Tm → List UInt8
  | 0, g :: l => close ++ txGuard g ++ [32, 45, 62, 32] ++ txSep [44, 32] l
  | m + 1, p :: l => txE p ++ ((if m = 0 then [] else sep) ++ txParts sep close m l)
  | _, [] => []
def txGuard : Tm → List UInt8
  | .mk _ _ _ _ l => if l.isEmpty then [] else [32, 119, 104, 101, 110, 32] ++ txSep [44, 32] l
def txRecv (sep : List UInt8) : List Tm → List UInt8
  | [] => []
  | c :: l => if l.isEmpty then [32, 97, 102, 116, 101, 114, 32] ++ txAfter c else sep ++ txCl c ++ txRecv [59, 32] l
def txAfter : Tm → List UInt8
  | .mk _ _ _ _ l => txThen l
def txThen : List Tm → List UInt8
  | [] => []
  | e :: l => txE e ++ [32, 45, 62, 32] ++ txSep [44, 32] l
end
def txFunCl (f : List UInt8) : Tm → List UInt8
  | .mk _ n _ _ l => f ++ [40] ++ txParts [44, 32] [41] n.toNat l
def txFunCls (f : List UInt8) : List Tm → List UInt8
  | [] => []
  | c :: l => txFunCl f c ++ ((if l.isEmpty then [] else [59, 10]) ++ txFunCls f l)
def txFun : Tm → List UInt8
  | .mk _ _ s _ l => txFunCls s.data.toList l ++ [46, 10]
def txMod : Tm → List UInt8
  | .mk _ _ s _ l => [109, 111, 100, 117, 108, 101, 32] ++ s.data.toList ++ [46, 10] ++ (l.map txFun).flatten
def txMods : Tm → List UInt8
  | .mk _ _ _ _ l => (l.map txMod).flatten
def textL (x : Tm) : List UInt8 := if fitsB x = true ∧ modsB x = true then txMods x else []

def addV (acc : List ByteArray) (y : Tm) : List ByteArray := if (y.k == 5 && !(y.s.data.toList == [95]) && !(acc.any fun b => b.data.toList == y.s.data.toList)) = true then acc ++ [y.s] else acc
def varsL (x : Tm) : List ByteArray := if fitsB x = true then x.pre.foldl addV [] else []

def SRow (V : World) (A : Option Addr) (L : List ByteArray) : Prop := ∀ (j : Nat) (b : ByteArray), L[j]? = some b → ∃ ad, A = some ad ∧ ad.block < V.heap.size ∧ V.cell? (ad.add j) = some (.string b)
def Szd (x : Tm) : Prop := ∀ y ∈ x.pre, y.s.size ≤ 281474976710656
def tree0 : Tm := .mk 0 0 ⟨#[]⟩ ⟨#[]⟩ [.mk 1 0 ⟨#[97]⟩ ⟨#[]⟩ [.mk 2 1 ⟨#[102]⟩ ⟨#[]⟩ [.mk 3 1 ⟨#[]⟩ ⟨#[]⟩ [.mk 5 0 ⟨#[88]⟩ ⟨#[]⟩ [], .mk 4 0 ⟨#[]⟩ ⟨#[]⟩ [.mk 11 0 ⟨#[62]⟩ ⟨#[]⟩ [.mk 5 0 ⟨#[88]⟩ ⟨#[]⟩ [], .mk 6 1 ⟨#[]⟩ ⟨#[]⟩ []]], .mk 5 0 ⟨#[88]⟩ ⟨#[]⟩ []]]]]
set_option maxRecDepth 100000 in
theorem tree0_mods : (fitsB tree0 && modsB tree0) = true := by kernel_rfl
set_option maxRecDepth 100000 in
theorem tree0_text : txMods tree0 = [109, 111, 100, 117, 108, 101, 32, 97, 46, 10, 102, 40, 88, 41, 32, 119, 104, 101, 110, 32, 40, 88, 32, 62, 32, 49, 41, 32, 45, 62, 32, 88, 46, 10] := by kernel_rfl
set_option maxRecDepth 100000 in
theorem tree0_vars : (varsL tree0).length = 1 := by kernel_rfl
theorem tree0_szd : Szd tree0 := by
  have h : (tree0.pre.all fun y => decide (y.s.size ≤ 281474976710656)) = true := by kernel_rfl
  intro y hy
  exact of_decide_eq_true (List.all_eq_true.1 h y hy)
theorem nil_check : checkR (.mk 8 0 ⟨#[]⟩ ⟨#[]⟩ []) = 70 := by kernel_rfl
end Go.Proofs.YthbiaaeoajmlbaaGreatDoor
end
section
set_option linter.unusedVariables false
namespace Go.Proofs.YthbiaaeoajmlbaaGreatDoor
open Go.RowKit

theorem row1_of {P : Nat → Prop} {w : World} {b : Nat} {T : TypeId} {c0 c1 c2 c3 c4 : Value} {x : Tm} (h : w.heap[b]? = some (.cells #[c0, c1, c2, c3, c4] T (0, 0))) (hP : P b) (hx : TmAt P w x (.agg #[c0, c1, c2, c3, c4])) : TRow P w (some ⟨b, 0, none⟩) 1 1 [x] :=
  ⟨rfl, by decide, by decide, fun j y hj => by
    match j, hj with
    | 0, hj =>
      simp at hj; subst hj
      exact ⟨_, _, rfl, hP, ⟨c0, c1, c2, c3, c4, rfl, cell_of_row (i := 0) h rfl, cell_of_row (i := 1) h rfl, cell_of_row (i := 2) h rfl, cell_of_row (i := 3) h rfl, cell_of_row (i := 4) h rfl⟩, hx⟩
    | j + 1, hj => simp at hj⟩
theorem row2_of {P : Nat → Prop} {w : World} {b : Nat} {T : TypeId} {c0 c1 c2 c3 c4 d0 d1 d2 d3 d4 : Value} {x y : Tm} (h : w.heap[b]? = some (.cells #[c0, c1, c2, c3, c4, d0, d1, d2, d3, d4] T (0, 0))) (hP : P b) (hx : TmAt P w x (.agg #[c0, c1, c2, c3, c4])) (hy : TmAt P w y (.agg #[d0, d1, d2, d3, d4])) : TRow P w (some ⟨b, 0, none⟩) 2 2 [x, y] :=
  ⟨rfl, by decide, by decide, fun j z hj => by
    match j, hj with
    | 0, hj =>
      simp at hj; subst hj
      exact ⟨_, _, rfl, hP, ⟨c0, c1, c2, c3, c4, rfl, cell_of_row (i := 0) h rfl, cell_of_row (i := 1) h rfl, cell_of_row (i := 2) h rfl, cell_of_row (i := 3) h rfl, cell_of_row (i := 4) h rfl⟩, hx⟩
    | 1, hj =>
      simp at hj; subst hj
      exact ⟨_, _, rfl, hP, ⟨d0, d1, d2, d3, d4, rfl, cell_of_row (i := 5) h rfl, cell_of_row (i := 6) h rfl, cell_of_row (i := 7) h rfl, cell_of_row (i := 8) h rfl, cell_of_row (i := 9) h rfl⟩, hy⟩
    | j + 2, hj => simp at hj⟩
theorem row3_of {P : Nat → Prop} {w : World} {b : Nat} {T : TypeId} {c0 c1 c2 c3 c4 d0 d1 d2 d3 d4 e0 e1 e2 e3 e4 : Value} {x y z : Tm} (h : w.heap[b]? = some (.cells #[c0, c1, c2, c3, c4, d0, d1, d2, d3, d4, e0, e1, e2, e3, e4] T (0, 0))) (hP : P b) (hx : TmAt P w x (.agg #[c0, c1, c2, c3, c4])) (hy : TmAt P w y (.agg #[d0, d1, d2, d3, d4])) (hz : TmAt P w z (.agg #[e0, e1, e2, e3, e4])) : TRow P w (some ⟨b, 0, none⟩) 3 3 [x, y, z] :=
  ⟨rfl, by decide, by decide, fun j u hj => by
    match j, hj with
    | 0, hj =>
      simp at hj; subst hj
      exact ⟨_, _, rfl, hP, ⟨c0, c1, c2, c3, c4, rfl, cell_of_row (i := 0) h rfl, cell_of_row (i := 1) h rfl, cell_of_row (i := 2) h rfl, cell_of_row (i := 3) h rfl, cell_of_row (i := 4) h rfl⟩, hx⟩
    | 1, hj =>
      simp at hj; subst hj
      exact ⟨_, _, rfl, hP, ⟨d0, d1, d2, d3, d4, rfl, cell_of_row (i := 5) h rfl, cell_of_row (i := 6) h rfl, cell_of_row (i := 7) h rfl, cell_of_row (i := 8) h rfl, cell_of_row (i := 9) h rfl⟩, hy⟩
    | 2, hj =>
      simp at hj; subst hj
      exact ⟨_, _, rfl, hP, ⟨e0, e1, e2, e3, e4, rfl, cell_of_row (i := 10) h rfl, cell_of_row (i := 11) h rfl, cell_of_row (i := 12) h rfl, cell_of_row (i := 13) h rfl, cell_of_row (i := 14) h rfl⟩, hz⟩
    | j + 3, hj => simp at hj⟩
theorem TmAt.leaf (P : Nat → Prop) (w : World) (k n : Int) (s : ByteArray) (hk : -128 ≤ k ∧ k ≤ 127) (hn : -9223372036854775808 ≤ n ∧ n ≤ 9223372036854775807) (hs : s.size ≤ maxLen) : TmAt P w (.mk k n s ⟨#[]⟩ []) (.agg #[.int .i8 k, .int .i64 n, .string s, .string ⟨#[]⟩, .slice none 0 0]) :=
  .of_row (.nil P w none 0) hk hn hs (by decide)

theorem here_of {W : World} {n : Nat} (o : Obj) (h : W.heap.size = n) : (W.alloc o).heap[n]? = some o ∧ (W.alloc o).heap.size = n + 1 := by subst h; exact ⟨block_alloc W o, World.size_alloc _ _⟩
theorem there_of {W : World} {n : Nat} {o' : Obj} (o : Obj) (h : W.heap[n]? = some o') : (W.alloc o).heap[n]? = some o' := (Below.heap_alloc _ _ _ (heap_lt h)).trans h
theorem set_five7 {w : World} {b : Nat} {T : TypeId} {a0 a1 a2 a3 a4 : Value} (c0 c1 c2 c3 c4 : Value) (h : w.heap[b]? = some (.cells #[a0, a1, a2, a3, a4] T (0, 0))) :
    (((((w.setCell ⟨b, 0, none⟩ c0).setCell ⟨b, 1, none⟩ c1).setCell ⟨b, 2, none⟩ c2).setCell ⟨b, 3, none⟩ c3).setCell ⟨b, 4, none⟩ c4).heap[b]? = some (.cells #[c0, c1, c2, c3, c4] T (0, 0)) ∧
    Mod (fun k => k = b) w (((((w.setCell ⟨b, 0, none⟩ c0).setCell ⟨b, 1, none⟩ c1).setCell ⟨b, 2, none⟩ c2).setCell ⟨b, 3, none⟩ c3).setCell ⟨b, 4, none⟩ c4) := by
  refine ⟨set_row c4 (i := 4) (set_row c3 (i := 3) (set_row c2 (i := 2) (set_row c1 (i := 1) (set_row c0 (i := 0) h)))), ?_⟩
  have m : ∀ (W : World) (i : Nat) (c : Value), Mod (fun k => k = b) W (W.setCell ⟨b, i, none⟩ c) := fun W i c => Mod.setCell _ _ _ (.inl rfl)
  exact ((((m _ 0 _).trans (m _ 1 _) (fun _ _ h => h)).trans (m _ 2 _) (fun _ _ h => h)).trans (m _ 3 _) (fun _ _ h => h)).trans (m _ 4 _) (fun _ _ h => h)

def fun7 (x y z : Tm) : Tm := .mk 0 0 ⟨#[]⟩ ⟨#[]⟩ [.mk 1 0 ⟨#[97]⟩ ⟨#[]⟩ [.mk 2 1 ⟨#[102]⟩ ⟨#[]⟩ [.mk 3 1 ⟨#[]⟩ ⟨#[]⟩ [x, y, z]]]]
theorem leafX (P : Nat → Prop) (w : World) : TmAt P w (.mk 5 0 ⟨#[88]⟩ ⟨#[]⟩ []) (.agg #[.int .i8 5, .int .i64 0, .string ⟨#[88]⟩, .string ⟨#[]⟩, .slice none 0 0]) := .leaf P w 5 0 ⟨#[88]⟩ (by omega) (by omega) (by decide)
def R07 (E : World → Prop) (w : World) (p : Value) (wx : World) : Prop := ∃ gB A cap, p = .pointer (some ⟨gB, 0, none⟩) ∧ wx.heap[gB]? = some (.cells #[.int .i8 0, .int .i64 0, .string ⟨#[]⟩, .string ⟨#[]⟩, .slice A 1 cap] 25 (0, 0)) ∧ TmAt (· < wx.heap.size) wx tree0 (.agg #[.int .i8 0, .int .i64 0, .string ⟨#[]⟩, .string ⟨#[]⟩, .slice A 1 cap]) ∧ Below w.heap.size w wx ∧ E wx

end Go.Proofs.YthbiaaeoajmlbaaGreatDoor
end
section
set_option linter.unusedVariables false
set_option linter.unusedSimpArgs false
namespace Go.Proofs.YthbiaaeoajmlbaaGreatDoor
open Go.RowKit Go.Shelf

theorem post_named {p : Program} {f : Func} {Q : Ending → World → Prop} {e : Exit} {a : Act} {w : World} (h : ∀ W, W = w → bodyPost p f Q e a W) : bodyPost p f Q e a w := h w rfl
theorem allocs7_at (w : World) (a b c d e f g : Obj) (W : World) (h : W = ((((((w.alloc a).alloc b).alloc c).alloc d).alloc e).alloc f).alloc g) :
    W.heap[w.heap.size]? = some a ∧ W.heap[w.heap.size + 1]? = some b ∧ W.heap[w.heap.size + 2]? = some c ∧ W.heap[w.heap.size + 3]? = some d ∧ W.heap[w.heap.size + 4]? = some e ∧ W.heap[w.heap.size + 5]? = some f ∧ W.heap[w.heap.size + 6]? = some g ∧ Below w.heap.size w W ∧ W.heap.size = w.heap.size + 7 := by
  obtain ⟨h0, z0⟩ := here_of a (rfl : w.heap.size = w.heap.size)
  obtain ⟨h1, z1⟩ := here_of b z0
  obtain ⟨h2, z2⟩ := here_of c z1
  obtain ⟨h3, z3⟩ := here_of d z2
  obtain ⟨h4, z4⟩ := here_of e z3
  obtain ⟨h5, z5⟩ := here_of f z4
  obtain ⟨h6, z6⟩ := here_of g z5
  subst h
  refine ⟨there_of _ (there_of _ (there_of _ (there_of _ (there_of _ (there_of _ h0))))), there_of _ (there_of _ (there_of _ (there_of _ (there_of _ h1)))), there_of _ (there_of _ (there_of _ (there_of _ h2))), there_of _ (there_of _ (there_of _ h3)), there_of _ (there_of _ h4), there_of _ h5, h6, ?_, z6⟩
  exact ((((((((Below.refl _ w).alloc (Nat.le_refl _) _).alloc (by omega) _).alloc (by omega) _).alloc (by omega) _).alloc (by omega) _).alloc (by omega) _).alloc (by omega) _)

set_option maxHeartbeats 8000000 in
set_option maxRecDepth 100000 in
theorem one9_any (x : Tm) (v : Value) (w : World) (hx : TmAt (· < w.heap.size) w x v) :
    Calls Tryz.prog 62 #[v] w fun e w' => ∃ r, e = .returned r ∧ TmAt (· < w'.heap.size) w' (one9 x) r ∧ Below w.heap.size w w' := by
  have HX := Lib.hid hx
  obtain ⟨X, hX⟩ : ∃ X, X = x := ⟨_, rfl⟩
  obtain ⟨k, n, s, t, l⟩ := x
  obtain ⟨A, cap, rfl, -⟩ := hx.parts
  rw [← hX] at HX
  rw [← hX]
  clear hx hX
  go_enter Tryz.func62, Tryz.ntmps62
  go_wp2_with fail
  simp only [Nat.add_assoc, Nat.reduceAdd]
  refine post_named (fun WF hWF => ?_)
  obtain ⟨-, r1, r2, -, r4, r5, r6, bf, zf⟩ := allocs7_at w _ _ _ _ _ _ _ WF hWF
  clear hWF
  have hX := HX.out.laterN bf
  have tr3 := row3_of (P := (· < WF.heap.size)) r2 (heap_lt r2) (.leaf (· < WF.heap.size) WF 5 0 ⟨#[88]⟩ (by omega) (by omega) (by decide)) (.leaf (· < WF.heap.size) WF 4 0 ⟨#[]⟩ (by omega) (by omega) (by decide)) hX
  have c1 := TmAt.of_row (k := 3) (n := 1) (s := ⟨#[]⟩) (t := ⟨#[]⟩) (l := [_, _, _]) tr3 (by omega) (by omega) (by decide) (by decide)
  have c2 := TmAt.of_row (k := 2) (n := 1) (s := ⟨#[102]⟩) (t := ⟨#[]⟩) (l := [_]) (row1_of (P := (· < WF.heap.size)) r4 (heap_lt r4) c1) (by omega) (by omega) (by decide) (by decide)
  have c3 := TmAt.of_row (k := 1) (n := 0) (s := ⟨#[109]⟩) (t := ⟨#[]⟩) (l := [_]) (row1_of (P := (· < WF.heap.size)) r5 (heap_lt r5) c2) (by omega) (by omega) (by decide) (by decide)
  have c4 := TmAt.of_row (k := 0) (n := 0) (s := ⟨#[]⟩) (t := ⟨#[]⟩) (l := [_]) (row1_of (P := (· < WF.heap.size)) r6 (heap_lt r6) c3) (by omega) (by omega) (by decide) (by decide)
  have HC := Lib.hid (And.intro c4 bf)
  have w0 := cell_of_row (i := 0) r1 rfl
  have w1 := cell_of_row (i := 1) r1 rfl
  have w2 := cell_of_row (i := 2) r1 rfl
  have w3 := cell_of_row (i := 3) r1 rfl
  have w4 := cell_of_row (i := 4) r1 rfl
  clear tr3 c1 c2 c3 c4 hX
  refine bodyPost_ret (v := .agg #[.int .i8 0, .int .i64 0, .string ⟨#[]⟩, .string ⟨#[]⟩, .slice (some ⟨w.heap.size + 6, 0, none⟩) 1 1]) (by simp [results, Tryz.f62, go_sem, w0, w1, w2, w3, w4]) rfl ⟨_, rfl, HC.out.1, HC.out.2⟩

theorem fits_one9 (e : Tm) (h : e.nodes ≤ 4000) : (one9 e).nodes ≤ 8200 := by
  unfold one9
  simp only [Tm.nodes_mk, Tm.pres, Tm.pre, List.length_append, List.length_cons, List.length_nil]
  have : e.pre.length = e.nodes := rfl
  omega
structure Env9 (w : World) : Prop where
  env : Env7 w
  err : w.cell? ⟨0, 0, none⟩ = some (.iface 197 (.agg #[.pointer (some ⟨hb9, 83, none⟩)]))
theorem Env9.under {w w' : World} (h : Env9 w) (hb : Below w.heap.size w w') : Env9 w' := by
  refine ⟨h.env.under hb, ?_⟩
  have hl : 0 < w.heap.size := by
    rcases Nat.eq_zero_or_pos w.heap.size with h0 | h0
    · have he := h.err
      have hn : w.heap[0]? = none := by rw [Array.getElem?_eq_none]; omega
      simp [World.cell?, hn] at he
    · exact h0
  exact (hb.cell (p := ⟨0, 0, none⟩) hl).trans h.err
end Go.Proofs.YthbiaaeoajmlbaaGreatDoor
end
section
set_option linter.unusedVariables false
set_option linter.unusedSimpArgs false
namespace Go.Proofs.YthbiaaeoajmlbaaGreatDoor
open Go.RowKit Go.Shelf

theorem chkOne9 (x : Tm) (r : Value) (w : World) (a b : Int) (hT : TmAt (· < w.heap.size) w (one9 x) r) (hN : x.nodes ≤ 4000) (hE : Env9 w) (hc : chk9 (one9 x) = (b, a.toNat)) (ha : 0 ≤ a) :
    Calls Tryz.prog 15 #[r] w fun e w' => e = .returned (.tuple #[.int .i64 a, .int .i64 b]) ∧ Below w.heap.size w w' := by
  have h := check9_any (one9 x) r w hT (fits_one9 x hN) hE.env hE.err
  rw [hc] at h
  rwa [show ((a.toNat : Nat) : Int) = a from Int.toNat_of_nonneg ha] at h
set_option maxHeartbeats 8000000 in
set_option maxRecDepth 100000 in
theorem wakes9_any (w : World) (hE : Env9 w) :
    Calls Tryz.prog 14 #[] w fun e w' => e = .returned (.bool true) ∧ Below w.heap.size w w' := by
  have HE := Lib.hid hE
  clear hE
  go_enter Tryz.func14, Tryz.ntmps14
  go_wp2_with fail
  refine (one9_any (vr9 ⟨#[89]⟩) _ w (.leaf _ w 5 0 ⟨#[89]⟩ (by omega) (by omega) (by decide))).mono ?_
  rintro e w1 ⟨r1, rfl, ht1, hb1⟩
  have HT1 := Lib.hid ht1
  have HB1 := Lib.hid hb1
  clear ht1 hb1
  go_wp2_with fail
  refine (chkOne9 (vr9 ⟨#[89]⟩) r1 w1 6 90 HT1.out (by decide) (HE.out.under HB1.out) chk9_Y (by decide)).mono ?_
  rintro e w2 ⟨rfl, hb2⟩
  have HB2 := Lib.hid (HB1.out.trans (hb2.mono HB1.out.size))
  clear hb2
  go_wp2_with fail
  refine (one9_any (.mk 14 0 ⟨#[103]⟩ ⟨#[]⟩ []) _ w2 (.leaf _ w2 14 0 ⟨#[103]⟩ (by omega) (by omega) (by decide))).mono ?_
  rintro e w3 ⟨r3, rfl, ht3, hb3⟩
  have HT3 := Lib.hid ht3
  have HB3 := Lib.hid (HB2.out.trans (hb3.mono HB2.out.size))
  clear ht3 hb3
  go_wp2_with fail
  refine (chkOne9 (.mk 14 0 ⟨#[103]⟩ ⟨#[]⟩ []) r3 w3 6 92 HT3.out (by decide) (HE.out.under HB3.out) chk9_g (by decide)).mono ?_
  rintro e w4 ⟨rfl, hb4⟩
  have HB4 := Lib.hid (HB3.out.trans (hb4.mono HB3.out.size))
  clear hb4
  go_wp2_with fail
  refine (one9_any (vr9 ⟨#[88]⟩) _ w4 (.leaf _ w4 5 0 ⟨#[88]⟩ (by omega) (by omega) (by decide))).mono ?_
  rintro e w5 ⟨r5, rfl, ht5, hb5⟩
  have HT5 := Lib.hid ht5
  have HB5 := Lib.hid (HB4.out.trans (hb5.mono HB4.out.size))
  clear ht5 hb5
  go_wp2_with fail
  refine (chkOne9 (vr9 ⟨#[88]⟩) r5 w5 0 0 HT5.out (by decide) (HE.out.under HB5.out) chk9_X (by decide)).mono ?_
  rintro e w6 ⟨rfl, hb6⟩
  have HB6 := Lib.hid (HB5.out.trans (hb6.mono HB5.out.size))
  clear hb6
  go_wp2_with fail
  refine (built_any ⟨#[115, 101, 108, 102]⟩ 0 w6).mono ?_
  rintro e w7 ⟨rfl, rfl⟩
  rw [show builtB ⟨#[115, 101, 108, 102]⟩ 0 = true from by decide]
  go_wp2_with fail
  refine (built_any ⟨#[115, 101, 108, 102]⟩ 1 w7).mono ?_
  rintro e w8 ⟨rfl, rfl⟩
  rw [show builtB ⟨#[115, 101, 108, 102]⟩ 1 = false from by decide]
  go_wp2_with fail
  go_ret
  exact ⟨rfl, HB6.out⟩
end Go.Proofs.YthbiaaeoajmlbaaGreatDoor
end
section
set_option linter.unusedVariables false
namespace Go
open Go.RowKit
section
variable {P : Program} {C : World → Prop}
theorem wp_region_qC {id : Nat} {Q : Exit → Act → World → Prop} {a : Act} {w : World} {l : List Oper} (hm : P.follows .mixedOrders = true) (hB : Region.lexB .any l.toArray = true) (hC : C w.drew)
    (h : wpQuiet P l.toArray C (fun a' => ∀ w', C w' → Q .normal a' w') l a) : (Code.region id l.toArray true).wp P Q a w :=
  wp_region_quiet (C := C) hm hB hC (by simpa using h)
theorem wpqC {ops : Array Oper} {Q : Act → Prop} {a : Act} {o : Oper} {rest : List Oper} {v : Value} (hw : Region.wanted o (yielded ops a.tmps) = true) (h : ∀ V, C V → o.quietAt P a C V v) (hr : wpQuiet P ops C Q rest (a.put o.dst v)) : wpQuiet P ops C Q (o :: rest) a :=
  wpQuiet_step fun K hK => by rw [if_pos hw]; exact ⟨v, h, hK _ hr⟩
theorem wpqC_skip {ops : Array Oper} {Q : Act → Prop} {a : Act} {o : Oper} {rest : List Oper} (hw : Region.wanted o (yielded ops a.tmps) = false) (h : wpQuiet P ops C Q rest (a.put o.dst undef)) : wpQuiet P ops C Q (o :: rest) a :=
  wpQuiet_step fun K hK => by rw [if_neg (by rw [hw]; exact Bool.false_ne_true)]; exact hK _ h
end
theorem drewC (w : World) : Below w.heap.size w w.drew := ⟨rfl, rfl, rfl, Nat.le_refl _, fun _ _ => rfl⟩
end Go
end
section
set_option linter.unusedVariables false
set_option linter.unusedSimpArgs false
namespace Go.Proofs.YthbiaaeoajmlbaaGreatDoor
open Go.RowKit

theorem deeps_take7 : ∀ {l : List Tm} {j : Nat} {y : Tm}, l[j]? = some y → Tm.deeps (l.take (j + 1)) = max (Tm.deeps (l.take j)) y.deep
  | [], j, y, h => by simp at h
  | x :: l, 0, y, h => by
    simp at h; subst h
    simp [Tm.deeps]
  | x :: l, j + 1, y, h => by
    have h' : l[j]? = some y := by simpa using h
    rw [List.take_succ_cons, List.take_succ_cons, Tm.deeps, Tm.deeps, deeps_take7 h']
    omega
set_option maxHeartbeats 1000000 in
set_option maxRecDepth 100000 in
theorem rdeep_any (x : Tm) : ∀ (v : Value) (most : Nat) (w : World), TmAt (· < w.heap.size) w x v → 1 ≤ most → most ≤ 1000000 →
    Calls Tryz.prog 79 #[v, .int .i64 most] w fun e w' => e = .returned (.int .i64 (min x.deep most : Nat)) ∧ Below w.heap.size w w' := by
  induction x using Tm.ind with
  | h k n s t l ih =>
    intro v most w hT h1 hmost
    obtain ⟨A, cap, rfl, hR, hk, hn, hs, ht⟩ := hT.parts
    have hlen := hR.max
    unfold maxLen at hlen
    have HR := Lib.hid hR
    have HIH := Lib.hid ih
    clear hR ih hT
    obtain ⟨w1, hw1⟩ : ∃ w1, w1 = w.alloc (.cells #[.int .i8 k, .int .i64 n, .string s, .string t, .slice A l.length cap] 25) := ⟨_, rfl⟩
    have hB1 : Below w.heap.size w w1 := by rw [hw1]; exact (Below.refl _ w).alloc (Nat.le_refl _) _
    have hs1 : w1.heap.size = w.heap.size + 1 := by rw [hw1]; simp
    have hbox : w1.heap[w.heap.size]? = some (.cells #[.int .i8 k, .int .i64 n, .string s, .string t, .slice A l.length cap] 25) := by rw [hw1]; exact block_alloc _ _
    have HB1 := Lib.hid hB1
    have HS1 := Lib.hid hs1
    clear hB1 hs1
    go_enter Tryz.func79, Tryz.ntmps79
    go_wp2_with fail
    rw [← hw1]
    clear hw1
    have HX := Lib.hid hbox
    clear hbox
    go_loopw [5, 6] (fun r i wr => ∃ j : Nat, j ≤ l.length ∧ i = .int .i64 j ∧ (∃ q : Nat, r = .int .i64 q ∧ q = min (1 + Tm.deeps (l.take j)) most) ∧ Below w1.heap.size w1 wr) (fun _ i _ => l.length - (intOf i).toNat)
    case atStart => exact ⟨0, Nat.zero_le _, rfl, ⟨1, rfl, by simp [Tm.deeps]; omega⟩, Below.refl _ _⟩
    case round =>
      obtain ⟨j, hj, rfl, ⟨q, rfl, hq⟩, hB⟩ := hrel
      have hbw : wr.heap[w.heap.size]? = _ := (hB.block w.heap.size (by rw [HS1.out]; omega)).trans HX.out
      have hc4 : wr.cell? ⟨w.heap.size, 4, none⟩ = some (.slice A l.length cap) := cell_of_row hbw rfl
      have hq1 : 1 ≤ q := by omega
      have hq2 : q ≤ most := by omega
      have HQ := Lib.hid hq
      have HB := Lib.hid hB
      clear hq hB hbw
      by_cases hlt : j < l.length
      · by_cases hm : 1 < most
        · obtain ⟨y, hy⟩ : ∃ y, l[j]? = some y := ⟨l[j], List.getElem?_eq_getElem hlt⟩
          obtain ⟨ad, u, rfl, had, hE, hTy⟩ := HR.out.at_ j y hy
          have hEr : ElemAt wr ad j u := hE.keep ((HB.out.block ad.block (by rw [HS1.out]; omega)).trans (HB1.out.block ad.block had))
          have hTr : TmAt (· < wr.heap.size) wr y u := hTy.keep (fun b hb => (HB.out.block b (by rw [HS1.out]; omega)).trans (HB1.out.block b hb)) (fun b hb => by have := HB1.out.size; have := HB.out.size; omega)
          obtain ⟨c0, c1, c2, c3, c4, rfl, e0, e1, e2, e3, e4⟩ := hEr
          have hmem := List.mem_of_getElem? hy
          have hpy := Tm.pre_ne y
          have HY := Lib.hid hy
          clear hE hTy hy
          go_wp2_with fail
          have he : (most : Int) - 1 = ((most - 1 : Nat) : Int) := by omega
          rw [he]
          refine (HIH.out y hmem _ (most - 1) _ hTr (by omega) (by omega)).mono ?_
          rintro e w2 ⟨rfl, b2⟩
          have hr : max q (1 + min y.deep (most - 1)) = min (1 + Tm.deeps (l.take (j + 1))) most := by
            rw [deeps_take7 HY.out]
            have := HQ.out
            omega
          have HRR := Lib.hid hr
          have hle : min y.deep (most - 1) ≤ 1000000 := by omega
          clear hr he
          generalize min y.deep (most - 1) = z at HRR hle ⊢
          go_wp2_with fail
          go_roundw
          case rel => exact ⟨j + 1, by omega, by go_num, ⟨max q (1 + z), by go_num, HRR.out⟩, HB.out.trans (b2.mono HB.out.size)⟩
          case measure => simp [intOf]; omega
        · obtain rfl : most = 1 := by omega
          go_wp2_with fail
          go_ret
          refine ⟨ret_int ?_, HB1.out.trans (HB.out.mono (by rw [HS1.out]; omega))⟩
          have : 1 ≤ (Tm.mk k n s t l).deep := by rw [Tm.deep]; omega
          omega
      · obtain rfl : j = l.length := by omega
        go_wp2_with fail
        go_ret
        refine ⟨ret_int ?_, HB1.out.trans (HB.out.mono (by rw [HS1.out]; omega))⟩
        have h := HQ.out
        rw [List.take_length] at h
        rw [Tm.deep]
        omega

set_option maxHeartbeats 1000000 in
set_option maxRecDepth 100000 in
theorem rSizeN_any (x : Tm) (v : Value) (w : World) (hT : TmAt (· < w.heap.size) w x v) :
    Calls Tryz.prog 29 #[v] w fun e w' => e = .returned (.tuple #[.int .i64 (min x.nodes 4097 : Nat), .int .i64 (min x.deep 65 : Nat)]) ∧ Below w.heap.size w w' := by
  obtain ⟨X, hX⟩ : ∃ X, X = x := ⟨_, rfl⟩
  obtain ⟨k, n, s, t, l⟩ := x
  obtain ⟨A, cap, rfl, -⟩ := hT.parts
  rw [← hX] at hT
  rw [← hX]
  obtain ⟨w1, hw1⟩ : ∃ w1, w1 = w.alloc (.cells #[.int .i8 k, .int .i64 n, .string s, .string t, .slice A l.length cap] 25) := ⟨_, rfl⟩
  have hB1 : Below w.heap.size w w1 := by rw [hw1]; exact (Below.refl _ w).alloc (Nat.le_refl _) _
  have hbox : w1.heap[w.heap.size]? = some (.cells #[.int .i8 k, .int .i64 n, .string s, .string t, .slice A l.length cap] 25) := by rw [hw1]; exact block_alloc _ _
  have HT := Lib.hid (hT.laterN hB1)
  have HB1 := Lib.hid hB1
  have HX := Lib.hid hbox
  clear hT hB1 hX hbox
  go_enter Tryz.func29, Tryz.ntmps29
  go_wp2_with fail
  rw [← hw1]
  clear hw1
  refine wp_region_qC (C := fun V => Below w1.heap.size w1 V) (by kernel_rfl) (by kernel_rfl) (drewC w1) ?_
  refine wpqC (v := ?_) (by kernel_rfl) ?_ ?_; rotate_left; (intro V hV; (try dsimp only at hV); have hx := (hV.block _ (heap_lt HX.out)).trans HX.out; have x0 := cell_of_row (i := 0) hx rfl; have x1 := cell_of_row (i := 1) hx rfl; have x2 := cell_of_row (i := 2) hx rfl; have x3 := cell_of_row (i := 3) hx rfl; have x4 := cell_of_row (i := 4) hx rfl; go_simp; first | done | with_reducible rfl); (try simp only [Act.put, List.setIfInBounds_toArray, List.set_cons_zero, List.set_cons_succ])
  refine wpqC (v := .int .i64 (min X.nodes 4097 : Nat)) (by kernel_rfl) ?_ ?_; (· intro V hV; (try dsimp only at hV); go_simp; refine (rnodes_any X _ 4097 V (HT.out.laterN hV) (by omega) (by omega)).mono ?_; rintro e V2 ⟨rfl, b2⟩; exact ⟨rfl, hV.trans (b2.mono hV.size)⟩); (try simp only [Act.put, List.setIfInBounds_toArray, List.set_cons_zero, List.set_cons_succ])
  refine wpqC (v := ?_) (by kernel_rfl) ?_ ?_; rotate_left; (intro V hV; (try dsimp only at hV); go_simp; first | done | with_reducible rfl); (try simp only [Act.put, List.setIfInBounds_toArray, List.set_cons_zero, List.set_cons_succ])
  refine wpqC (v := ?_) (by kernel_rfl) ?_ ?_; rotate_left; (intro V hV; (try dsimp only at hV); have hx := (hV.block _ (heap_lt HX.out)).trans HX.out; have x0 := cell_of_row (i := 0) hx rfl; have x1 := cell_of_row (i := 1) hx rfl; have x2 := cell_of_row (i := 2) hx rfl; have x3 := cell_of_row (i := 3) hx rfl; have x4 := cell_of_row (i := 4) hx rfl; go_simp; first | done | with_reducible rfl); (try simp only [Act.put, List.setIfInBounds_toArray, List.set_cons_zero, List.set_cons_succ])
  refine wpqC (v := .int .i64 (min X.deep 65 : Nat)) (by kernel_rfl) ?_ ?_; (· intro V hV; (try dsimp only at hV); go_simp; refine (rdeep_any X _ 65 V (HT.out.laterN hV) (by omega) (by omega)).mono ?_; rintro e V2 ⟨rfl, b2⟩; exact ⟨rfl, hV.trans (b2.mono hV.size)⟩); (try simp only [Act.put, List.setIfInBounds_toArray, List.set_cons_zero, List.set_cons_succ])
  refine wpqC (v := ?_) (by kernel_rfl) ?_ ?_; rotate_left; (intro V hV; (try dsimp only at hV); go_simp; first | done | with_reducible rfl); (try simp only [Act.put, List.setIfInBounds_toArray, List.set_cons_zero, List.set_cons_succ])
  refine wpqC (v := ?_) (by kernel_rfl) ?_ ?_; rotate_left; (intro V hV; (try dsimp only at hV); go_simp; first | done | with_reducible rfl); (try simp only [Act.put, List.setIfInBounds_toArray, List.set_cons_zero, List.set_cons_succ])
  refine wpqC (v := ?_) (by kernel_rfl) ?_ ?_; rotate_left; (intro V hV; (try dsimp only at hV); go_simp; first | done | with_reducible rfl); (try simp only [Act.put, List.setIfInBounds_toArray, List.set_cons_zero, List.set_cons_succ])
  refine wpQuiet_nil ?_
  intro V9 h9
  (try dsimp only at h9)
  have HB9 := Lib.hid h9
  clear h9
  go_wp2_with fail
  all_goals first
    | (exfalso; omega)
    | exact bodyPost_ret (v := .tuple #[.int .i64 (min X.nodes 4097 : Nat), .int .i64 (min X.deep 65 : Nat)]) (by simp [results, Tryz.f29, go_sem]) rfl ⟨rfl, HB1.out.trans (HB9.out.mono HB1.out.size)⟩
set_option maxHeartbeats 1000000 in
set_option maxRecDepth 100000 in
theorem rFits_any (x : Tm) (v : Value) (w : World) (hT : TmAt (· < w.heap.size) w x v) :
    Calls Tryz.prog 71 #[v] w fun e w' => e = .returned (.bool (fitsB x)) ∧ Below w.heap.size w w' := by
  obtain ⟨X, hX⟩ : ∃ X, X = x := ⟨_, rfl⟩
  obtain ⟨k, n, s, t, l⟩ := x
  obtain ⟨A, cap, rfl, -⟩ := hT.parts
  rw [← hX] at hT
  rw [← hX]
  obtain ⟨w1, hw1⟩ : ∃ w1, w1 = w.alloc (.cells #[.int .i8 k, .int .i64 n, .string s, .string t, .slice A l.length cap] 25) := ⟨_, rfl⟩
  have hB1 : Below w.heap.size w w1 := by rw [hw1]; exact (Below.refl _ w).alloc (Nat.le_refl _) _
  have HT := Lib.hid (hT.laterN hB1)
  have HB1 := Lib.hid hB1
  have HF : Hid (fitsB X = (decide (min X.nodes 4097 ≤ 4096) && decide (min X.deep 65 ≤ 64))) := Lib.hid (by
    unfold fitsB
    rw [Bool.eq_iff_iff]
    simp only [decide_eq_true_eq, Bool.and_eq_true]
    omega)
  clear hT hB1 hX
  go_enter Tryz.func71, Tryz.ntmps71
  go_wp2_with fail
  rw [← hw1]
  clear hw1
  refine (rSizeN_any X _ w1 HT.out).mono ?_
  rintro e w2 ⟨rfl, b2⟩
  have HB2 := Lib.hid (HB1.out.trans (b2.mono HB1.out.size))
  clear b2
  generalize min X.nodes 4097 = z1 at HF ⊢
  generalize min X.deep 65 = z2 at HF ⊢
  go_wp2_with fail
  all_goals
    go_ret
    refine ⟨ret_bool ?_, HB2.out⟩
    rw [HF.out]
    rw [Bool.eq_iff_iff]
    simp only [decide_eq_true_eq, Bool.and_eq_true, Bool.false_eq_true, false_iff]
    omega
end Go.Proofs.YthbiaaeoajmlbaaGreatDoor
end
section
set_option linter.unusedVariables false
namespace Go.Proofs.YthbiaaeoajmlbaaGreatDoor
open Go.RowKit

theorem kindN0 (c : Int) : kindN c = 0 ↔ ¬ ((97 ≤ c ∧ c ≤ 122) ∨ (65 ≤ c ∧ c ≤ 90) ∨ (48 ≤ c ∧ c ≤ 57) ∨ c = 95) := by
  unfold kindN
  split <;> (try split) <;> (try split) <;> (try split) <;> omega
set_option maxHeartbeats 2000000 in
theorem rname7_any (s : ByteArray) (w : World) (hs : s.size ≤ maxLen) :
    Calls Tryz.prog 60 #[.string s] w fun e w' => e = .returned (.bool (nameB s 3)) ∧ w = w' := by
  unfold maxLen at hs
  by_cases h0 : 0 < s.size
  · have hI := Lib.hid (nameB_iff s 3 h0)
    have hL := Lib.hid (fun (h : ∀ j, j < s.size → kd s j ≠ 0) => prefN_eq s s.size (Nat.le_refl _) h (.inl rfl))
    have hP := Lib.hid (fun (k : Nat) (hk : k < s.size) (h : ∀ j, j < k → kd s j ≠ 0) (hz : kd s k = 0) => prefN_eq s k (Nat.le_of_lt hk) h (.inr ⟨hk, hz⟩))
    by_cases h32 : s.size ≤ 32
    · by_cases hf : kindN ((s[0]).toNat : Int) = 3
      · have hf2 := (kindN3 _).1 hf
        have HF := Lib.hid hf
        clear hf
        go_enter Tryz.func60, Tryz.ntmps60
        go_wp2
        all_goals
          go_loop [3] (fun i => ∃ k : Nat, k ≤ s.size ∧ i = .int .i64 k ∧ Hid (∀ j, j < k → kd s j ≠ 0)) (fun i => s.size - (intOf i).toNat)
          case atStart => exact ⟨0, Nat.zero_le _, rfl, fun j h => by omega⟩
          case round =>
            obtain ⟨k, hk, rfl, hd⟩ := hrel
            by_cases hlt : k < s.size
            · have hkd := kd_at s k hlt
              have hz0 := kindN0 ((s[k]).toNat : Int)
              by_cases hz : kindN ((s[k]).toNat : Int) = 0
              · have hn := hz0.1 hz
                have HZ := Lib.hid (hkd.symm.trans hz)
                clear hz0 hz hkd
                go_wp2
                all_goals first
                  | (exfalso; first | omega | (simp only [bne_eq_false_iff_eq] at *; omega))
                  | (go_ret; refine ⟨ret_bool ?_, rfl⟩; rw [eq_comm, Bool.eq_false_iff]; intro hb; have h1 := ((hI.out.1 hb).2.2); have h2 := hP.out k hlt hd.out HZ.out; omega)
              · have hn : ¬ ¬ _ := fun h => hz (hz0.2 h)
                have HZ := Lib.hid (fun h => hz (hkd.trans h))
                clear hz0 hz hkd
                go_wp2
                all_goals first
                  | (exfalso; first | omega | (simp only [bne_eq_false_iff_eq] at *; omega))
                  | (go_round
                     case rel => exact ⟨k + 1, by omega, by go_num, fun j hj => by
                       by_cases e : j = k
                       · subst e; exact HZ.out
                       · exact hd.out j (by omega)⟩
                     case measure => simp [intOf]; omega)
            · go_wp2
              go_ret
              refine ⟨ret_bool ?_, rfl⟩
              rw [eq_comm, hI.out]
              exact ⟨h32, HF.out, hL.out fun j hj => hd.out j (by omega)⟩
      · have hf2 := fun h => hf ((kindN3 _).2 h)
        have HF : Hid (nameB s 3 = false) := Lib.hid (by rw [Bool.eq_false_iff]; intro hb; exact hf (hI.out.1 hb).2.1)
        clear hf
        go_enter Tryz.func60, Tryz.ntmps60
        go_wp2
        all_goals first
          | (exfalso; apply hf2; first | omega | (simp only [bne_eq_false_iff_eq] at *; omega))
          | (go_ret; exact ⟨ret_bool HF.out.symm, rfl⟩)
    · have HF : Hid (nameB s 3 = false) := Lib.hid (by rw [Bool.eq_false_iff]; intro hb; exact h32 (hI.out.1 hb).1)
      have h33 : 32 < s.size := by omega
      clear h32
      go_enter Tryz.func60, Tryz.ntmps60
      go_wp2
      all_goals first
        | (exfalso; omega)
        | (go_ret; exact ⟨ret_bool HF.out.symm, rfl⟩)
  · have HZ := Lib.hid (nameB_0 s 3 h0)
    go_enter Tryz.func60, Tryz.ntmps60
    have h00 : s.size < 1 := by omega
    go_wp2
    all_goals first
      | (exfalso; omega)
      | (go_ret; exact ⟨ret_bool HZ.out.symm, rfl⟩)
end Go.Proofs.YthbiaaeoajmlbaaGreatDoor
end
