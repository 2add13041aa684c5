/- Layer 7: the two texts of the document, from contracts. -/
import Derived.Test.YtcallgoglnkkiaaGreatDoorAstT
import Derived.Deep.RegionHeld
import Derived.OrdersHeld
set_option linter.unusedVariables false
namespace Go.Proofs.YtcallgoglnkkiaaGreatDoor
open Go.RowKit

/-- Rows of one, two, three parts, just built. -/
theorem row1_of {P : Nat → Prop} {w : World} {b : Nat} {T : TypeId} {c0 c1 c2 c3 c4 : Value} {x : Tm} (h : w.heap[b]? = some (.cells #[c0, c1, c2, c3, c4] T (0, 0))) (hP : P b) (hx : TmAt P w x (.agg #[c0, c1, c2, c3, c4])) : TRow P w (some ⟨b, 0, none⟩) 1 1 [x] :=
  ⟨rfl, by decide, by decide, fun j y hj => by
    match j, hj with
    | 0, hj =>
      simp at hj; subst hj
      exact ⟨_, _, rfl, hP, ⟨c0, c1, c2, c3, c4, rfl, cell_of_row (i := 0) h rfl, cell_of_row (i := 1) h rfl, cell_of_row (i := 2) h rfl, cell_of_row (i := 3) h rfl, cell_of_row (i := 4) h rfl⟩, hx⟩
    | j + 1, hj => simp at hj⟩
theorem row2_of {P : Nat → Prop} {w : World} {b : Nat} {T : TypeId} {c0 c1 c2 c3 c4 d0 d1 d2 d3 d4 : Value} {x y : Tm} (h : w.heap[b]? = some (.cells #[c0, c1, c2, c3, c4, d0, d1, d2, d3, d4] T (0, 0))) (hP : P b) (hx : TmAt P w x (.agg #[c0, c1, c2, c3, c4])) (hy : TmAt P w y (.agg #[d0, d1, d2, d3, d4])) : TRow P w (some ⟨b, 0, none⟩) 2 2 [x, y] :=
  ⟨rfl, by decide, by decide, fun j z hj => by
    match j, hj with
    | 0, hj =>
      simp at hj; subst hj
      exact ⟨_, _, rfl, hP, ⟨c0, c1, c2, c3, c4, rfl, cell_of_row (i := 0) h rfl, cell_of_row (i := 1) h rfl, cell_of_row (i := 2) h rfl, cell_of_row (i := 3) h rfl, cell_of_row (i := 4) h rfl⟩, hx⟩
    | 1, hj =>
      simp at hj; subst hj
      exact ⟨_, _, rfl, hP, ⟨d0, d1, d2, d3, d4, rfl, cell_of_row (i := 5) h rfl, cell_of_row (i := 6) h rfl, cell_of_row (i := 7) h rfl, cell_of_row (i := 8) h rfl, cell_of_row (i := 9) h rfl⟩, hy⟩
    | j + 2, hj => simp at hj⟩
theorem row3_of {P : Nat → Prop} {w : World} {b : Nat} {T : TypeId} {c0 c1 c2 c3 c4 d0 d1 d2 d3 d4 e0 e1 e2 e3 e4 : Value} {x y z : Tm} (h : w.heap[b]? = some (.cells #[c0, c1, c2, c3, c4, d0, d1, d2, d3, d4, e0, e1, e2, e3, e4] T (0, 0))) (hP : P b) (hx : TmAt P w x (.agg #[c0, c1, c2, c3, c4])) (hy : TmAt P w y (.agg #[d0, d1, d2, d3, d4])) (hz : TmAt P w z (.agg #[e0, e1, e2, e3, e4])) : TRow P w (some ⟨b, 0, none⟩) 3 3 [x, y, z] :=
  ⟨rfl, by decide, by decide, fun j u hj => by
    match j, hj with
    | 0, hj =>
      simp at hj; subst hj
      exact ⟨_, _, rfl, hP, ⟨c0, c1, c2, c3, c4, rfl, cell_of_row (i := 0) h rfl, cell_of_row (i := 1) h rfl, cell_of_row (i := 2) h rfl, cell_of_row (i := 3) h rfl, cell_of_row (i := 4) h rfl⟩, hx⟩
    | 1, hj =>
      simp at hj; subst hj
      exact ⟨_, _, rfl, hP, ⟨d0, d1, d2, d3, d4, rfl, cell_of_row (i := 5) h rfl, cell_of_row (i := 6) h rfl, cell_of_row (i := 7) h rfl, cell_of_row (i := 8) h rfl, cell_of_row (i := 9) h rfl⟩, hy⟩
    | 2, hj =>
      simp at hj; subst hj
      exact ⟨_, _, rfl, hP, ⟨e0, e1, e2, e3, e4, rfl, cell_of_row (i := 10) h rfl, cell_of_row (i := 11) h rfl, cell_of_row (i := 12) h rfl, cell_of_row (i := 13) h rfl, cell_of_row (i := 14) h rfl⟩, hz⟩
    | j + 3, hj => simp at hj⟩
theorem TmAt.leaf (P : Nat → Prop) (w : World) (k n : Int) (s : ByteArray) (hk : -128 ≤ k ∧ k ≤ 127) (hn : -9223372036854775808 ≤ n ∧ n ≤ 9223372036854775807) (hs : s.size ≤ maxLen) : TmAt P w (.mk k n s ⟨#[]⟩ []) (.agg #[.int .i8 k, .int .i64 n, .string s, .string ⟨#[]⟩, .slice none 0 0]) :=
  .of_row (.nil P w none 0) hk hn hs (by decide)

set_option maxHeartbeats 4000000 in
set_option maxRecDepth 100000 in
theorem name7_any (s : ByteArray) (w : World) : Calls Tryz.prog 22 #[.string s] w fun e w' => e = .returned (.agg #[.int .i8 5, .int .i64 0, .string s, .string ⟨#[]⟩, .slice none 0 0]) ∧ Below w.heap.size w w' := by
  have x0 : (w.alloc (.cells #[.int .i8 0, .int .i64 0, .string ⟨#[]⟩, .string ⟨#[]⟩, .slice none 0 0] 25)).cell? ⟨w.heap.size, 0, none⟩ = some (.int .i8 0) := cell_of_row (block_alloc _ _) rfl
  have xf0 : (w.alloc (.cells #[.int .i8 0, .int .i64 0, .string ⟨#[]⟩, .string ⟨#[]⟩, .slice none 0 0] 25)).frozen? ⟨w.heap.size, 0, none⟩ = false := free_of_row (block_alloc _ _)
  have x1 : (w.alloc (.cells #[.int .i8 0, .int .i64 0, .string ⟨#[]⟩, .string ⟨#[]⟩, .slice none 0 0] 25)).cell? ⟨w.heap.size, 1, none⟩ = some (.int .i64 0) := cell_of_row (block_alloc _ _) rfl
  have xf1 : (w.alloc (.cells #[.int .i8 0, .int .i64 0, .string ⟨#[]⟩, .string ⟨#[]⟩, .slice none 0 0] 25)).frozen? ⟨w.heap.size, 1, none⟩ = false := free_of_row (block_alloc _ _)
  have x2 : (w.alloc (.cells #[.int .i8 0, .int .i64 0, .string ⟨#[]⟩, .string ⟨#[]⟩, .slice none 0 0] 25)).cell? ⟨w.heap.size, 2, none⟩ = some (.string ⟨#[]⟩) := cell_of_row (block_alloc _ _) rfl
  have xf2 : (w.alloc (.cells #[.int .i8 0, .int .i64 0, .string ⟨#[]⟩, .string ⟨#[]⟩, .slice none 0 0] 25)).frozen? ⟨w.heap.size, 2, none⟩ = false := free_of_row (block_alloc _ _)
  have x3 : (w.alloc (.cells #[.int .i8 0, .int .i64 0, .string ⟨#[]⟩, .string ⟨#[]⟩, .slice none 0 0] 25)).cell? ⟨w.heap.size, 3, none⟩ = some (.string ⟨#[]⟩) := cell_of_row (block_alloc _ _) rfl
  have xf3 : (w.alloc (.cells #[.int .i8 0, .int .i64 0, .string ⟨#[]⟩, .string ⟨#[]⟩, .slice none 0 0] 25)).frozen? ⟨w.heap.size, 3, none⟩ = false := free_of_row (block_alloc _ _)
  have x4 : (w.alloc (.cells #[.int .i8 0, .int .i64 0, .string ⟨#[]⟩, .string ⟨#[]⟩, .slice none 0 0] 25)).cell? ⟨w.heap.size, 4, none⟩ = some (.slice none 0 0) := cell_of_row (block_alloc _ _) rfl
  have xf4 : (w.alloc (.cells #[.int .i8 0, .int .i64 0, .string ⟨#[]⟩, .string ⟨#[]⟩, .slice none 0 0] 25)).frozen? ⟨w.heap.size, 4, none⟩ = false := free_of_row (block_alloc _ _)
  go_enter Tryz.func22, Tryz.ntmps22
  go_wp2_with fail
  refine bodyPost_ret (v := .agg #[.int .i8 5, .int .i64 0, .string s, .string ⟨#[]⟩, .slice none 0 0]) (by simp [results, Tryz.f22, go_sem]) rfl ⟨rfl, (Below.refl _ w).alloc (Nat.le_refl _) _⟩

theorem here_of {W : World} {n : Nat} (o : Obj) (h : W.heap.size = n) : (W.alloc o).heap[n]? = some o ∧ (W.alloc o).heap.size = n + 1 := by subst h; exact ⟨block_alloc W o, World.size_alloc _ _⟩
theorem there_of {W : World} {n : Nat} {o' : Obj} (o : Obj) (h : W.heap[n]? = some o') : (W.alloc o).heap[n]? = some o' := (Below.heap_alloc _ _ _ (heap_lt h)).trans h
theorem set_five7 {w : World} {b : Nat} {T : TypeId} {a0 a1 a2 a3 a4 : Value} (c0 c1 c2 c3 c4 : Value) (h : w.heap[b]? = some (.cells #[a0, a1, a2, a3, a4] T (0, 0))) :
    (((((w.setCell ⟨b, 0, none⟩ c0).setCell ⟨b, 1, none⟩ c1).setCell ⟨b, 2, none⟩ c2).setCell ⟨b, 3, none⟩ c3).setCell ⟨b, 4, none⟩ c4).heap[b]? = some (.cells #[c0, c1, c2, c3, c4] T (0, 0)) ∧
    Mod (fun k => k = b) w (((((w.setCell ⟨b, 0, none⟩ c0).setCell ⟨b, 1, none⟩ c1).setCell ⟨b, 2, none⟩ c2).setCell ⟨b, 3, none⟩ c3).setCell ⟨b, 4, none⟩ c4) := by
  refine ⟨set_row c4 (i := 4) (set_row c3 (i := 3) (set_row c2 (i := 2) (set_row c1 (i := 1) (set_row c0 (i := 0) h)))), ?_⟩
  have m : ∀ (W : World) (i : Nat) (c : Value), Mod (fun k => k = b) W (W.setCell ⟨b, i, none⟩ c) := fun W i c => Mod.setCell _ _ _ (.inl rfl)
  exact ((((m _ 0 _).trans (m _ 1 _) (fun _ _ h => h)).trans (m _ 2 _) (fun _ _ h => h)).trans (m _ 3 _) (fun _ _ h => h)).trans (m _ 4 _) (fun _ _ h => h)

def fun7 (x y z : Tm) : Tm := .mk 0 0 ⟨#[]⟩ ⟨#[]⟩ [.mk 1 0 ⟨#[97]⟩ ⟨#[]⟩ [.mk 2 1 ⟨#[102]⟩ ⟨#[]⟩ [.mk 3 1 ⟨#[]⟩ ⟨#[]⟩ [x, y, z]]]]
set_option maxHeartbeats 4000000 in
set_option maxRecDepth 100000 in
theorem function7_any (P : Nat → Prop) (x y z : Tm) (u v q : Value) (w : World) (hP : ∀ b, P b → b < w.heap.size) (hx : TmAt P w x u) (hy : TmAt P w y v) (hz : TmAt P w z q) :
    Calls Tryz.prog 23 #[u, v, q] w fun e w' => ∃ r, e = .returned r ∧ TmAt (fun b => P b ∨ (w.heap.size ≤ b ∧ b < w'.heap.size)) w' (fun7 x y z) r ∧ Below w.heap.size w w' := by
  have HX := Lib.hid hx
  have HY := Lib.hid hy
  have HZ := Lib.hid hz
  obtain ⟨k1, n1, s1, t1, l1⟩ := x
  obtain ⟨k2, n2, s2, t2, l2⟩ := y
  obtain ⟨k3, n3, s3, t3, l3⟩ := z
  obtain ⟨A1, cap1, rfl, -⟩ := hx.parts
  obtain ⟨A2, cap2, rfl, -⟩ := hy.parts
  obtain ⟨A3, cap3, rfl, -⟩ := hz.parts
  clear hx hy hz
  obtain ⟨g0, z1⟩ := here_of (.cells #[.int .i8 k1, .int .i64 n1, .string s1, .string t1, .slice A1 l1.length cap1] 25) (rfl : w.heap.size = w.heap.size)
  obtain ⟨g1, z2⟩ := here_of (.cells #[.int .i8 k2, .int .i64 n2, .string s2, .string t2, .slice A2 l2.length cap2] 25) z1
  obtain ⟨g2, z3⟩ := here_of (.cells #[.int .i8 k3, .int .i64 n3, .string s3, .string t3, .slice A3 l3.length cap3] 25) z2
  obtain ⟨g3, z4⟩ := here_of (.cells #[.int .i8 0, .int .i64 0, .string ⟨#[]⟩, .string ⟨#[]⟩, .slice none 0 0] 25) z3
  have f0 := there_of (.cells #[.int .i8 0, .int .i64 0, .string ⟨#[]⟩, .string ⟨#[]⟩, .slice none 0 0] 25) (there_of (.cells #[.int .i8 k3, .int .i64 n3, .string s3, .string t3, .slice A3 l3.length cap3] 25) (there_of (.cells #[.int .i8 k2, .int .i64 n2, .string s2, .string t2, .slice A2 l2.length cap2] 25) g0))
  have f1 := there_of (.cells #[.int .i8 0, .int .i64 0, .string ⟨#[]⟩, .string ⟨#[]⟩, .slice none 0 0] 25) (there_of (.cells #[.int .i8 k3, .int .i64 n3, .string s3, .string t3, .slice A3 l3.length cap3] 25) g1)
  have f2 := there_of (.cells #[.int .i8 0, .int .i64 0, .string ⟨#[]⟩, .string ⟨#[]⟩, .slice none 0 0] 25) g2
  have b4 : Below w.heap.size w ((((w.alloc (.cells #[.int .i8 k1, .int .i64 n1, .string s1, .string t1, .slice A1 l1.length cap1] 25)).alloc (.cells #[.int .i8 k2, .int .i64 n2, .string s2, .string t2, .slice A2 l2.length cap2] 25)).alloc (.cells #[.int .i8 k3, .int .i64 n3, .string s3, .string t3, .slice A3 l3.length cap3] 25)).alloc (.cells #[.int .i8 0, .int .i64 0, .string ⟨#[]⟩, .string ⟨#[]⟩, .slice none 0 0] 25)) := ((((Below.refl _ w).alloc (Nat.le_refl _) _).alloc (by simp) _).alloc (by simp; omega) _).alloc (by simp; omega) _
  clear g0 g1 g2 z1 z2 z3
  go_enter Tryz.func23, Tryz.ntmps23
  go_upto_region 1 with fail
  generalize (((w.alloc (.cells #[.int .i8 k1, .int .i64 n1, .string s1, .string t1, .slice A1 l1.length cap1] 25)).alloc (.cells #[.int .i8 k2, .int .i64 n2, .string s2, .string t2, .slice A2 l2.length cap2] 25)).alloc (.cells #[.int .i8 k3, .int .i64 n3, .string s3, .string t3, .slice A3 l3.length cap3] 25)).alloc (.cells #[.int .i8 0, .int .i64 0, .string ⟨#[]⟩, .string ⟨#[]⟩, .slice none 0 0] 25) = W4 at g3 z4 f0 f1 f2 b4 ⊢
  have HB4 := Lib.hid b4
  have HG3 := Lib.hid g3
  have HZ4 := Lib.hid z4
  have x00 : W4.cell? ⟨w.heap.size, 0, none⟩ = some (.int .i8 k1) := cell_of_row f0 rfl
  have x01 : W4.cell? ⟨w.heap.size, 1, none⟩ = some (.int .i64 n1) := cell_of_row f0 rfl
  have x02 : W4.cell? ⟨w.heap.size, 2, none⟩ = some (.string s1) := cell_of_row f0 rfl
  have x03 : W4.cell? ⟨w.heap.size, 3, none⟩ = some (.string t1) := cell_of_row f0 rfl
  have x04 : W4.cell? ⟨w.heap.size, 4, none⟩ = some (.slice A1 l1.length cap1) := cell_of_row f0 rfl
  have x10 : W4.cell? ⟨w.heap.size + 1, 0, none⟩ = some (.int .i8 k2) := cell_of_row f1 rfl
  have x11 : W4.cell? ⟨w.heap.size + 1, 1, none⟩ = some (.int .i64 n2) := cell_of_row f1 rfl
  have x12 : W4.cell? ⟨w.heap.size + 1, 2, none⟩ = some (.string s2) := cell_of_row f1 rfl
  have x13 : W4.cell? ⟨w.heap.size + 1, 3, none⟩ = some (.string t2) := cell_of_row f1 rfl
  have x14 : W4.cell? ⟨w.heap.size + 1, 4, none⟩ = some (.slice A2 l2.length cap2) := cell_of_row f1 rfl
  have x20 : W4.cell? ⟨w.heap.size + 1 + 1, 0, none⟩ = some (.int .i8 k3) := cell_of_row f2 rfl
  have x21 : W4.cell? ⟨w.heap.size + 1 + 1, 1, none⟩ = some (.int .i64 n3) := cell_of_row f2 rfl
  have x22 : W4.cell? ⟨w.heap.size + 1 + 1, 2, none⟩ = some (.string s3) := cell_of_row f2 rfl
  have x23 : W4.cell? ⟨w.heap.size + 1 + 1, 3, none⟩ = some (.string t3) := cell_of_row f2 rfl
  have x24 : W4.cell? ⟨w.heap.size + 1 + 1, 4, none⟩ = some (.slice A3 l3.length cap3) := cell_of_row f2 rfl
  clear f0 f1 f2 b4 g3 z4
  obtain ⟨a15, y5⟩ := here_of (.cells #[.int .i8 k1, .int .i64 n1, .string s1, .string t1, .slice A1 l1.length cap1, .int .i8 k2, .int .i64 n2, .string s2, .string t2, .slice A2 l2.length cap2, .int .i8 k3, .int .i64 n3, .string s3, .string t3, .slice A3 l3.length cap3] 25) (rfl : W4.heap.size = W4.heap.size)
  obtain ⟨c6, y6⟩ := here_of (.cells #[.int .i8 0, .int .i64 0, .string ⟨#[]⟩, .string ⟨#[]⟩, .slice none 0 0] 25) y5
  have cz0 : ((W4.alloc (.cells #[.int .i8 k1, .int .i64 n1, .string s1, .string t1, .slice A1 l1.length cap1, .int .i8 k2, .int .i64 n2, .string s2, .string t2, .slice A2 l2.length cap2, .int .i8 k3, .int .i64 n3, .string s3, .string t3, .slice A3 l3.length cap3] 25)).alloc (.cells #[.int .i8 0, .int .i64 0, .string ⟨#[]⟩, .string ⟨#[]⟩, .slice none 0 0] 25)).cell? ⟨W4.heap.size + 1, 0, none⟩ = some (.int .i8 0) := cell_of_row c6 rfl
  have cf0 : ((W4.alloc (.cells #[.int .i8 k1, .int .i64 n1, .string s1, .string t1, .slice A1 l1.length cap1, .int .i8 k2, .int .i64 n2, .string s2, .string t2, .slice A2 l2.length cap2, .int .i8 k3, .int .i64 n3, .string s3, .string t3, .slice A3 l3.length cap3] 25)).alloc (.cells #[.int .i8 0, .int .i64 0, .string ⟨#[]⟩, .string ⟨#[]⟩, .slice none 0 0] 25)).frozen? ⟨W4.heap.size + 1, 0, none⟩ = false := free_of_row c6
  have cz1 : ((W4.alloc (.cells #[.int .i8 k1, .int .i64 n1, .string s1, .string t1, .slice A1 l1.length cap1, .int .i8 k2, .int .i64 n2, .string s2, .string t2, .slice A2 l2.length cap2, .int .i8 k3, .int .i64 n3, .string s3, .string t3, .slice A3 l3.length cap3] 25)).alloc (.cells #[.int .i8 0, .int .i64 0, .string ⟨#[]⟩, .string ⟨#[]⟩, .slice none 0 0] 25)).cell? ⟨W4.heap.size + 1, 1, none⟩ = some (.int .i64 0) := cell_of_row c6 rfl
  have cf1 : ((W4.alloc (.cells #[.int .i8 k1, .int .i64 n1, .string s1, .string t1, .slice A1 l1.length cap1, .int .i8 k2, .int .i64 n2, .string s2, .string t2, .slice A2 l2.length cap2, .int .i8 k3, .int .i64 n3, .string s3, .string t3, .slice A3 l3.length cap3] 25)).alloc (.cells #[.int .i8 0, .int .i64 0, .string ⟨#[]⟩, .string ⟨#[]⟩, .slice none 0 0] 25)).frozen? ⟨W4.heap.size + 1, 1, none⟩ = false := free_of_row c6
  have cz2 : ((W4.alloc (.cells #[.int .i8 k1, .int .i64 n1, .string s1, .string t1, .slice A1 l1.length cap1, .int .i8 k2, .int .i64 n2, .string s2, .string t2, .slice A2 l2.length cap2, .int .i8 k3, .int .i64 n3, .string s3, .string t3, .slice A3 l3.length cap3] 25)).alloc (.cells #[.int .i8 0, .int .i64 0, .string ⟨#[]⟩, .string ⟨#[]⟩, .slice none 0 0] 25)).cell? ⟨W4.heap.size + 1, 2, none⟩ = some (.string ⟨#[]⟩) := cell_of_row c6 rfl
  have cf2 : ((W4.alloc (.cells #[.int .i8 k1, .int .i64 n1, .string s1, .string t1, .slice A1 l1.length cap1, .int .i8 k2, .int .i64 n2, .string s2, .string t2, .slice A2 l2.length cap2, .int .i8 k3, .int .i64 n3, .string s3, .string t3, .slice A3 l3.length cap3] 25)).alloc (.cells #[.int .i8 0, .int .i64 0, .string ⟨#[]⟩, .string ⟨#[]⟩, .slice none 0 0] 25)).frozen? ⟨W4.heap.size + 1, 2, none⟩ = false := free_of_row c6
  have cz3 : ((W4.alloc (.cells #[.int .i8 k1, .int .i64 n1, .string s1, .string t1, .slice A1 l1.length cap1, .int .i8 k2, .int .i64 n2, .string s2, .string t2, .slice A2 l2.length cap2, .int .i8 k3, .int .i64 n3, .string s3, .string t3, .slice A3 l3.length cap3] 25)).alloc (.cells #[.int .i8 0, .int .i64 0, .string ⟨#[]⟩, .string ⟨#[]⟩, .slice none 0 0] 25)).cell? ⟨W4.heap.size + 1, 3, none⟩ = some (.string ⟨#[]⟩) := cell_of_row c6 rfl
  have cf3 : ((W4.alloc (.cells #[.int .i8 k1, .int .i64 n1, .string s1, .string t1, .slice A1 l1.length cap1, .int .i8 k2, .int .i64 n2, .string s2, .string t2, .slice A2 l2.length cap2, .int .i8 k3, .int .i64 n3, .string s3, .string t3, .slice A3 l3.length cap3] 25)).alloc (.cells #[.int .i8 0, .int .i64 0, .string ⟨#[]⟩, .string ⟨#[]⟩, .slice none 0 0] 25)).frozen? ⟨W4.heap.size + 1, 3, none⟩ = false := free_of_row c6
  have cz4 : ((W4.alloc (.cells #[.int .i8 k1, .int .i64 n1, .string s1, .string t1, .slice A1 l1.length cap1, .int .i8 k2, .int .i64 n2, .string s2, .string t2, .slice A2 l2.length cap2, .int .i8 k3, .int .i64 n3, .string s3, .string t3, .slice A3 l3.length cap3] 25)).alloc (.cells #[.int .i8 0, .int .i64 0, .string ⟨#[]⟩, .string ⟨#[]⟩, .slice none 0 0] 25)).cell? ⟨W4.heap.size + 1, 4, none⟩ = some (.slice none 0 0) := cell_of_row c6 rfl
  have cf4 : ((W4.alloc (.cells #[.int .i8 k1, .int .i64 n1, .string s1, .string t1, .slice A1 l1.length cap1, .int .i8 k2, .int .i64 n2, .string s2, .string t2, .slice A2 l2.length cap2, .int .i8 k3, .int .i64 n3, .string s3, .string t3, .slice A3 l3.length cap3] 25)).alloc (.cells #[.int .i8 0, .int .i64 0, .string ⟨#[]⟩, .string ⟨#[]⟩, .slice none 0 0] 25)).frozen? ⟨W4.heap.size + 1, 4, none⟩ = false := free_of_row c6
  obtain ⟨d6, y7⟩ := here_of (.cells #[.int .i8 3, .int .i64 1, .string ⟨#[]⟩, .string ⟨#[]⟩, .slice (some ⟨W4.heap.size, 0, none⟩) 3 3] 25) y5
  have a16 := there_of (.cells #[.int .i8 3, .int .i64 1, .string ⟨#[]⟩, .string ⟨#[]⟩, .slice (some ⟨W4.heap.size, 0, none⟩) 3 3] 25) a15
  have HA16 := Lib.hid a16
  have HD6 := Lib.hid d6
  have HY7 := Lib.hid y7
  clear a15 y5 c6 y6 d6 y7 a16
  go_upto_region 2 with fail
  have HB6 : Hid (Below w.heap.size w ((W4.alloc (.cells #[.int .i8 k1, .int .i64 n1, .string s1, .string t1, .slice A1 l1.length cap1, .int .i8 k2, .int .i64 n2, .string s2, .string t2, .slice A2 l2.length cap2, .int .i8 k3, .int .i64 n3, .string s3, .string t3, .slice A3 l3.length cap3] 25)).alloc (.cells #[.int .i8 3, .int .i64 1, .string ⟨#[]⟩, .string ⟨#[]⟩, .slice (some ⟨W4.heap.size, 0, none⟩) 3 3] 25))) := (HB4.out.alloc (by have := HZ4.out; omega) _).alloc (by have := HZ4.out; simp; omega) _
  have HG6 : Hid (((W4.alloc (.cells #[.int .i8 k1, .int .i64 n1, .string s1, .string t1, .slice A1 l1.length cap1, .int .i8 k2, .int .i64 n2, .string s2, .string t2, .slice A2 l2.length cap2, .int .i8 k3, .int .i64 n3, .string s3, .string t3, .slice A3 l3.length cap3] 25)).alloc (.cells #[.int .i8 3, .int .i64 1, .string ⟨#[]⟩, .string ⟨#[]⟩, .slice (some ⟨W4.heap.size, 0, none⟩) 3 3] 25)).heap[w.heap.size + 1 + 1 + 1]? = some (.cells #[.int .i8 0, .int .i64 0, .string ⟨#[]⟩, .string ⟨#[]⟩, .slice none 0 0] 25 (0, 0))) := there_of _ (there_of _ HG3.out)
  generalize (W4.alloc (.cells #[.int .i8 k1, .int .i64 n1, .string s1, .string t1, .slice A1 l1.length cap1, .int .i8 k2, .int .i64 n2, .string s2, .string t2, .slice A2 l2.length cap2, .int .i8 k3, .int .i64 n3, .string s3, .string t3, .slice A3 l3.length cap3] 25)).alloc (.cells #[.int .i8 3, .int .i64 1, .string ⟨#[]⟩, .string ⟨#[]⟩, .slice (some ⟨W4.heap.size, 0, none⟩) 3 3] 25) = W6 at HA16 HD6 HY7 HB6 HG6 ⊢
  clear cz0 cf0 cz1 cf1 cz2 cf2 cz3 cf3 cz4 cf4 x00 x01 x02 x03 x04 x10 x11 x12 x13 x14 x20 x21 x22 x23 x24
  have q0 : W6.cell? ⟨W4.heap.size + 1, 0, none⟩ = some (.int .i8 3) := cell_of_row HD6.out rfl
  have q1 : W6.cell? ⟨W4.heap.size + 1, 1, none⟩ = some (.int .i64 1) := cell_of_row HD6.out rfl
  have q2 : W6.cell? ⟨W4.heap.size + 1, 2, none⟩ = some (.string ⟨#[]⟩) := cell_of_row HD6.out rfl
  have q3 : W6.cell? ⟨W4.heap.size + 1, 3, none⟩ = some (.string ⟨#[]⟩) := cell_of_row HD6.out rfl
  have q4 : W6.cell? ⟨W4.heap.size + 1, 4, none⟩ = some (.slice (some ⟨W4.heap.size, 0, none⟩) 3 3) := cell_of_row HD6.out rfl
  obtain ⟨a7, y7⟩ := here_of (.cells #[.int .i8 3, .int .i64 1, .string ⟨#[]⟩, .string ⟨#[]⟩, .slice (some ⟨W4.heap.size, 0, none⟩) 3 3] 25) (rfl : W6.heap.size = W6.heap.size)
  obtain ⟨a8, y8⟩ := here_of (.cells #[.int .i8 2, .int .i64 1, .string ⟨#[102]⟩, .string ⟨#[]⟩, .slice (some ⟨W6.heap.size, 0, none⟩) 1 1] 25) y7
  obtain ⟨a9, y9⟩ := here_of (.cells #[.int .i8 1, .int .i64 0, .string ⟨#[97]⟩, .string ⟨#[]⟩, .slice (some ⟨W6.heap.size + 1, 0, none⟩) 1 1] 25) y8
  have r7 := there_of (.cells #[.int .i8 1, .int .i64 0, .string ⟨#[97]⟩, .string ⟨#[]⟩, .slice (some ⟨W6.heap.size + 1, 0, none⟩) 1 1] 25) (there_of (.cells #[.int .i8 2, .int .i64 1, .string ⟨#[102]⟩, .string ⟨#[]⟩, .slice (some ⟨W6.heap.size, 0, none⟩) 1 1] 25) a7)
  have r8 := there_of (.cells #[.int .i8 1, .int .i64 0, .string ⟨#[97]⟩, .string ⟨#[]⟩, .slice (some ⟨W6.heap.size + 1, 0, none⟩) 1 1] 25) a8
  have r3 := there_of (.cells #[.int .i8 1, .int .i64 0, .string ⟨#[97]⟩, .string ⟨#[]⟩, .slice (some ⟨W6.heap.size + 1, 0, none⟩) 1 1] 25) (there_of (.cells #[.int .i8 2, .int .i64 1, .string ⟨#[102]⟩, .string ⟨#[]⟩, .slice (some ⟨W6.heap.size, 0, none⟩) 1 1] 25) (there_of (.cells #[.int .i8 3, .int .i64 1, .string ⟨#[]⟩, .string ⟨#[]⟩, .slice (some ⟨W4.heap.size, 0, none⟩) 3 3] 25) HG6.out))
  have r15 := there_of (.cells #[.int .i8 1, .int .i64 0, .string ⟨#[97]⟩, .string ⟨#[]⟩, .slice (some ⟨W6.heap.size + 1, 0, none⟩) 1 1] 25) (there_of (.cells #[.int .i8 2, .int .i64 1, .string ⟨#[102]⟩, .string ⟨#[]⟩, .slice (some ⟨W6.heap.size, 0, none⟩) 1 1] 25) (there_of (.cells #[.int .i8 3, .int .i64 1, .string ⟨#[]⟩, .string ⟨#[]⟩, .slice (some ⟨W4.heap.size, 0, none⟩) 3 3] 25) HA16.out))
  have bb : Below w.heap.size w (((W6.alloc (.cells #[.int .i8 3, .int .i64 1, .string ⟨#[]⟩, .string ⟨#[]⟩, .slice (some ⟨W4.heap.size, 0, none⟩) 3 3] 25)).alloc (.cells #[.int .i8 2, .int .i64 1, .string ⟨#[102]⟩, .string ⟨#[]⟩, .slice (some ⟨W6.heap.size, 0, none⟩) 1 1] 25)).alloc (.cells #[.int .i8 1, .int .i64 0, .string ⟨#[97]⟩, .string ⟨#[]⟩, .slice (some ⟨W6.heap.size + 1, 0, none⟩) 1 1] 25)) := ((HB6.out.alloc HB6.out.size _).alloc (by have := HB6.out.size; simp; omega) _).alloc (by have := HB6.out.size; simp; omega) _
  have rz0 : (((W6.alloc (.cells #[.int .i8 3, .int .i64 1, .string ⟨#[]⟩, .string ⟨#[]⟩, .slice (some ⟨W4.heap.size, 0, none⟩) 3 3] 25)).alloc (.cells #[.int .i8 2, .int .i64 1, .string ⟨#[102]⟩, .string ⟨#[]⟩, .slice (some ⟨W6.heap.size, 0, none⟩) 1 1] 25)).alloc (.cells #[.int .i8 1, .int .i64 0, .string ⟨#[97]⟩, .string ⟨#[]⟩, .slice (some ⟨W6.heap.size + 1, 0, none⟩) 1 1] 25)).cell? ⟨w.heap.size + 1 + 1 + 1, 0, none⟩ = some (.int .i8 0) := cell_of_row r3 rfl
  have rf0 : (((W6.alloc (.cells #[.int .i8 3, .int .i64 1, .string ⟨#[]⟩, .string ⟨#[]⟩, .slice (some ⟨W4.heap.size, 0, none⟩) 3 3] 25)).alloc (.cells #[.int .i8 2, .int .i64 1, .string ⟨#[102]⟩, .string ⟨#[]⟩, .slice (some ⟨W6.heap.size, 0, none⟩) 1 1] 25)).alloc (.cells #[.int .i8 1, .int .i64 0, .string ⟨#[97]⟩, .string ⟨#[]⟩, .slice (some ⟨W6.heap.size + 1, 0, none⟩) 1 1] 25)).frozen? ⟨w.heap.size + 1 + 1 + 1, 0, none⟩ = false := free_of_row r3
  have rz1 : (((W6.alloc (.cells #[.int .i8 3, .int .i64 1, .string ⟨#[]⟩, .string ⟨#[]⟩, .slice (some ⟨W4.heap.size, 0, none⟩) 3 3] 25)).alloc (.cells #[.int .i8 2, .int .i64 1, .string ⟨#[102]⟩, .string ⟨#[]⟩, .slice (some ⟨W6.heap.size, 0, none⟩) 1 1] 25)).alloc (.cells #[.int .i8 1, .int .i64 0, .string ⟨#[97]⟩, .string ⟨#[]⟩, .slice (some ⟨W6.heap.size + 1, 0, none⟩) 1 1] 25)).cell? ⟨w.heap.size + 1 + 1 + 1, 1, none⟩ = some (.int .i64 0) := cell_of_row r3 rfl
  have rf1 : (((W6.alloc (.cells #[.int .i8 3, .int .i64 1, .string ⟨#[]⟩, .string ⟨#[]⟩, .slice (some ⟨W4.heap.size, 0, none⟩) 3 3] 25)).alloc (.cells #[.int .i8 2, .int .i64 1, .string ⟨#[102]⟩, .string ⟨#[]⟩, .slice (some ⟨W6.heap.size, 0, none⟩) 1 1] 25)).alloc (.cells #[.int .i8 1, .int .i64 0, .string ⟨#[97]⟩, .string ⟨#[]⟩, .slice (some ⟨W6.heap.size + 1, 0, none⟩) 1 1] 25)).frozen? ⟨w.heap.size + 1 + 1 + 1, 1, none⟩ = false := free_of_row r3
  have rz2 : (((W6.alloc (.cells #[.int .i8 3, .int .i64 1, .string ⟨#[]⟩, .string ⟨#[]⟩, .slice (some ⟨W4.heap.size, 0, none⟩) 3 3] 25)).alloc (.cells #[.int .i8 2, .int .i64 1, .string ⟨#[102]⟩, .string ⟨#[]⟩, .slice (some ⟨W6.heap.size, 0, none⟩) 1 1] 25)).alloc (.cells #[.int .i8 1, .int .i64 0, .string ⟨#[97]⟩, .string ⟨#[]⟩, .slice (some ⟨W6.heap.size + 1, 0, none⟩) 1 1] 25)).cell? ⟨w.heap.size + 1 + 1 + 1, 2, none⟩ = some (.string ⟨#[]⟩) := cell_of_row r3 rfl
  have rf2 : (((W6.alloc (.cells #[.int .i8 3, .int .i64 1, .string ⟨#[]⟩, .string ⟨#[]⟩, .slice (some ⟨W4.heap.size, 0, none⟩) 3 3] 25)).alloc (.cells #[.int .i8 2, .int .i64 1, .string ⟨#[102]⟩, .string ⟨#[]⟩, .slice (some ⟨W6.heap.size, 0, none⟩) 1 1] 25)).alloc (.cells #[.int .i8 1, .int .i64 0, .string ⟨#[97]⟩, .string ⟨#[]⟩, .slice (some ⟨W6.heap.size + 1, 0, none⟩) 1 1] 25)).frozen? ⟨w.heap.size + 1 + 1 + 1, 2, none⟩ = false := free_of_row r3
  have rz3 : (((W6.alloc (.cells #[.int .i8 3, .int .i64 1, .string ⟨#[]⟩, .string ⟨#[]⟩, .slice (some ⟨W4.heap.size, 0, none⟩) 3 3] 25)).alloc (.cells #[.int .i8 2, .int .i64 1, .string ⟨#[102]⟩, .string ⟨#[]⟩, .slice (some ⟨W6.heap.size, 0, none⟩) 1 1] 25)).alloc (.cells #[.int .i8 1, .int .i64 0, .string ⟨#[97]⟩, .string ⟨#[]⟩, .slice (some ⟨W6.heap.size + 1, 0, none⟩) 1 1] 25)).cell? ⟨w.heap.size + 1 + 1 + 1, 3, none⟩ = some (.string ⟨#[]⟩) := cell_of_row r3 rfl
  have rf3 : (((W6.alloc (.cells #[.int .i8 3, .int .i64 1, .string ⟨#[]⟩, .string ⟨#[]⟩, .slice (some ⟨W4.heap.size, 0, none⟩) 3 3] 25)).alloc (.cells #[.int .i8 2, .int .i64 1, .string ⟨#[102]⟩, .string ⟨#[]⟩, .slice (some ⟨W6.heap.size, 0, none⟩) 1 1] 25)).alloc (.cells #[.int .i8 1, .int .i64 0, .string ⟨#[97]⟩, .string ⟨#[]⟩, .slice (some ⟨W6.heap.size + 1, 0, none⟩) 1 1] 25)).frozen? ⟨w.heap.size + 1 + 1 + 1, 3, none⟩ = false := free_of_row r3
  have rz4 : (((W6.alloc (.cells #[.int .i8 3, .int .i64 1, .string ⟨#[]⟩, .string ⟨#[]⟩, .slice (some ⟨W4.heap.size, 0, none⟩) 3 3] 25)).alloc (.cells #[.int .i8 2, .int .i64 1, .string ⟨#[102]⟩, .string ⟨#[]⟩, .slice (some ⟨W6.heap.size, 0, none⟩) 1 1] 25)).alloc (.cells #[.int .i8 1, .int .i64 0, .string ⟨#[97]⟩, .string ⟨#[]⟩, .slice (some ⟨W6.heap.size + 1, 0, none⟩) 1 1] 25)).cell? ⟨w.heap.size + 1 + 1 + 1, 4, none⟩ = some (.slice none 0 0) := cell_of_row r3 rfl
  have rf4 : (((W6.alloc (.cells #[.int .i8 3, .int .i64 1, .string ⟨#[]⟩, .string ⟨#[]⟩, .slice (some ⟨W4.heap.size, 0, none⟩) 3 3] 25)).alloc (.cells #[.int .i8 2, .int .i64 1, .string ⟨#[102]⟩, .string ⟨#[]⟩, .slice (some ⟨W6.heap.size, 0, none⟩) 1 1] 25)).alloc (.cells #[.int .i8 1, .int .i64 0, .string ⟨#[97]⟩, .string ⟨#[]⟩, .slice (some ⟨W6.heap.size + 1, 0, none⟩) 1 1] 25)).frozen? ⟨w.heap.size + 1 + 1 + 1, 4, none⟩ = false := free_of_row r3
  have HR := Lib.hid (And.intro r7 (And.intro r8 (And.intro a9 (And.intro r3 (And.intro r15 bb)))))
  clear r7 r8 a7 a8 a9 r3 r15 bb y7 y8 y9
  go_wp2_with fail
  obtain ⟨r7, r8, a9, r3, r15, bb⟩ := HR.out
  obtain ⟨s9, m9⟩ := set_five7 (.int .i8 0) (.int .i64 0) (.string ⟨#[]⟩) (.string ⟨#[]⟩) (.slice (some ⟨W6.heap.size + 1 + 1, 0, none⟩) 1 1) r3
  have k7 := (m9.block _ (heap_lt r7) (by have h1 := HB6.out.size; have h2 := heap_lt HG6.out; omega)).trans r7
  have k8 := (m9.block _ (heap_lt r8) (by have h1 := HB6.out.size; have h2 := heap_lt HG6.out; omega)).trans r8
  have k9 := (m9.block _ (heap_lt a9) (by have h1 := HB6.out.size; have h2 := heap_lt HG6.out; omega)).trans a9
  have k15 := (m9.block _ (heap_lt r15) (by have h1 := HZ4.out; omega)).trans r15
  have bf := bb.trans (m9.below bb.size (fun k e => by omega))
  generalize (((((((W6.alloc (.cells #[.int .i8 3, .int .i64 1, .string ⟨#[]⟩, .string ⟨#[]⟩, .slice (some ⟨W4.heap.size, 0, none⟩) 3 3] 25)).alloc (.cells #[.int .i8 2, .int .i64 1, .string ⟨#[102]⟩, .string ⟨#[]⟩, .slice (some ⟨W6.heap.size, 0, none⟩) 1 1] 25)).alloc (.cells #[.int .i8 1, .int .i64 0, .string ⟨#[97]⟩, .string ⟨#[]⟩, .slice (some ⟨W6.heap.size + 1, 0, none⟩) 1 1] 25)).setCell ⟨w.heap.size + 1 + 1 + 1, 0, none⟩ (.int .i8 0)).setCell ⟨w.heap.size + 1 + 1 + 1, 1, none⟩ (.int .i64 0)).setCell ⟨w.heap.size + 1 + 1 + 1, 2, none⟩ (.string ⟨#[]⟩)).setCell ⟨w.heap.size + 1 + 1 + 1, 3, none⟩ (.string ⟨#[]⟩)).setCell ⟨w.heap.size + 1 + 1 + 1, 4, none⟩ (.slice (some ⟨W6.heap.size + 1 + 1, 0, none⟩) 1 1) = WF at s9 m9 k7 k8 k9 k15 bf ⊢
  have hkp : ∀ (x : Tm) (v : Value), TmAt P w x v → TmAt (fun b => P b ∨ (w.heap.size ≤ b ∧ b < WF.heap.size)) WF x v := fun x v h => h.keep (fun b hb => bf.block b (hP b hb)) (fun _ hb => .inl hb)
  have hl6 := HB6.out.size
  have hl4 := HB4.out.size
  have tr3 := row3_of (P := fun b => P b ∨ (w.heap.size ≤ b ∧ b < WF.heap.size)) k15 (.inr ⟨hl4, heap_lt k15⟩) (hkp _ _ HX.out) (hkp _ _ HY.out) (hkp _ _ HZ.out)
  have c1 := TmAt.of_row (k := 3) (n := 1) (s := ⟨#[]⟩) (t := ⟨#[]⟩) (l := [.mk k1 n1 s1 t1 l1, .mk k2 n2 s2 t2 l2, .mk k3 n3 s3 t3 l3]) tr3 (by omega) (by omega) (by decide) (by decide)
  have c2 := TmAt.of_row (k := 2) (n := 1) (s := ⟨#[102]⟩) (t := ⟨#[]⟩) (l := [_]) (row1_of (P := fun b => P b ∨ (w.heap.size ≤ b ∧ b < WF.heap.size)) k7 (.inr ⟨hl6, heap_lt k7⟩) c1) (by omega) (by omega) (by decide) (by decide)
  have c3 := TmAt.of_row (k := 1) (n := 0) (s := ⟨#[97]⟩) (t := ⟨#[]⟩) (l := [_]) (row1_of (P := fun b => P b ∨ (w.heap.size ≤ b ∧ b < WF.heap.size)) k8 (.inr ⟨(by omega), heap_lt k8⟩) c2) (by omega) (by omega) (by decide) (by decide)
  have c4 := TmAt.of_row (k := 0) (n := 0) (s := ⟨#[]⟩) (t := ⟨#[]⟩) (l := [_]) (row1_of (P := fun b => P b ∨ (w.heap.size ≤ b ∧ b < WF.heap.size)) k9 (.inr ⟨(by omega), heap_lt k9⟩) c3) (by omega) (by omega) (by decide) (by decide)
  have HC4 := Lib.hid (And.intro c4 bf)
  clear tr3 c1 c2 c3 c4 k7 k8 k9 k15 m9
  clear rz0 rf0 q0 rz1 rf1 q1 rz2 rf2 q2 rz3 rf3 q3 rz4 rf4 q4
  have w0 : WF.cell? ⟨w.heap.size + 1 + 1 + 1, 0, none⟩ = some (.int .i8 0) := cell_of_row s9 rfl
  have w1 : WF.cell? ⟨w.heap.size + 1 + 1 + 1, 1, none⟩ = some (.int .i64 0) := cell_of_row s9 rfl
  have w2 : WF.cell? ⟨w.heap.size + 1 + 1 + 1, 2, none⟩ = some (.string ⟨#[]⟩) := cell_of_row s9 rfl
  have w3 : WF.cell? ⟨w.heap.size + 1 + 1 + 1, 3, none⟩ = some (.string ⟨#[]⟩) := cell_of_row s9 rfl
  have w4 : WF.cell? ⟨w.heap.size + 1 + 1 + 1, 4, none⟩ = some (.slice (some ⟨W6.heap.size + 1 + 1, 0, none⟩) 1 1) := cell_of_row s9 rfl
  clear s9
  refine bodyPost_ret (v := .agg #[.int .i8 0, .int .i64 0, .string ⟨#[]⟩, .string ⟨#[]⟩, .slice (some ⟨W6.heap.size + 1 + 1, 0, none⟩) 1 1]) (by simp [results, Tryz.f23, go_sem, w0, w1, w2, w3, w4]) rfl ⟨_, rfl, HC4.out.1, HC4.out.2⟩

theorem leafX (P : Nat → Prop) (w : World) : TmAt P w (.mk 5 0 ⟨#[88]⟩ ⟨#[]⟩ []) (.agg #[.int .i8 5, .int .i64 0, .string ⟨#[88]⟩, .string ⟨#[]⟩, .slice none 0 0]) := .leaf P w 5 0 ⟨#[88]⟩ (by omega) (by omega) (by decide)
/-- What region 2 leaves: the tree in its box. -/
def R07 (E : World → Prop) (w : World) (p : Value) (wx : World) : Prop := ∃ gB A cap, p = .pointer (some ⟨gB, 0, none⟩) ∧ wx.heap[gB]? = some (.cells #[.int .i8 0, .int .i64 0, .string ⟨#[]⟩, .string ⟨#[]⟩, .slice A 1 cap] 25 (0, 0)) ∧ TmAt (· < wx.heap.size) wx tree0 (.agg #[.int .i8 0, .int .i64 0, .string ⟨#[]⟩, .string ⟨#[]⟩, .slice A 1 cap]) ∧ Below w.heap.size w wx ∧ E wx

set_option maxHeartbeats 8000000 in
set_option maxRecDepth 100000 in
theorem wakes7_ok {E : World → Prop} (hE : ∀ w w', E w → Below w.heap.size w w' → E w') (hC : CheckC E) (hT : TextC E) (hV : VarsC E) : WakesC E := by
  intro w hw
  have HEE := Lib.hid hE
  have HC := Lib.hid hC
  have HT := Lib.hid hT
  have HV := Lib.hid hV
  have HW := Lib.hid hw
  clear hE hC hT hV hw
  go_enter Tryz.func9, Tryz.ntmps9
  go_wp2_with fail
  refine (name7_any ⟨#[88]⟩ w).mono ?_
  rintro e w1 ⟨rfl, b1⟩
  obtain ⟨a1, z1⟩ := here_of (.cells #[.int .i8 5, .int .i64 0, .string ⟨#[88]⟩, .string ⟨#[]⟩, .slice none 0 0, .int .i8 6, .int .i64 1, .string ⟨#[]⟩, .string ⟨#[]⟩, .slice none 0 0] 25) (rfl : w1.heap.size = w1.heap.size)
  obtain ⟨a2, z2⟩ := here_of (.cells #[.int .i8 11, .int .i64 0, .string ⟨#[62]⟩, .string ⟨#[]⟩, .slice (some ⟨w1.heap.size, 0, none⟩) 2 2] 25) z1
  obtain ⟨a3, z3⟩ := here_of (.cells #[.int .i8 0, .int .i64 0, .string ⟨#[]⟩, .string ⟨#[]⟩, .slice none 0 0] 25) z2
  obtain ⟨a4, z4⟩ := here_of (.cells #[.int .i8 4, .int .i64 0, .string ⟨#[]⟩, .string ⟨#[]⟩, .slice (some ⟨w1.heap.size + 1, 0, none⟩) 1 1] 25) z2
  have c1 := there_of (.cells #[.int .i8 4, .int .i64 0, .string ⟨#[]⟩, .string ⟨#[]⟩, .slice (some ⟨w1.heap.size + 1, 0, none⟩) 1 1] 25) (there_of (.cells #[.int .i8 11, .int .i64 0, .string ⟨#[62]⟩, .string ⟨#[]⟩, .slice (some ⟨w1.heap.size, 0, none⟩) 2 2] 25) a1)
  have c2 := there_of (.cells #[.int .i8 4, .int .i64 0, .string ⟨#[]⟩, .string ⟨#[]⟩, .slice (some ⟨w1.heap.size + 1, 0, none⟩) 1 1] 25) a2
  have bg : Below w1.heap.size w1 (((w1.alloc (.cells #[.int .i8 5, .int .i64 0, .string ⟨#[88]⟩, .string ⟨#[]⟩, .slice none 0 0, .int .i8 6, .int .i64 1, .string ⟨#[]⟩, .string ⟨#[]⟩, .slice none 0 0] 25)).alloc (.cells #[.int .i8 11, .int .i64 0, .string ⟨#[62]⟩, .string ⟨#[]⟩, .slice (some ⟨w1.heap.size, 0, none⟩) 2 2] 25)).alloc (.cells #[.int .i8 4, .int .i64 0, .string ⟨#[]⟩, .string ⟨#[]⟩, .slice (some ⟨w1.heap.size + 1, 0, none⟩) 1 1] 25)) := (((Below.refl _ w1).alloc (Nat.le_refl _) _).alloc (by simp) _).alloc (by simp; omega) _
  have gz0 : (((w1.alloc (.cells #[.int .i8 5, .int .i64 0, .string ⟨#[88]⟩, .string ⟨#[]⟩, .slice none 0 0, .int .i8 6, .int .i64 1, .string ⟨#[]⟩, .string ⟨#[]⟩, .slice none 0 0] 25)).alloc (.cells #[.int .i8 11, .int .i64 0, .string ⟨#[62]⟩, .string ⟨#[]⟩, .slice (some ⟨w1.heap.size, 0, none⟩) 2 2] 25)).alloc (.cells #[.int .i8 0, .int .i64 0, .string ⟨#[]⟩, .string ⟨#[]⟩, .slice none 0 0] 25)).cell? ⟨w1.heap.size + 1 + 1, 0, none⟩ = some (.int .i8 0) := cell_of_row a3 rfl
  have gf0 : (((w1.alloc (.cells #[.int .i8 5, .int .i64 0, .string ⟨#[88]⟩, .string ⟨#[]⟩, .slice none 0 0, .int .i8 6, .int .i64 1, .string ⟨#[]⟩, .string ⟨#[]⟩, .slice none 0 0] 25)).alloc (.cells #[.int .i8 11, .int .i64 0, .string ⟨#[62]⟩, .string ⟨#[]⟩, .slice (some ⟨w1.heap.size, 0, none⟩) 2 2] 25)).alloc (.cells #[.int .i8 0, .int .i64 0, .string ⟨#[]⟩, .string ⟨#[]⟩, .slice none 0 0] 25)).frozen? ⟨w1.heap.size + 1 + 1, 0, none⟩ = false := free_of_row a3
  have gz1 : (((w1.alloc (.cells #[.int .i8 5, .int .i64 0, .string ⟨#[88]⟩, .string ⟨#[]⟩, .slice none 0 0, .int .i8 6, .int .i64 1, .string ⟨#[]⟩, .string ⟨#[]⟩, .slice none 0 0] 25)).alloc (.cells #[.int .i8 11, .int .i64 0, .string ⟨#[62]⟩, .string ⟨#[]⟩, .slice (some ⟨w1.heap.size, 0, none⟩) 2 2] 25)).alloc (.cells #[.int .i8 0, .int .i64 0, .string ⟨#[]⟩, .string ⟨#[]⟩, .slice none 0 0] 25)).cell? ⟨w1.heap.size + 1 + 1, 1, none⟩ = some (.int .i64 0) := cell_of_row a3 rfl
  have gf1 : (((w1.alloc (.cells #[.int .i8 5, .int .i64 0, .string ⟨#[88]⟩, .string ⟨#[]⟩, .slice none 0 0, .int .i8 6, .int .i64 1, .string ⟨#[]⟩, .string ⟨#[]⟩, .slice none 0 0] 25)).alloc (.cells #[.int .i8 11, .int .i64 0, .string ⟨#[62]⟩, .string ⟨#[]⟩, .slice (some ⟨w1.heap.size, 0, none⟩) 2 2] 25)).alloc (.cells #[.int .i8 0, .int .i64 0, .string ⟨#[]⟩, .string ⟨#[]⟩, .slice none 0 0] 25)).frozen? ⟨w1.heap.size + 1 + 1, 1, none⟩ = false := free_of_row a3
  have gz2 : (((w1.alloc (.cells #[.int .i8 5, .int .i64 0, .string ⟨#[88]⟩, .string ⟨#[]⟩, .slice none 0 0, .int .i8 6, .int .i64 1, .string ⟨#[]⟩, .string ⟨#[]⟩, .slice none 0 0] 25)).alloc (.cells #[.int .i8 11, .int .i64 0, .string ⟨#[62]⟩, .string ⟨#[]⟩, .slice (some ⟨w1.heap.size, 0, none⟩) 2 2] 25)).alloc (.cells #[.int .i8 0, .int .i64 0, .string ⟨#[]⟩, .string ⟨#[]⟩, .slice none 0 0] 25)).cell? ⟨w1.heap.size + 1 + 1, 2, none⟩ = some (.string ⟨#[]⟩) := cell_of_row a3 rfl
  have gf2 : (((w1.alloc (.cells #[.int .i8 5, .int .i64 0, .string ⟨#[88]⟩, .string ⟨#[]⟩, .slice none 0 0, .int .i8 6, .int .i64 1, .string ⟨#[]⟩, .string ⟨#[]⟩, .slice none 0 0] 25)).alloc (.cells #[.int .i8 11, .int .i64 0, .string ⟨#[62]⟩, .string ⟨#[]⟩, .slice (some ⟨w1.heap.size, 0, none⟩) 2 2] 25)).alloc (.cells #[.int .i8 0, .int .i64 0, .string ⟨#[]⟩, .string ⟨#[]⟩, .slice none 0 0] 25)).frozen? ⟨w1.heap.size + 1 + 1, 2, none⟩ = false := free_of_row a3
  have gz3 : (((w1.alloc (.cells #[.int .i8 5, .int .i64 0, .string ⟨#[88]⟩, .string ⟨#[]⟩, .slice none 0 0, .int .i8 6, .int .i64 1, .string ⟨#[]⟩, .string ⟨#[]⟩, .slice none 0 0] 25)).alloc (.cells #[.int .i8 11, .int .i64 0, .string ⟨#[62]⟩, .string ⟨#[]⟩, .slice (some ⟨w1.heap.size, 0, none⟩) 2 2] 25)).alloc (.cells #[.int .i8 0, .int .i64 0, .string ⟨#[]⟩, .string ⟨#[]⟩, .slice none 0 0] 25)).cell? ⟨w1.heap.size + 1 + 1, 3, none⟩ = some (.string ⟨#[]⟩) := cell_of_row a3 rfl
  have gf3 : (((w1.alloc (.cells #[.int .i8 5, .int .i64 0, .string ⟨#[88]⟩, .string ⟨#[]⟩, .slice none 0 0, .int .i8 6, .int .i64 1, .string ⟨#[]⟩, .string ⟨#[]⟩, .slice none 0 0] 25)).alloc (.cells #[.int .i8 11, .int .i64 0, .string ⟨#[62]⟩, .string ⟨#[]⟩, .slice (some ⟨w1.heap.size, 0, none⟩) 2 2] 25)).alloc (.cells #[.int .i8 0, .int .i64 0, .string ⟨#[]⟩, .string ⟨#[]⟩, .slice none 0 0] 25)).frozen? ⟨w1.heap.size + 1 + 1, 3, none⟩ = false := free_of_row a3
  have gz4 : (((w1.alloc (.cells #[.int .i8 5, .int .i64 0, .string ⟨#[88]⟩, .string ⟨#[]⟩, .slice none 0 0, .int .i8 6, .int .i64 1, .string ⟨#[]⟩, .string ⟨#[]⟩, .slice none 0 0] 25)).alloc (.cells #[.int .i8 11, .int .i64 0, .string ⟨#[62]⟩, .string ⟨#[]⟩, .slice (some ⟨w1.heap.size, 0, none⟩) 2 2] 25)).alloc (.cells #[.int .i8 0, .int .i64 0, .string ⟨#[]⟩, .string ⟨#[]⟩, .slice none 0 0] 25)).cell? ⟨w1.heap.size + 1 + 1, 4, none⟩ = some (.slice none 0 0) := cell_of_row a3 rfl
  have gf4 : (((w1.alloc (.cells #[.int .i8 5, .int .i64 0, .string ⟨#[88]⟩, .string ⟨#[]⟩, .slice none 0 0, .int .i8 6, .int .i64 1, .string ⟨#[]⟩, .string ⟨#[]⟩, .slice none 0 0] 25)).alloc (.cells #[.int .i8 11, .int .i64 0, .string ⟨#[62]⟩, .string ⟨#[]⟩, .slice (some ⟨w1.heap.size, 0, none⟩) 2 2] 25)).alloc (.cells #[.int .i8 0, .int .i64 0, .string ⟨#[]⟩, .string ⟨#[]⟩, .slice none 0 0] 25)).frozen? ⟨w1.heap.size + 1 + 1, 4, none⟩ = false := free_of_row a3
  have H1 := Lib.hid (And.intro c1 (And.intro c2 (And.intro a4 (b1.trans (bg.mono b1.size)))))
  clear a1 a2 a3 a4 z1 z2 z3 z4 c1 c2 bg b1
  go_upto_region 2 with fail
  generalize ((w1.alloc (.cells #[.int .i8 5, .int .i64 0, .string ⟨#[88]⟩, .string ⟨#[]⟩, .slice none 0 0, .int .i8 6, .int .i64 1, .string ⟨#[]⟩, .string ⟨#[]⟩, .slice none 0 0] 25)).alloc (.cells #[.int .i8 11, .int .i64 0, .string ⟨#[62]⟩, .string ⟨#[]⟩, .slice (some ⟨w1.heap.size, 0, none⟩) 2 2] 25)).alloc (.cells #[.int .i8 4, .int .i64 0, .string ⟨#[]⟩, .string ⟨#[]⟩, .slice (some ⟨w1.heap.size + 1, 0, none⟩) 1 1] 25) = W2 at H1 ⊢
  clear gz0 gf0 gz1 gf1 gz2 gf2 gz3 gf3 gz4 gf4
  obtain ⟨c1, c2, c3, hb2⟩ := H1.out
  have HE2 : Hid (E W2) := HEE.out _ _ HW.out hb2
  have tg : TmAt (· < W2.heap.size) W2 (.mk 4 0 ⟨#[]⟩ ⟨#[]⟩ [.mk 11 0 ⟨#[62]⟩ ⟨#[]⟩ [.mk 5 0 ⟨#[88]⟩ ⟨#[]⟩ [], .mk 6 1 ⟨#[]⟩ ⟨#[]⟩ []]]) (.agg #[.int .i8 4, .int .i64 0, .string ⟨#[]⟩, .string ⟨#[]⟩, .slice (some ⟨w1.heap.size + 1, 0, none⟩) 1 1]) := by
    have t2 := row2_of (P := fun b => b < W2.heap.size) c1 (heap_lt c1) (leafX _ _) (TmAt.leaf _ _ 6 1 ⟨#[]⟩ (by omega) (by omega) (by decide))
    have u1 := TmAt.of_row (k := 11) (n := 0) (s := ⟨#[62]⟩) (t := ⟨#[]⟩) (l := [_, _]) t2 (by omega) (by omega) (by decide) (by decide)
    exact TmAt.of_row (k := 4) (n := 0) (s := ⟨#[]⟩) (t := ⟨#[]⟩) (l := [_]) (row1_of (P := fun b => b < W2.heap.size) c2 (heap_lt c2) u1) (by omega) (by omega) (by decide) (by decide)
  have HTG := Lib.hid tg
  have HG := Lib.hid c3
  have HB2 := Lib.hid hb2
  clear c1 c2 c3 hb2 tg
  go_cut [2] (fun p wx => R07 E w p wx)
  case first =>
    refine wp_region_held (S := fun V => Below W2.heap.size W2 V) (by kernel_rfl) ?_
    show wpAnyH _ _ _ _ _ _ _ _ W2.drew
    have hS0 : Below W2.heap.size W2 W2.drew := ⟨rfl, rfl, rfl, Nat.le_refl _, fun _ _ => rfl⟩
    generalize W2.drew = D at hS0 ⊢
    refine wpAnyH_take (i := 1) (oi := ⟨some 10, _, _, _, _, _⟩) (v := ?_) rfl (by kernel_rfl) (by kernel_rfl) (by kernel_rfl) (fun _ _ _ h => h) (Or.inl ⟨by kernel_rfl, ?_⟩) (by assumption) ?_; rotate_left; (intro V hSw; (try dsimp only at hSw); have q0 := cell_of_row (i := 0) ((hSw.block _ (heap_lt HG.out)).trans HG.out) rfl; have q1 := cell_of_row (i := 1) ((hSw.block _ (heap_lt HG.out)).trans HG.out) rfl; have q2 := cell_of_row (i := 2) ((hSw.block _ (heap_lt HG.out)).trans HG.out) rfl; have q3 := cell_of_row (i := 3) ((hSw.block _ (heap_lt HG.out)).trans HG.out) rfl; have q4 := cell_of_row (i := 4) ((hSw.block _ (heap_lt HG.out)).trans HG.out) rfl; go_simp; first | done | with_reducible rfl); (try simp only [Act.put, List.setIfInBounds_toArray, List.set_cons_zero, List.set_cons_succ])
    refine wpAnyH_ready (rs := [0, 4]) (by kernel_rfl) (by simp) ?_
    refine AllReadyH.cons (o := ⟨some 9, _, _, _, _, _⟩) rfl (fun K hK => ?_) (AllReadyH.cons (o := ⟨some 2, _, _, _, _, _⟩) rfl (fun K hK => ?_) AllReadyH.nil)
    · rw [if_pos (by rfl)]
      go_simp
      refine (name7_any ⟨#[88]⟩ D).mono ?_
      rintro e X1 ⟨rfl, bX1⟩
      have hSX1 : Below W2.heap.size W2 X1 := hS0.trans (bX1.mono hS0.size)
      refine hK.out _ _ hSX1 (fun hSn => ?_)
      clear hK K hSn; (try simp only [Act.put, List.setIfInBounds_toArray, List.set_cons_zero, List.set_cons_succ])
      refine wpAnyH_ready (rs := [2, 4]) (by kernel_rfl) (by simp) ?_
      refine AllReadyH.cons (o := ⟨some 11, _, _, _, _, _⟩) rfl (fun K hK => ?_) (AllReadyH.cons (o := ⟨some 2, _, _, _, _, _⟩) rfl (fun K hK => ?_) AllReadyH.nil)
      · rw [if_pos (by rfl)]
        go_simp
        refine (name7_any ⟨#[88]⟩ X1).mono ?_
        rintro e X2 ⟨rfl, bX2⟩
        have hSX2 : Below W2.heap.size W2 X2 := hSX1.trans (bX2.mono hSX1.size)
        refine hK.out _ _ hSX2 (fun hSn => ?_)
        clear hK K hSn; (try simp only [Act.put, List.setIfInBounds_toArray, List.set_cons_zero, List.set_cons_succ])
        refine wpAnyH_ready (rs := [3, 4]) (by kernel_rfl) (by simp) ?_
        refine AllReadyH.cons (o := ⟨some 12, _, _, _, _, _⟩) rfl (fun K hK => ?_) (AllReadyH.cons (o := ⟨some 2, _, _, _, _, _⟩) rfl (fun K hK => ?_) AllReadyH.nil)
        · rw [if_pos (by rfl)]
          go_simp
          refine (function7_any (fun b => b < W2.heap.size) (.mk 5 0 ⟨#[88]⟩ ⟨#[]⟩ []) (.mk 4 0 ⟨#[]⟩ ⟨#[]⟩ [.mk 11 0 ⟨#[62]⟩ ⟨#[]⟩ [.mk 5 0 ⟨#[88]⟩ ⟨#[]⟩ [], .mk 6 1 ⟨#[]⟩ ⟨#[]⟩ []]]) (.mk 5 0 ⟨#[88]⟩ ⟨#[]⟩ []) _ _ _ X2 (fun b hb => Nat.lt_of_lt_of_le hb hSX2.size) (leafX _ _) (HTG.out.keep (fun b hb => hSX2.block b hb) (fun _ h => h)) (leafX _ _)).mono ?_
          rintro e X3 ⟨r, rfl, hTX3, bX3⟩
          obtain ⟨A9, cap9, rfl, -⟩ := hTX3.parts
          have hSX3 : Below W2.heap.size W2 X3 := hSX2.trans (bX3.mono hSX2.size)
          obtain ⟨P9, hPP⟩ : ∃ P9 : Nat → Prop, P9 = fun b => b < W2.heap.size ∨ (X2.heap.size ≤ b ∧ b < X3.heap.size) := ⟨_, rfl⟩
          have hT9 := hTX3
          rw [← hPP] at hT9
          have hzX3 := bX3.size
          have hyX3 := hSX2.size
          have hP9 : ∀ b, P9 b → b < X3.heap.size := fun b hb => by rw [hPP] at hb; rcases hb with h | h <;> omega
          clear hPP hTX3 hzX3 hyX3
          refine hK.out _ _ hSX3 (fun hSn => ?_)
          clear hK K hSn; (try simp only [Act.put, List.setIfInBounds_toArray, List.set_cons_zero, List.set_cons_succ])
          refine wpAnyH_ready (rs := [4]) (by kernel_rfl) (by simp) ?_
          refine AllReadyH.cons (o := ⟨some 2, _, _, _, _, _⟩) rfl (fun K hK => ?_) AllReadyH.nil
          · rw [if_pos (by rfl)]
            go_simp
            have bX4 : Below X3.heap.size X3 (X3.alloc (.cells #[.int .i8 0, .int .i64 0, .string ⟨#[]⟩, .string ⟨#[]⟩, .slice none 0 0] 25)) := (Below.refl _ _).alloc (Nat.le_refl _) _
            have gbx := block_alloc X3 (.cells #[.int .i8 0, .int .i64 0, .string ⟨#[]⟩, .string ⟨#[]⟩, .slice none 0 0] 25)
            obtain ⟨gB, hgB⟩ : ∃ g, g = X3.heap.size := ⟨_, rfl⟩
            rw [← hgB] at gbx
            have hSX4 : Below W2.heap.size W2 (X3.alloc (.cells #[.int .i8 0, .int .i64 0, .string ⟨#[]⟩, .string ⟨#[]⟩, .slice none 0 0] 25)) := hSX3.trans (bX4.mono hSX3.size)
            have hge : W2.heap.size ≤ gB := by rw [hgB]; exact hSX3.size
            have hN9 : ¬ P9 gB := fun h => by have := hP9 gB h; omega
            have hT9 := hT9.keep (fun b hb => bX4.block b (hP9 b hb)) (fun _ h => h)
            have hP9 : ∀ b, P9 b → b < (X3.alloc (.cells #[.int .i8 0, .int .i64 0, .string ⟨#[]⟩, .string ⟨#[]⟩, .slice none 0 0] 25)).heap.size := fun b hb => Nat.lt_of_lt_of_le (hP9 b hb) bX4.size
            refine hK.out _ _ hSX4 (fun hSn => ?_)
            clear hK K; (try simp only [Act.put, List.setIfInBounds_toArray, List.set_cons_zero, List.set_cons_succ])
            rw [← hgB]
            clear hgB hSn
            generalize X3.alloc (.cells #[.int .i8 0, .int .i64 0, .string ⟨#[]⟩, .string ⟨#[]⟩, .slice none 0 0] 25) = X4 at bX4 gbx hSX4 hT9 hP9 ⊢
            refine wpAnyH_ready (rs := [5]) (by kernel_rfl) (by simp) ?_
            refine AllReadyH.cons (o := ⟨none, _, _, _, _, _⟩) rfl (fun K hK => ?_) AllReadyH.nil
            · rw [if_pos (by rfl)]
              have y0 : X4.cell? ⟨gB, 0, none⟩ = some (.int .i8 0) := cell_of_row gbx rfl
              have yf0 : X4.frozen? ⟨gB, 0, none⟩ = false := free_of_row gbx
              have y1 : X4.cell? ⟨gB, 1, none⟩ = some (.int .i64 0) := cell_of_row gbx rfl
              have yf1 : X4.frozen? ⟨gB, 1, none⟩ = false := free_of_row gbx
              have y2 : X4.cell? ⟨gB, 2, none⟩ = some (.string ⟨#[]⟩) := cell_of_row gbx rfl
              have yf2 : X4.frozen? ⟨gB, 2, none⟩ = false := free_of_row gbx
              have y3 : X4.cell? ⟨gB, 3, none⟩ = some (.string ⟨#[]⟩) := cell_of_row gbx rfl
              have yf3 : X4.frozen? ⟨gB, 3, none⟩ = false := free_of_row gbx
              have y4 : X4.cell? ⟨gB, 4, none⟩ = some (.slice none 0 0) := cell_of_row gbx rfl
              have yf4 : X4.frozen? ⟨gB, 4, none⟩ = false := free_of_row gbx
              go_simp
              obtain ⟨s9, m9⟩ := set_five7 (.int .i8 0) (.int .i64 0) (.string ⟨#[]⟩) (.string ⟨#[]⟩) (.slice A9 1 cap9) gbx
              have hSF : Below W2.heap.size W2 (((((X4.setCell ⟨gB, 0, none⟩ (.int .i8 0)).setCell ⟨gB, 1, none⟩ (.int .i64 0)).setCell ⟨gB, 2, none⟩ (.string ⟨#[]⟩)).setCell ⟨gB, 3, none⟩ (.string ⟨#[]⟩)).setCell ⟨gB, 4, none⟩ (.slice A9 1 cap9)) := hSX4.trans (m9.below hSX4.size (fun k e => by omega))
              have hTF : TmAt (· < ((((((X4.setCell ⟨gB, 0, none⟩ (.int .i8 0)).setCell ⟨gB, 1, none⟩ (.int .i64 0)).setCell ⟨gB, 2, none⟩ (.string ⟨#[]⟩)).setCell ⟨gB, 3, none⟩ (.string ⟨#[]⟩)).setCell ⟨gB, 4, none⟩ (.slice A9 1 cap9))).heap.size) ((((((X4.setCell ⟨gB, 0, none⟩ (.int .i8 0)).setCell ⟨gB, 1, none⟩ (.int .i64 0)).setCell ⟨gB, 2, none⟩ (.string ⟨#[]⟩)).setCell ⟨gB, 3, none⟩ (.string ⟨#[]⟩)).setCell ⟨gB, 4, none⟩ (.slice A9 1 cap9))) tree0 _ := hT9.keep (fun b hb => m9.block b (hP9 b hb) (fun e => hN9 (e ▸ hb))) (fun b hb => Nat.lt_of_lt_of_le (hP9 b hb) m9.size)
              refine hK.out _ _ hSF (fun hSn => ?_)
              clear hK K hSn
              refine wpAnyH_done (by kernel_rfl) ?_ _
              generalize (((((X4.setCell ⟨gB, 0, none⟩ (.int .i8 0)).setCell ⟨gB, 1, none⟩ (.int .i64 0)).setCell ⟨gB, 2, none⟩ (.string ⟨#[]⟩)).setCell ⟨gB, 3, none⟩ (.string ⟨#[]⟩)).setCell ⟨gB, 4, none⟩ (.slice A9 1 cap9)) = WF at s9 m9 hSF hTF ⊢
              go_wp2_with fail
              go_meet
              exact ⟨gB, A9, cap9, rfl, s9, hTF, HB2.out.trans (hSF.mono HB2.out.size), HEE.out _ _ HE2.out hSF⟩
        · rw [if_pos (by rfl)]
          go_simp
          have bX5 : Below X2.heap.size X2 (X2.alloc (.cells #[.int .i8 0, .int .i64 0, .string ⟨#[]⟩, .string ⟨#[]⟩, .slice none 0 0] 25)) := (Below.refl _ _).alloc (Nat.le_refl _) _
          have gbx := block_alloc X2 (.cells #[.int .i8 0, .int .i64 0, .string ⟨#[]⟩, .string ⟨#[]⟩, .slice none 0 0] 25)
          obtain ⟨gB, hgB⟩ : ∃ g, g = X2.heap.size := ⟨_, rfl⟩
          rw [← hgB] at gbx
          have hSX5 : Below W2.heap.size W2 (X2.alloc (.cells #[.int .i8 0, .int .i64 0, .string ⟨#[]⟩, .string ⟨#[]⟩, .slice none 0 0] 25)) := hSX2.trans (bX5.mono hSX2.size)
          have hge : W2.heap.size ≤ gB := by rw [hgB]; exact hSX2.size
          refine hK.out _ _ hSX5 (fun hSn => ?_)
          clear hK K; (try simp only [Act.put, List.setIfInBounds_toArray, List.set_cons_zero, List.set_cons_succ])
          rw [← hgB]
          clear hgB hSn
          generalize X2.alloc (.cells #[.int .i8 0, .int .i64 0, .string ⟨#[]⟩, .string ⟨#[]⟩, .slice none 0 0] 25) = X5 at bX5 gbx hSX5 ⊢
          refine wpAnyH_ready (rs := [3]) (by kernel_rfl) (by simp) ?_
          refine AllReadyH.cons (o := ⟨some 12, _, _, _, _, _⟩) rfl (fun K hK => ?_) AllReadyH.nil
          · rw [if_pos (by rfl)]
            go_simp
            refine (function7_any (fun b => b < W2.heap.size) (.mk 5 0 ⟨#[88]⟩ ⟨#[]⟩ []) (.mk 4 0 ⟨#[]⟩ ⟨#[]⟩ [.mk 11 0 ⟨#[62]⟩ ⟨#[]⟩ [.mk 5 0 ⟨#[88]⟩ ⟨#[]⟩ [], .mk 6 1 ⟨#[]⟩ ⟨#[]⟩ []]]) (.mk 5 0 ⟨#[88]⟩ ⟨#[]⟩ []) _ _ _ X5 (fun b hb => Nat.lt_of_lt_of_le hb hSX5.size) (leafX _ _) (HTG.out.keep (fun b hb => hSX5.block b hb) (fun _ h => h)) (leafX _ _)).mono ?_
            rintro e X6 ⟨r, rfl, hTX6, bX6⟩
            obtain ⟨A9, cap9, rfl, -⟩ := hTX6.parts
            have hSX6 : Below W2.heap.size W2 X6 := hSX5.trans (bX6.mono hSX5.size)
            have hlB := heap_lt gbx
            have gbx := (bX6.block _ (heap_lt gbx)).trans gbx
            obtain ⟨P9, hPP⟩ : ∃ P9 : Nat → Prop, P9 = fun b => b < W2.heap.size ∨ (X5.heap.size ≤ b ∧ b < X6.heap.size) := ⟨_, rfl⟩
            have hT9 := hTX6
            rw [← hPP] at hT9
            have hzX6 := bX6.size
            have hyX6 := hSX5.size
            have hP9 : ∀ b, P9 b → b < X6.heap.size := fun b hb => by rw [hPP] at hb; rcases hb with h | h <;> omega
            have hN9 : ¬ P9 gB := fun hb => by
              rw [hPP] at hb
              rcases hb with h | h
              · omega
              · omega
            clear hPP hTX6 hzX6 hyX6
            refine hK.out _ _ hSX6 (fun hSn => ?_)
            clear hK K hSn; (try simp only [Act.put, List.setIfInBounds_toArray, List.set_cons_zero, List.set_cons_succ])
            refine wpAnyH_ready (rs := [5]) (by kernel_rfl) (by simp) ?_
            refine AllReadyH.cons (o := ⟨none, _, _, _, _, _⟩) rfl (fun K hK => ?_) AllReadyH.nil
            · rw [if_pos (by rfl)]
              have y0 : X6.cell? ⟨gB, 0, none⟩ = some (.int .i8 0) := cell_of_row gbx rfl
              have yf0 : X6.frozen? ⟨gB, 0, none⟩ = false := free_of_row gbx
              have y1 : X6.cell? ⟨gB, 1, none⟩ = some (.int .i64 0) := cell_of_row gbx rfl
              have yf1 : X6.frozen? ⟨gB, 1, none⟩ = false := free_of_row gbx
              have y2 : X6.cell? ⟨gB, 2, none⟩ = some (.string ⟨#[]⟩) := cell_of_row gbx rfl
              have yf2 : X6.frozen? ⟨gB, 2, none⟩ = false := free_of_row gbx
              have y3 : X6.cell? ⟨gB, 3, none⟩ = some (.string ⟨#[]⟩) := cell_of_row gbx rfl
              have yf3 : X6.frozen? ⟨gB, 3, none⟩ = false := free_of_row gbx
              have y4 : X6.cell? ⟨gB, 4, none⟩ = some (.slice none 0 0) := cell_of_row gbx rfl
              have yf4 : X6.frozen? ⟨gB, 4, none⟩ = false := free_of_row gbx
              go_simp
              obtain ⟨s9, m9⟩ := set_five7 (.int .i8 0) (.int .i64 0) (.string ⟨#[]⟩) (.string ⟨#[]⟩) (.slice A9 1 cap9) gbx
              have hSF : Below W2.heap.size W2 (((((X6.setCell ⟨gB, 0, none⟩ (.int .i8 0)).setCell ⟨gB, 1, none⟩ (.int .i64 0)).setCell ⟨gB, 2, none⟩ (.string ⟨#[]⟩)).setCell ⟨gB, 3, none⟩ (.string ⟨#[]⟩)).setCell ⟨gB, 4, none⟩ (.slice A9 1 cap9)) := hSX6.trans (m9.below hSX6.size (fun k e => by omega))
              have hTF : TmAt (· < ((((((X6.setCell ⟨gB, 0, none⟩ (.int .i8 0)).setCell ⟨gB, 1, none⟩ (.int .i64 0)).setCell ⟨gB, 2, none⟩ (.string ⟨#[]⟩)).setCell ⟨gB, 3, none⟩ (.string ⟨#[]⟩)).setCell ⟨gB, 4, none⟩ (.slice A9 1 cap9))).heap.size) ((((((X6.setCell ⟨gB, 0, none⟩ (.int .i8 0)).setCell ⟨gB, 1, none⟩ (.int .i64 0)).setCell ⟨gB, 2, none⟩ (.string ⟨#[]⟩)).setCell ⟨gB, 3, none⟩ (.string ⟨#[]⟩)).setCell ⟨gB, 4, none⟩ (.slice A9 1 cap9))) tree0 _ := hT9.keep (fun b hb => m9.block b (hP9 b hb) (fun e => hN9 (e ▸ hb))) (fun b hb => Nat.lt_of_lt_of_le (hP9 b hb) m9.size)
              refine hK.out _ _ hSF (fun hSn => ?_)
              clear hK K hSn
              refine wpAnyH_done (by kernel_rfl) ?_ _
              generalize (((((X6.setCell ⟨gB, 0, none⟩ (.int .i8 0)).setCell ⟨gB, 1, none⟩ (.int .i64 0)).setCell ⟨gB, 2, none⟩ (.string ⟨#[]⟩)).setCell ⟨gB, 3, none⟩ (.string ⟨#[]⟩)).setCell ⟨gB, 4, none⟩ (.slice A9 1 cap9)) = WF at s9 m9 hSF hTF ⊢
              go_wp2_with fail
              go_meet
              exact ⟨gB, A9, cap9, rfl, s9, hTF, HB2.out.trans (hSF.mono HB2.out.size), HEE.out _ _ HE2.out hSF⟩
      · rw [if_pos (by rfl)]
        go_simp
        have bX7 : Below X1.heap.size X1 (X1.alloc (.cells #[.int .i8 0, .int .i64 0, .string ⟨#[]⟩, .string ⟨#[]⟩, .slice none 0 0] 25)) := (Below.refl _ _).alloc (Nat.le_refl _) _
        have gbx := block_alloc X1 (.cells #[.int .i8 0, .int .i64 0, .string ⟨#[]⟩, .string ⟨#[]⟩, .slice none 0 0] 25)
        obtain ⟨gB, hgB⟩ : ∃ g, g = X1.heap.size := ⟨_, rfl⟩
        rw [← hgB] at gbx
        have hSX7 : Below W2.heap.size W2 (X1.alloc (.cells #[.int .i8 0, .int .i64 0, .string ⟨#[]⟩, .string ⟨#[]⟩, .slice none 0 0] 25)) := hSX1.trans (bX7.mono hSX1.size)
        have hge : W2.heap.size ≤ gB := by rw [hgB]; exact hSX1.size
        refine hK.out _ _ hSX7 (fun hSn => ?_)
        clear hK K; (try simp only [Act.put, List.setIfInBounds_toArray, List.set_cons_zero, List.set_cons_succ])
        rw [← hgB]
        clear hgB hSn
        generalize X1.alloc (.cells #[.int .i8 0, .int .i64 0, .string ⟨#[]⟩, .string ⟨#[]⟩, .slice none 0 0] 25) = X7 at bX7 gbx hSX7 ⊢
        refine wpAnyH_ready (rs := [2]) (by kernel_rfl) (by simp) ?_
        refine AllReadyH.cons (o := ⟨some 11, _, _, _, _, _⟩) rfl (fun K hK => ?_) AllReadyH.nil
        · rw [if_pos (by rfl)]
          go_simp
          refine (name7_any ⟨#[88]⟩ X7).mono ?_
          rintro e X8 ⟨rfl, bX8⟩
          have hSX8 : Below W2.heap.size W2 X8 := hSX7.trans (bX8.mono hSX7.size)
          have gbx := (bX8.block _ (heap_lt gbx)).trans gbx
          refine hK.out _ _ hSX8 (fun hSn => ?_)
          clear hK K hSn; (try simp only [Act.put, List.setIfInBounds_toArray, List.set_cons_zero, List.set_cons_succ])
          refine wpAnyH_ready (rs := [3]) (by kernel_rfl) (by simp) ?_
          refine AllReadyH.cons (o := ⟨some 12, _, _, _, _, _⟩) rfl (fun K hK => ?_) AllReadyH.nil
          · rw [if_pos (by rfl)]
            go_simp
            refine (function7_any (fun b => b < W2.heap.size) (.mk 5 0 ⟨#[88]⟩ ⟨#[]⟩ []) (.mk 4 0 ⟨#[]⟩ ⟨#[]⟩ [.mk 11 0 ⟨#[62]⟩ ⟨#[]⟩ [.mk 5 0 ⟨#[88]⟩ ⟨#[]⟩ [], .mk 6 1 ⟨#[]⟩ ⟨#[]⟩ []]]) (.mk 5 0 ⟨#[88]⟩ ⟨#[]⟩ []) _ _ _ X8 (fun b hb => Nat.lt_of_lt_of_le hb hSX8.size) (leafX _ _) (HTG.out.keep (fun b hb => hSX8.block b hb) (fun _ h => h)) (leafX _ _)).mono ?_
            rintro e X9 ⟨r, rfl, hTX9, bX9⟩
            obtain ⟨A9, cap9, rfl, -⟩ := hTX9.parts
            have hSX9 : Below W2.heap.size W2 X9 := hSX8.trans (bX9.mono hSX8.size)
            have hlB := heap_lt gbx
            have gbx := (bX9.block _ (heap_lt gbx)).trans gbx
            obtain ⟨P9, hPP⟩ : ∃ P9 : Nat → Prop, P9 = fun b => b < W2.heap.size ∨ (X8.heap.size ≤ b ∧ b < X9.heap.size) := ⟨_, rfl⟩
            have hT9 := hTX9
            rw [← hPP] at hT9
            have hzX9 := bX9.size
            have hyX9 := hSX8.size
            have hP9 : ∀ b, P9 b → b < X9.heap.size := fun b hb => by rw [hPP] at hb; rcases hb with h | h <;> omega
            have hN9 : ¬ P9 gB := fun hb => by
              rw [hPP] at hb
              rcases hb with h | h
              · omega
              · omega
            clear hPP hTX9 hzX9 hyX9
            refine hK.out _ _ hSX9 (fun hSn => ?_)
            clear hK K hSn; (try simp only [Act.put, List.setIfInBounds_toArray, List.set_cons_zero, List.set_cons_succ])
            refine wpAnyH_ready (rs := [5]) (by kernel_rfl) (by simp) ?_
            refine AllReadyH.cons (o := ⟨none, _, _, _, _, _⟩) rfl (fun K hK => ?_) AllReadyH.nil
            · rw [if_pos (by rfl)]
              have y0 : X9.cell? ⟨gB, 0, none⟩ = some (.int .i8 0) := cell_of_row gbx rfl
              have yf0 : X9.frozen? ⟨gB, 0, none⟩ = false := free_of_row gbx
              have y1 : X9.cell? ⟨gB, 1, none⟩ = some (.int .i64 0) := cell_of_row gbx rfl
              have yf1 : X9.frozen? ⟨gB, 1, none⟩ = false := free_of_row gbx
              have y2 : X9.cell? ⟨gB, 2, none⟩ = some (.string ⟨#[]⟩) := cell_of_row gbx rfl
              have yf2 : X9.frozen? ⟨gB, 2, none⟩ = false := free_of_row gbx
              have y3 : X9.cell? ⟨gB, 3, none⟩ = some (.string ⟨#[]⟩) := cell_of_row gbx rfl
              have yf3 : X9.frozen? ⟨gB, 3, none⟩ = false := free_of_row gbx
              have y4 : X9.cell? ⟨gB, 4, none⟩ = some (.slice none 0 0) := cell_of_row gbx rfl
              have yf4 : X9.frozen? ⟨gB, 4, none⟩ = false := free_of_row gbx
              go_simp
              obtain ⟨s9, m9⟩ := set_five7 (.int .i8 0) (.int .i64 0) (.string ⟨#[]⟩) (.string ⟨#[]⟩) (.slice A9 1 cap9) gbx
              have hSF : Below W2.heap.size W2 (((((X9.setCell ⟨gB, 0, none⟩ (.int .i8 0)).setCell ⟨gB, 1, none⟩ (.int .i64 0)).setCell ⟨gB, 2, none⟩ (.string ⟨#[]⟩)).setCell ⟨gB, 3, none⟩ (.string ⟨#[]⟩)).setCell ⟨gB, 4, none⟩ (.slice A9 1 cap9)) := hSX9.trans (m9.below hSX9.size (fun k e => by omega))
              have hTF : TmAt (· < ((((((X9.setCell ⟨gB, 0, none⟩ (.int .i8 0)).setCell ⟨gB, 1, none⟩ (.int .i64 0)).setCell ⟨gB, 2, none⟩ (.string ⟨#[]⟩)).setCell ⟨gB, 3, none⟩ (.string ⟨#[]⟩)).setCell ⟨gB, 4, none⟩ (.slice A9 1 cap9))).heap.size) ((((((X9.setCell ⟨gB, 0, none⟩ (.int .i8 0)).setCell ⟨gB, 1, none⟩ (.int .i64 0)).setCell ⟨gB, 2, none⟩ (.string ⟨#[]⟩)).setCell ⟨gB, 3, none⟩ (.string ⟨#[]⟩)).setCell ⟨gB, 4, none⟩ (.slice A9 1 cap9))) tree0 _ := hT9.keep (fun b hb => m9.block b (hP9 b hb) (fun e => hN9 (e ▸ hb))) (fun b hb => Nat.lt_of_lt_of_le (hP9 b hb) m9.size)
              refine hK.out _ _ hSF (fun hSn => ?_)
              clear hK K hSn
              refine wpAnyH_done (by kernel_rfl) ?_ _
              generalize (((((X9.setCell ⟨gB, 0, none⟩ (.int .i8 0)).setCell ⟨gB, 1, none⟩ (.int .i64 0)).setCell ⟨gB, 2, none⟩ (.string ⟨#[]⟩)).setCell ⟨gB, 3, none⟩ (.string ⟨#[]⟩)).setCell ⟨gB, 4, none⟩ (.slice A9 1 cap9)) = WF at s9 m9 hSF hTF ⊢
              go_wp2_with fail
              go_meet
              exact ⟨gB, A9, cap9, rfl, s9, hTF, HB2.out.trans (hSF.mono HB2.out.size), HEE.out _ _ HE2.out hSF⟩
    · rw [if_pos (by rfl)]
      go_simp
      have bX10 : Below D.heap.size D (D.alloc (.cells #[.int .i8 0, .int .i64 0, .string ⟨#[]⟩, .string ⟨#[]⟩, .slice none 0 0] 25)) := (Below.refl _ _).alloc (Nat.le_refl _) _
      have gbx := block_alloc D (.cells #[.int .i8 0, .int .i64 0, .string ⟨#[]⟩, .string ⟨#[]⟩, .slice none 0 0] 25)
      obtain ⟨gB, hgB⟩ : ∃ g, g = D.heap.size := ⟨_, rfl⟩
      rw [← hgB] at gbx
      have hSX10 : Below W2.heap.size W2 (D.alloc (.cells #[.int .i8 0, .int .i64 0, .string ⟨#[]⟩, .string ⟨#[]⟩, .slice none 0 0] 25)) := hS0.trans (bX10.mono hS0.size)
      have hge : W2.heap.size ≤ gB := by rw [hgB]; exact hS0.size
      refine hK.out _ _ hSX10 (fun hSn => ?_)
      clear hK K; (try simp only [Act.put, List.setIfInBounds_toArray, List.set_cons_zero, List.set_cons_succ])
      rw [← hgB]
      clear hgB hSn
      generalize D.alloc (.cells #[.int .i8 0, .int .i64 0, .string ⟨#[]⟩, .string ⟨#[]⟩, .slice none 0 0] 25) = X10 at bX10 gbx hSX10 ⊢
      refine wpAnyH_ready (rs := [0]) (by kernel_rfl) (by simp) ?_
      refine AllReadyH.cons (o := ⟨some 9, _, _, _, _, _⟩) rfl (fun K hK => ?_) AllReadyH.nil
      · rw [if_pos (by rfl)]
        go_simp
        refine (name7_any ⟨#[88]⟩ X10).mono ?_
        rintro e X11 ⟨rfl, bX11⟩
        have hSX11 : Below W2.heap.size W2 X11 := hSX10.trans (bX11.mono hSX10.size)
        have gbx := (bX11.block _ (heap_lt gbx)).trans gbx
        refine hK.out _ _ hSX11 (fun hSn => ?_)
        clear hK K hSn; (try simp only [Act.put, List.setIfInBounds_toArray, List.set_cons_zero, List.set_cons_succ])
        refine wpAnyH_ready (rs := [2]) (by kernel_rfl) (by simp) ?_
        refine AllReadyH.cons (o := ⟨some 11, _, _, _, _, _⟩) rfl (fun K hK => ?_) AllReadyH.nil
        · rw [if_pos (by rfl)]
          go_simp
          refine (name7_any ⟨#[88]⟩ X11).mono ?_
          rintro e X12 ⟨rfl, bX12⟩
          have hSX12 : Below W2.heap.size W2 X12 := hSX11.trans (bX12.mono hSX11.size)
          have gbx := (bX12.block _ (heap_lt gbx)).trans gbx
          refine hK.out _ _ hSX12 (fun hSn => ?_)
          clear hK K hSn; (try simp only [Act.put, List.setIfInBounds_toArray, List.set_cons_zero, List.set_cons_succ])
          refine wpAnyH_ready (rs := [3]) (by kernel_rfl) (by simp) ?_
          refine AllReadyH.cons (o := ⟨some 12, _, _, _, _, _⟩) rfl (fun K hK => ?_) AllReadyH.nil
          · rw [if_pos (by rfl)]
            go_simp
            refine (function7_any (fun b => b < W2.heap.size) (.mk 5 0 ⟨#[88]⟩ ⟨#[]⟩ []) (.mk 4 0 ⟨#[]⟩ ⟨#[]⟩ [.mk 11 0 ⟨#[62]⟩ ⟨#[]⟩ [.mk 5 0 ⟨#[88]⟩ ⟨#[]⟩ [], .mk 6 1 ⟨#[]⟩ ⟨#[]⟩ []]]) (.mk 5 0 ⟨#[88]⟩ ⟨#[]⟩ []) _ _ _ X12 (fun b hb => Nat.lt_of_lt_of_le hb hSX12.size) (leafX _ _) (HTG.out.keep (fun b hb => hSX12.block b hb) (fun _ h => h)) (leafX _ _)).mono ?_
            rintro e X13 ⟨r, rfl, hTX13, bX13⟩
            obtain ⟨A9, cap9, rfl, -⟩ := hTX13.parts
            have hSX13 : Below W2.heap.size W2 X13 := hSX12.trans (bX13.mono hSX12.size)
            have hlB := heap_lt gbx
            have gbx := (bX13.block _ (heap_lt gbx)).trans gbx
            obtain ⟨P9, hPP⟩ : ∃ P9 : Nat → Prop, P9 = fun b => b < W2.heap.size ∨ (X12.heap.size ≤ b ∧ b < X13.heap.size) := ⟨_, rfl⟩
            have hT9 := hTX13
            rw [← hPP] at hT9
            have hzX13 := bX13.size
            have hyX13 := hSX12.size
            have hP9 : ∀ b, P9 b → b < X13.heap.size := fun b hb => by rw [hPP] at hb; rcases hb with h | h <;> omega
            have hN9 : ¬ P9 gB := fun hb => by
              rw [hPP] at hb
              rcases hb with h | h
              · omega
              · omega
            clear hPP hTX13 hzX13 hyX13
            refine hK.out _ _ hSX13 (fun hSn => ?_)
            clear hK K hSn; (try simp only [Act.put, List.setIfInBounds_toArray, List.set_cons_zero, List.set_cons_succ])
            refine wpAnyH_ready (rs := [5]) (by kernel_rfl) (by simp) ?_
            refine AllReadyH.cons (o := ⟨none, _, _, _, _, _⟩) rfl (fun K hK => ?_) AllReadyH.nil
            · rw [if_pos (by rfl)]
              have y0 : X13.cell? ⟨gB, 0, none⟩ = some (.int .i8 0) := cell_of_row gbx rfl
              have yf0 : X13.frozen? ⟨gB, 0, none⟩ = false := free_of_row gbx
              have y1 : X13.cell? ⟨gB, 1, none⟩ = some (.int .i64 0) := cell_of_row gbx rfl
              have yf1 : X13.frozen? ⟨gB, 1, none⟩ = false := free_of_row gbx
              have y2 : X13.cell? ⟨gB, 2, none⟩ = some (.string ⟨#[]⟩) := cell_of_row gbx rfl
              have yf2 : X13.frozen? ⟨gB, 2, none⟩ = false := free_of_row gbx
              have y3 : X13.cell? ⟨gB, 3, none⟩ = some (.string ⟨#[]⟩) := cell_of_row gbx rfl
              have yf3 : X13.frozen? ⟨gB, 3, none⟩ = false := free_of_row gbx
              have y4 : X13.cell? ⟨gB, 4, none⟩ = some (.slice none 0 0) := cell_of_row gbx rfl
              have yf4 : X13.frozen? ⟨gB, 4, none⟩ = false := free_of_row gbx
              go_simp
              obtain ⟨s9, m9⟩ := set_five7 (.int .i8 0) (.int .i64 0) (.string ⟨#[]⟩) (.string ⟨#[]⟩) (.slice A9 1 cap9) gbx
              have hSF : Below W2.heap.size W2 (((((X13.setCell ⟨gB, 0, none⟩ (.int .i8 0)).setCell ⟨gB, 1, none⟩ (.int .i64 0)).setCell ⟨gB, 2, none⟩ (.string ⟨#[]⟩)).setCell ⟨gB, 3, none⟩ (.string ⟨#[]⟩)).setCell ⟨gB, 4, none⟩ (.slice A9 1 cap9)) := hSX13.trans (m9.below hSX13.size (fun k e => by omega))
              have hTF : TmAt (· < ((((((X13.setCell ⟨gB, 0, none⟩ (.int .i8 0)).setCell ⟨gB, 1, none⟩ (.int .i64 0)).setCell ⟨gB, 2, none⟩ (.string ⟨#[]⟩)).setCell ⟨gB, 3, none⟩ (.string ⟨#[]⟩)).setCell ⟨gB, 4, none⟩ (.slice A9 1 cap9))).heap.size) ((((((X13.setCell ⟨gB, 0, none⟩ (.int .i8 0)).setCell ⟨gB, 1, none⟩ (.int .i64 0)).setCell ⟨gB, 2, none⟩ (.string ⟨#[]⟩)).setCell ⟨gB, 3, none⟩ (.string ⟨#[]⟩)).setCell ⟨gB, 4, none⟩ (.slice A9 1 cap9))) tree0 _ := hT9.keep (fun b hb => m9.block b (hP9 b hb) (fun e => hN9 (e ▸ hb))) (fun b hb => Nat.lt_of_lt_of_le (hP9 b hb) m9.size)
              refine hK.out _ _ hSF (fun hSn => ?_)
              clear hK K hSn
              refine wpAnyH_done (by kernel_rfl) ?_ _
              generalize (((((X13.setCell ⟨gB, 0, none⟩ (.int .i8 0)).setCell ⟨gB, 1, none⟩ (.int .i64 0)).setCell ⟨gB, 2, none⟩ (.string ⟨#[]⟩)).setCell ⟨gB, 3, none⟩ (.string ⟨#[]⟩)).setCell ⟨gB, 4, none⟩ (.slice A9 1 cap9)) = WF at s9 m9 hSF hTF ⊢
              go_wp2_with fail
              go_meet
              exact ⟨gB, A9, cap9, rfl, s9, hTF, HB2.out.trans (hSF.mono HB2.out.size), HEE.out _ _ HE2.out hSF⟩
  case rest =>
    obtain ⟨gB, A, cap, rfl, hbx, hTt, hbw, hEw⟩ := hcut
    have hnod : tree0.nodes ≤ 8200 := by decide
    have hck : checkR tree0 = 0 := by
      rcases checkR_or tree0 with ⟨h, _⟩ | ⟨_, h⟩
      · exact h
      · have := tree0_mods
        rw [Bool.and_eq_true] at this
        exact (h this).elim
    have htx : textL tree0 = txMods tree0 := by
      have := tree0_mods
      rw [Bool.and_eq_true] at this
      unfold textL
      rw [if_pos this]
    have HTT := Lib.hid hTt
    have HBX := Lib.hid hbx
    have HBW := Lib.hid hbw
    have HEW := Lib.hid hEw
    have HCK := Lib.hid hck
    have HTX := Lib.hid (htx.trans tree0_text)
    have HND := Lib.hid hnod
    clear hbw hEw hTt hck htx hnod
    have y0 : wc.cell? ⟨gB, 0, none⟩ = some (.int .i8 0) := cell_of_row HBX.out rfl
    have y1 : wc.cell? ⟨gB, 1, none⟩ = some (.int .i64 0) := cell_of_row HBX.out rfl
    have y2 : wc.cell? ⟨gB, 2, none⟩ = some (.string ⟨#[]⟩) := cell_of_row HBX.out rfl
    have y3 : wc.cell? ⟨gB, 3, none⟩ = some (.string ⟨#[]⟩) := cell_of_row HBX.out rfl
    have y4 : wc.cell? ⟨gB, 4, none⟩ = some (.slice A 1 cap) := cell_of_row HBX.out rfl
    clear hbx
    go_wp2_with fail
    refine (HC.out tree0 _ wc HTT.out HND.out HEW.out).mono ?_
    rintro e w3 ⟨rfl, b3⟩
    rw [HCK.out]
    have HX3 := Lib.hid ((b3.block _ (heap_lt HBX.out)).trans HBX.out)
    have HB3 := Lib.hid b3
    clear b3 y0 y1 y2 y3 y4
    have y0 : w3.cell? ⟨gB, 0, none⟩ = some (.int .i8 0) := cell_of_row HX3.out rfl
    have y1 : w3.cell? ⟨gB, 1, none⟩ = some (.int .i64 0) := cell_of_row HX3.out rfl
    have y2 : w3.cell? ⟨gB, 2, none⟩ = some (.string ⟨#[]⟩) := cell_of_row HX3.out rfl
    have y3 : w3.cell? ⟨gB, 3, none⟩ = some (.string ⟨#[]⟩) := cell_of_row HX3.out rfl
    have y4 : w3.cell? ⟨gB, 4, none⟩ = some (.slice A 1 cap) := cell_of_row HX3.out rfl
    go_wp2_with fail
    refine (HT.out tree0 _ w3 (HTT.out.laterN HB3.out) HND.out (HEE.out _ _ HEW.out HB3.out)).mono ?_
    rintro e w4 ⟨b, rfl, hb, b4⟩
    have hbe : b.toList = [109, 111, 100, 117, 108, 101, 32, 97, 46, 10, 102, 40, 88, 41, 32, 119, 104, 101, 110, 32, 40, 88, 32, 62, 32, 49, 41, 32, 45, 62, 32, 88, 46, 10] := by rw [Go.Lib.toList_data, hb, HTX.out]
    have HX4 := Lib.hid ((b4.block _ (heap_lt HX3.out)).trans HX3.out)
    have HB4 := Lib.hid (HB3.out.trans (b4.mono HB3.out.size))
    have hbz : b.size ≤ 100 := by rw [← size_list, hb, HTX.out]; decide
    clear b4 hb y0 y1 y2 y3 y4
    have y0 : w4.cell? ⟨gB, 0, none⟩ = some (.int .i8 0) := cell_of_row HX4.out rfl
    have y1 : w4.cell? ⟨gB, 1, none⟩ = some (.int .i64 0) := cell_of_row HX4.out rfl
    have y2 : w4.cell? ⟨gB, 2, none⟩ = some (.string ⟨#[]⟩) := cell_of_row HX4.out rfl
    have y3 : w4.cell? ⟨gB, 3, none⟩ = some (.string ⟨#[]⟩) := cell_of_row HX4.out rfl
    have y4 : w4.cell? ⟨gB, 4, none⟩ = some (.slice A 1 cap) := cell_of_row HX4.out rfl
    go_wp2_with fail
    refine (HV.out tree0 _ w4 (HTT.out.laterN HB4.out) HND.out tree0_szd (HEE.out _ _ HEW.out HB4.out)).mono ?_
    rintro e w5 ⟨A5, cap5, rfl, -, b5⟩
    rw [tree0_vars]
    have HB5 := Lib.hid (HB4.out.trans (b5.mono HB4.out.size))
    clear b5 y0 y1 y2 y3 y4
    go_wp2_with fail
    refine (HC.out (.mk 8 0 ⟨#[]⟩ ⟨#[]⟩ []) _ w5 (.leaf _ _ 8 0 ⟨#[]⟩ (by omega) (by omega) (by decide)) (by decide) (HEE.out _ _ HEW.out HB5.out)).mono ?_
    rintro e w6 ⟨rfl, b6⟩
    rw [nil_check]
    have HB6 := Lib.hid (HB5.out.trans (b6.mono HB5.out.size))
    clear b6
    go_wp2_with fail
    go_ret
    exact ⟨rfl, HBW.out.trans (HB6.out.mono HBW.out.size)⟩
end Go.Proofs.YtcallgoglnkkiaaGreatDoor
