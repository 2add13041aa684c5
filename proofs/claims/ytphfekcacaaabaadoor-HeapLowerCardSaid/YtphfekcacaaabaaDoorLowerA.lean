/- pleachref04.SameWord, SameCell: of like ones. package heap: Cell. HeapLower: the heap and the cells that were read off it, side by side; what Put and Make do to them. -/
import Derived.Test.YtphfekcacaaabaaDoorHeapO
import Derived.Test.YtphfekcacaaabaaDoorSame
import Derived.Test.YtphfekcacaaabaaDoorHeapZ2
import Derived.Deep.RegionHeld
import Derived.OrdersHeld
import Derived.LoopTactic
import Derived.LoopNIn
import Derived.Test.YtphfekcacaaabaaDoorGreatA
import Derived.Maps.AppendAt
set_option linter.unusedVariables false
namespace Go.Proofs.YtphfekcacaaabaaDoor
open Go.RowKit

set_option maxHeartbeats 4000000 in
set_option maxRecDepth 100000 in
theorem sameWord_self {bb : Bool} {aa kk nn : Int} {ss tt : ByteArray} (hT : ∀ (P : Nat → Prop) (w : World), TmAt P w (.mk kk nn ss tt []) (.agg #[.int .i8 kk, .int .i64 nn, .string ss, .string tt, .slice none 0 0])) (w : World) :
    Calls Tryd.prog 46 #[.agg #[(.bool bb), (.int .i64 aa), (.int .i8 kk), (.int .i64 nn), (.string ss), (.string tt), (.slice none 0 0)], .agg #[(.bool bb), (.int .i64 aa), (.int .i8 kk), (.int .i64 nn), (.string ss), (.string tt), (.slice none 0 0)]] w fun e w' => e = .returned (.bool true) ∧ Below w.heap.size w w' := by
  obtain ⟨w1, hw1⟩ : ∃ w1, w1 = (w.alloc (.cells #[(.bool bb), (.int .i64 aa), (.int .i8 kk), (.int .i64 nn), (.string ss), (.string tt), (.slice none 0 0)] 27)).alloc (.cells #[(.bool bb), (.int .i64 aa), (.int .i8 kk), (.int .i64 nn), (.string ss), (.string tt), (.slice none 0 0)] 27) := ⟨_, rfl⟩
  have B1 : Below w.heap.size w w1 := by rw [hw1]; exact ((Below.refl _ w).alloc (Nat.le_refl _) _).alloc (by simp) _
  have g0 : w1.heap[w.heap.size]? = some (.cells #[(.bool bb), (.int .i64 aa), (.int .i8 kk), (.int .i64 nn), (.string ss), (.string tt), (.slice none 0 0)] 27 (0, 0)) := by rw [hw1, Below.heap_alloc _ _ _ (by simp)]; exact block_alloc _ _
  have g1 : w1.heap[w.heap.size + 1]? = some (.cells #[(.bool bb), (.int .i64 aa), (.int .i8 kk), (.int .i64 nn), (.string ss), (.string tt), (.slice none 0 0)] 27 (0, 0)) := by
    have h := block_alloc (w.alloc (.cells #[(.bool bb), (.int .i64 aa), (.int .i8 kk), (.int .i64 nn), (.string ss), (.string tt), (.slice none 0 0)] 27)) (.cells #[(.bool bb), (.int .i64 aa), (.int .i8 kk), (.int .i64 nn), (.string ss), (.string tt), (.slice none 0 0)] 27)
    rw [World.size_alloc] at h
    rw [hw1]; exact h
  have HSM := Lib.hid (Same_any (.mk kk nn ss tt []) (.mk kk nn ss tt []) _ _ w1 (hT _ w1) (hT _ w1))
  have HB1 := Lib.hid B1
  have x0 : w1.cell? ⟨w.heap.size, 0, none⟩ = some (.bool bb) := cell_of_row g0 rfl
  have x1 : w1.cell? ⟨w.heap.size, 1, none⟩ = some (.int .i64 aa) := cell_of_row g0 rfl
  have x2 : w1.cell? ⟨w.heap.size, 2, none⟩ = some (.int .i8 kk) := cell_of_row g0 rfl
  have x3 : w1.cell? ⟨w.heap.size, 3, none⟩ = some (.int .i64 nn) := cell_of_row g0 rfl
  have x4 : w1.cell? ⟨w.heap.size, 4, none⟩ = some (.string ss) := cell_of_row g0 rfl
  have x5 : w1.cell? ⟨w.heap.size, 5, none⟩ = some (.string tt) := cell_of_row g0 rfl
  have x6 : w1.cell? ⟨w.heap.size, 6, none⟩ = some (.slice none 0 0) := cell_of_row g0 rfl
  have y0 : w1.cell? ⟨(w.heap.size + 1), 0, none⟩ = some (.bool bb) := cell_of_row g1 rfl
  have y1 : w1.cell? ⟨(w.heap.size + 1), 1, none⟩ = some (.int .i64 aa) := cell_of_row g1 rfl
  have y2 : w1.cell? ⟨(w.heap.size + 1), 2, none⟩ = some (.int .i8 kk) := cell_of_row g1 rfl
  have y3 : w1.cell? ⟨(w.heap.size + 1), 3, none⟩ = some (.int .i64 nn) := cell_of_row g1 rfl
  have y4 : w1.cell? ⟨(w.heap.size + 1), 4, none⟩ = some (.string ss) := cell_of_row g1 rfl
  have y5 : w1.cell? ⟨(w.heap.size + 1), 5, none⟩ = some (.string tt) := cell_of_row g1 rfl
  have y6 : w1.cell? ⟨(w.heap.size + 1), 6, none⟩ = some (.slice none 0 0) := cell_of_row g1 rfl
  clear g0 g1 B1 hT
  subst hw1
  go_enter Tryd.func46, Tryd.ntmps46
  go_wp2_with fail
  refine HSM.out.mono ?_
  rintro e V2 ⟨b, rfl, hb, b2⟩
  obtain rfl : b = true := hb.2 rfl
  have HB2 := Lib.hid (HB1.out.trans (b2.mono HB1.out.size))
  clear hb b2
  go_wp2_with fail
  go_ret
  exact ⟨rfl, HB2.out⟩

/-- The words lie in that block, from its first cell on. -/
def WordsIn (V : World) (g : Nat) (L : List HW) : Prop := ∀ (j : Nat) (x : HW), L[j]? = some x → ∀ (i : Nat) (u : Value), x.cells[i]? = some u → V.cell? ⟨g, j * 7 + i, none⟩ = some u
theorem WordsIn.keep {V V' : World} {g : Nat} {L : List HW} (h : WordsIn V g L) (hb : V'.heap[g]? = V.heap[g]?) : WordsIn V' g L := fun j x hj i u hi =>
  (World.cell?_of_block (w := V) (a := ⟨g, j * 7 + i, none⟩) hb).trans (h j x hj i u hi)
theorem WordsIn.rowL {V : World} {g : Nat} {L : List HW} (h : WordsIn V g L) {j : Nat} {x : HW} (hj : L[j]? = some x) {c0 c1 c2 c3 c4 c5 c6 : Value} (hc : x.cells = [c0, c1, c2, c3, c4, c5, c6]) : RowL V g (j * 7) c0 c1 c2 c3 c4 c5 c6 := by
  have h0 := h j x hj
  rw [hc] at h0
  exact ⟨h0 0 _ rfl, h0 1 _ rfl, h0 2 _ rfl, h0 3 _ rfl, h0 4 _ rfl, h0 5 _ rfl, h0 6 _ rfl⟩

set_option maxHeartbeats 8000000 in
set_option maxRecDepth 100000 in
theorem sameCell_self (N : Nat) (c : HC) (hg : ∀ x ∈ c.L, wgood N x) (hlen : c.L.length ≤ 1000000) (A1 A2 : Option Addr) (cap1 cap2 : Nat) (w : World)
    (h1 : c.L ≠ [] → ∃ g, A1 = some ⟨g, 0, none⟩ ∧ g < w.heap.size ∧ WordsIn w g c.L) (h2 : c.L ≠ [] → ∃ g, A2 = some ⟨g, 0, none⟩ ∧ g < w.heap.size ∧ WordsIn w g c.L) :
    Calls Tryd.prog 22 #[.agg #[(.int .i8 c.k), (.int .i64 c.size), (.slice A1 c.L.length cap1)], .agg #[(.int .i8 c.k), (.int .i64 c.size), (.slice A2 c.L.length cap2)]] w fun e w' => e = .returned (.bool true) ∧ Below w.heap.size w w' := by
  obtain ⟨w1, hw1⟩ : ∃ w1, w1 = (w.alloc (.cells #[(.int .i8 c.k), (.int .i64 c.size), (.slice A1 c.L.length cap1)] 39)).alloc (.cells #[(.int .i8 c.k), (.int .i64 c.size), (.slice A2 c.L.length cap2)] 39) := ⟨_, rfl⟩
  have B1 : Below w.heap.size w w1 := by rw [hw1]; exact ((Below.refl _ w).alloc (Nat.le_refl _) _).alloc (by simp) _
  have g0 : w1.heap[w.heap.size]? = some (.cells #[(.int .i8 c.k), (.int .i64 c.size), (.slice A1 c.L.length cap1)] 39 (0, 0)) := by rw [hw1, Below.heap_alloc _ _ _ (by simp)]; exact block_alloc _ _
  have g1 : w1.heap[w.heap.size + 1]? = some (.cells #[(.int .i8 c.k), (.int .i64 c.size), (.slice A2 c.L.length cap2)] 39 (0, 0)) := by
    have h := block_alloc (w.alloc (.cells #[(.int .i8 c.k), (.int .i64 c.size), (.slice A1 c.L.length cap1)] 39)) (.cells #[(.int .i8 c.k), (.int .i64 c.size), (.slice A2 c.L.length cap2)] 39)
    rw [World.size_alloc] at h
    rw [hw1]; exact h
  have HB1 := Lib.hid B1
  have HG0 := Lib.hid g0
  have HG1 := Lib.hid g1
  have H1 := Lib.hid h1
  have H2 := Lib.hid h2
  have HG := Lib.hid hg
  have x0 : w1.cell? ⟨w.heap.size, 0, none⟩ = some (.int .i8 c.k) := cell_of_row g0 rfl
  have x1 : w1.cell? ⟨w.heap.size, 1, none⟩ = some (.int .i64 c.size) := cell_of_row g0 rfl
  have x2 : w1.cell? ⟨w.heap.size, 2, none⟩ = some (.slice A1 c.L.length cap1) := cell_of_row g0 rfl
  have y0 : w1.cell? ⟨(w.heap.size + 1), 0, none⟩ = some (.int .i8 c.k) := cell_of_row g1 rfl
  have y1 : w1.cell? ⟨(w.heap.size + 1), 1, none⟩ = some (.int .i64 c.size) := cell_of_row g1 rfl
  have y2 : w1.cell? ⟨(w.heap.size + 1), 2, none⟩ = some (.slice A2 c.L.length cap2) := cell_of_row g1 rfl
  clear g0 g1 B1 h1 h2 hg
  subst hw1
  go_enter Tryd.func22, Tryd.ntmps22
  go_wp2_with fail
  generalize (w.alloc (.cells #[(.int .i8 c.k), (.int .i64 c.size), (.slice A1 c.L.length cap1)] 39)).alloc (.cells #[(.int .i8 c.k), (.int .i64 c.size), (.slice A2 c.L.length cap2)] 39) = w1 at HB1 HG0 HG1 ⊢
  clear x0 x1 x2 y0 y1 y2
  go_loopw [5] (fun i wr => ∃ j : Nat, j ≤ c.L.length ∧ i = .int .i64 j ∧ Below w1.heap.size w1 wr) (fun i _ => c.L.length - (intOf i).toNat)
  case atStart => exact ⟨0, Nat.zero_le _, rfl, Below.refl _ _⟩
  case round =>
    obtain ⟨j, hj, rfl, hB⟩ := hrel
    have HB := Lib.hid hB
    have gx0 := (hB.block _ (heap_lt HG0.out)).trans HG0.out
    have gy0 := (hB.block _ (heap_lt HG1.out)).trans HG1.out
    clear hB
    have x0 : wr.cell? ⟨w.heap.size, 0, none⟩ = some (.int .i8 c.k) := cell_of_row gx0 rfl
    have x1 : wr.cell? ⟨w.heap.size, 1, none⟩ = some (.int .i64 c.size) := cell_of_row gx0 rfl
    have x2 : wr.cell? ⟨w.heap.size, 2, none⟩ = some (.slice A1 c.L.length cap1) := cell_of_row gx0 rfl
    have y0 : wr.cell? ⟨(w.heap.size + 1), 0, none⟩ = some (.int .i8 c.k) := cell_of_row gy0 rfl
    have y1 : wr.cell? ⟨(w.heap.size + 1), 1, none⟩ = some (.int .i64 c.size) := cell_of_row gy0 rfl
    have y2 : wr.cell? ⟨(w.heap.size + 1), 2, none⟩ = some (.slice A2 c.L.length cap2) := cell_of_row gy0 rfl
    by_cases hlt : j < c.L.length
    · obtain ⟨y, hy⟩ : ∃ y, c.L[j]? = some y := ⟨c.L[j], List.getElem?_eq_getElem hlt⟩
      have hne : c.L ≠ [] := fun e => by rw [e] at hlt; simp at hlt
      obtain ⟨ga, rfl, hga, hwa⟩ := H1.out hne
      obtain ⟨gb, rfl, hgb, hwb⟩ := H2.out hne
      have hyg := HG.out y (List.mem_of_getElem? hy)
      obtain ⟨bb, aa, kk, nn, ss, tt, hcc⟩ := HW.shape y
      obtain ⟨q, -, -, -, -, -, hqt⟩ := word_aw hyg hcc
      have hra : RowL wr ga (j * 7) (.bool bb) (.int .i64 aa) (.int .i8 kk) (.int .i64 nn) (.string ss) (.string tt) (.slice none 0 0) := ((hwa.keep (HB1.out.block ga hga)).keep (HB.out.block ga (Nat.lt_of_lt_of_le hga HB1.out.size))).rowL hy hcc
      have hrb : RowL wr gb (j * 7) (.bool bb) (.int .i64 aa) (.int .i8 kk) (.int .i64 nn) (.string ss) (.string tt) (.slice none 0 0) := ((hwb.keep (HB1.out.block gb hgb)).keep (HB.out.block gb (Nat.lt_of_lt_of_le hgb HB1.out.size))).rowL hy hcc
      have HQT := Lib.hid hqt
      have i0 : (0 : Int) ≤ (j : Int) := by omega
      have i1 : (j : Int) < (c.L.length : Int) := by omega
      have HS := Lib.hid (And.intro gx0 (And.intro gy0 (And.intro hra hrb)))
      have HLT := Lib.hid (And.intro hga hgb)
      clear hne hga hwa hgb hwb hyg hcc hqt hy hra hrb gx0 gy0
      obtain ⟨w0, hw0⟩ : ∃ w0, w0 = w := ⟨_, rfl⟩
      subst hw0
      go_wp2_with fail
      have hS0 : wr.drew.heap[w0.heap.size]? = some (.cells #[(.int .i8 c.k), (.int .i64 c.size), (.slice (some ⟨ga, 0, none⟩) c.L.length cap1)] 39 (0, 0)) ∧ wr.drew.heap[w0.heap.size + 1]? = some (.cells #[(.int .i8 c.k), (.int .i64 c.size), (.slice (some ⟨gb, 0, none⟩) c.L.length cap2)] 39 (0, 0)) ∧ RowL wr.drew ga (j * 7) (.bool bb) (.int .i64 aa) (.int .i8 kk) (.int .i64 nn) (.string ss) (.string tt) (.slice none 0 0) ∧ RowL wr.drew gb (j * 7) (.bool bb) (.int .i64 aa) (.int .i8 kk) (.int .i64 nn) (.string ss) (.string tt) (.slice none 0 0) := HS.out
      have hB0 : Below w1.heap.size w1 wr.drew := HB.out.trans (Below.mono ⟨rfl, rfl, rfl, Nat.le_refl _, fun _ _ => rfl⟩ HB.out.size)
      refine wp_region_held (S := fun V => V.heap[w0.heap.size]? = some (.cells #[(.int .i8 c.k), (.int .i64 c.size), (.slice (some ⟨ga, 0, none⟩) c.L.length cap1)] 39 (0, 0)) ∧ V.heap[w0.heap.size + 1]? = some (.cells #[(.int .i8 c.k), (.int .i64 c.size), (.slice (some ⟨gb, 0, none⟩) c.L.length cap2)] 39 (0, 0)) ∧ RowL V ga (j * 7) (.bool bb) (.int .i64 aa) (.int .i8 kk) (.int .i64 nn) (.string ss) (.string tt) (.slice none 0 0) ∧ RowL V gb (j * 7) (.bool bb) (.int .i64 aa) (.int .i8 kk) (.int .i64 nn) (.string ss) (.string tt) (.slice none 0 0)) (by kernel_rfl) ?_
      show wpAnyH _ _ _ _ _ _ _ _ wr.drew
      generalize wr.drew = D at hS0 hB0 ⊢
      refine wpAnyH_take (i := 0) (oi := ⟨some 34, _, _, _, _, _⟩) (v := ?_) rfl (by kernel_rfl) (by kernel_rfl) (by kernel_rfl) (fun _ _ _ h => h) (Or.inl ⟨by kernel_rfl, ?_⟩) (by assumption) ?_; rotate_left; (intro w hSw; (try dsimp only at hSw); obtain ⟨hx, hy, ⟨r0, r1, r2, r3, r4, r5, r6⟩, ⟨s0, s1, s2, s3, s4, s5, s6⟩⟩ := hSw; have x2 : w.cell? ⟨w0.heap.size, 2, none⟩ = some (.slice (some ⟨ga, 0, none⟩) c.L.length cap1) := cell_of_row hx rfl; have y2 : w.cell? ⟨w0.heap.size + 1, 2, none⟩ = some (.slice (some ⟨gb, 0, none⟩) c.L.length cap2) := cell_of_row hy rfl; go_simp; first | done | with_reducible rfl); (try simp only [Act.put, List.setIfInBounds_toArray, List.set_cons_zero, List.set_cons_succ])
      refine wpAnyH_take (i := 1) (oi := ⟨some 35, _, _, _, _, _⟩) (v := ?_) rfl (by kernel_rfl) (by kernel_rfl) (by kernel_rfl) (fun _ _ _ h => h) (Or.inl ⟨by kernel_rfl, ?_⟩) (by assumption) ?_; rotate_left; (intro w hSw; (try dsimp only at hSw); obtain ⟨hx, hy, ⟨r0, r1, r2, r3, r4, r5, r6⟩, ⟨s0, s1, s2, s3, s4, s5, s6⟩⟩ := hSw; have x2 : w.cell? ⟨w0.heap.size, 2, none⟩ = some (.slice (some ⟨ga, 0, none⟩) c.L.length cap1) := cell_of_row hx rfl; have y2 : w.cell? ⟨w0.heap.size + 1, 2, none⟩ = some (.slice (some ⟨gb, 0, none⟩) c.L.length cap2) := cell_of_row hy rfl; go_simp; first | done | with_reducible rfl); (try simp only [Act.put, List.setIfInBounds_toArray, List.set_cons_zero, List.set_cons_succ])
      refine wpAnyH_take (i := 2) (oi := ⟨some 36, _, _, _, _, _⟩) (v := ?_) rfl (by kernel_rfl) (by kernel_rfl) (by kernel_rfl) (fun _ _ _ h => h) (Or.inl ⟨by kernel_rfl, ?_⟩) (by assumption) ?_; rotate_left; (intro w hSw; (try dsimp only at hSw); obtain ⟨hx, hy, ⟨r0, r1, r2, r3, r4, r5, r6⟩, ⟨s0, s1, s2, s3, s4, s5, s6⟩⟩ := hSw; have x2 : w.cell? ⟨w0.heap.size, 2, none⟩ = some (.slice (some ⟨ga, 0, none⟩) c.L.length cap1) := cell_of_row hx rfl; have y2 : w.cell? ⟨w0.heap.size + 1, 2, none⟩ = some (.slice (some ⟨gb, 0, none⟩) c.L.length cap2) := cell_of_row hy rfl; go_simp; first | done | with_reducible rfl); (try simp only [Act.put, List.setIfInBounds_toArray, List.set_cons_zero, List.set_cons_succ])
      refine wpAnyH_take (i := 3) (oi := ⟨some 37, _, _, _, _, _⟩) (v := ?_) rfl (by kernel_rfl) (by kernel_rfl) (by kernel_rfl) (fun _ _ _ h => h) (Or.inl ⟨by kernel_rfl, ?_⟩) (by assumption) ?_; rotate_left; (intro w hSw; (try dsimp only at hSw); obtain ⟨hx, hy, ⟨r0, r1, r2, r3, r4, r5, r6⟩, ⟨s0, s1, s2, s3, s4, s5, s6⟩⟩ := hSw; have x2 : w.cell? ⟨w0.heap.size, 2, none⟩ = some (.slice (some ⟨ga, 0, none⟩) c.L.length cap1) := cell_of_row hx rfl; have y2 : w.cell? ⟨w0.heap.size + 1, 2, none⟩ = some (.slice (some ⟨gb, 0, none⟩) c.L.length cap2) := cell_of_row hy rfl; go_simp; first | done | with_reducible rfl); (try simp only [Act.put, List.setIfInBounds_toArray, List.set_cons_zero, List.set_cons_succ])
      refine wpAnyH_take (i := 4) (oi := ⟨some 38, _, _, _, _, _⟩) (v := ?_) rfl (by kernel_rfl) (by kernel_rfl) (by kernel_rfl) (fun _ _ _ h => h) (Or.inl ⟨by kernel_rfl, ?_⟩) (by assumption) ?_; rotate_left; (intro w hSw; (try dsimp only at hSw); obtain ⟨hx, hy, ⟨r0, r1, r2, r3, r4, r5, r6⟩, ⟨s0, s1, s2, s3, s4, s5, s6⟩⟩ := hSw; have x2 : w.cell? ⟨w0.heap.size, 2, none⟩ = some (.slice (some ⟨ga, 0, none⟩) c.L.length cap1) := cell_of_row hx rfl; have y2 : w.cell? ⟨w0.heap.size + 1, 2, none⟩ = some (.slice (some ⟨gb, 0, none⟩) c.L.length cap2) := cell_of_row hy rfl; go_simp; first | done | with_reducible rfl); (try simp only [Act.put, List.setIfInBounds_toArray, List.set_cons_zero, List.set_cons_succ])
      refine wpAnyH_take (i := 5) (oi := ⟨some 39, _, _, _, _, _⟩) (v := ?_) rfl (by kernel_rfl) (by kernel_rfl) (by kernel_rfl) (fun _ _ _ h => h) (Or.inl ⟨by kernel_rfl, ?_⟩) (by assumption) ?_; rotate_left; (intro w hSw; (try dsimp only at hSw); obtain ⟨hx, hy, ⟨r0, r1, r2, r3, r4, r5, r6⟩, ⟨s0, s1, s2, s3, s4, s5, s6⟩⟩ := hSw; have x2 : w.cell? ⟨w0.heap.size, 2, none⟩ = some (.slice (some ⟨ga, 0, none⟩) c.L.length cap1) := cell_of_row hx rfl; have y2 : w.cell? ⟨w0.heap.size + 1, 2, none⟩ = some (.slice (some ⟨gb, 0, none⟩) c.L.length cap2) := cell_of_row hy rfl; go_simp; first | done | with_reducible rfl); (try simp only [Act.put, List.setIfInBounds_toArray, List.set_cons_zero, List.set_cons_succ])
      refine wpAnyH_take (i := 6) (oi := ⟨some 40, _, _, _, _, _⟩) (v := ?_) rfl (by kernel_rfl) (by kernel_rfl) (by kernel_rfl) (fun _ _ _ h => h) (Or.inl ⟨by kernel_rfl, ?_⟩) (by assumption) ?_; rotate_left; (intro w hSw; (try dsimp only at hSw); obtain ⟨hx, hy, ⟨r0, r1, r2, r3, r4, r5, r6⟩, ⟨s0, s1, s2, s3, s4, s5, s6⟩⟩ := hSw; have x2 : w.cell? ⟨w0.heap.size, 2, none⟩ = some (.slice (some ⟨ga, 0, none⟩) c.L.length cap1) := cell_of_row hx rfl; have y2 : w.cell? ⟨w0.heap.size + 1, 2, none⟩ = some (.slice (some ⟨gb, 0, none⟩) c.L.length cap2) := cell_of_row hy rfl; go_simp; first | done | with_reducible rfl); (try simp only [Act.put, List.setIfInBounds_toArray, List.set_cons_zero, List.set_cons_succ])
      refine wpAnyH_take (i := 7) (oi := ⟨some 41, _, _, _, _, _⟩) (v := ?_) rfl (by kernel_rfl) (by kernel_rfl) (by kernel_rfl) (fun _ _ _ h => h) (Or.inl ⟨by kernel_rfl, ?_⟩) (by assumption) ?_; rotate_left; (intro w hSw; (try dsimp only at hSw); obtain ⟨hx, hy, ⟨r0, r1, r2, r3, r4, r5, r6⟩, ⟨s0, s1, s2, s3, s4, s5, s6⟩⟩ := hSw; have x2 : w.cell? ⟨w0.heap.size, 2, none⟩ = some (.slice (some ⟨ga, 0, none⟩) c.L.length cap1) := cell_of_row hx rfl; have y2 : w.cell? ⟨w0.heap.size + 1, 2, none⟩ = some (.slice (some ⟨gb, 0, none⟩) c.L.length cap2) := cell_of_row hy rfl; go_simp; first | done | with_reducible rfl); (try simp only [Act.put, List.setIfInBounds_toArray, List.set_cons_zero, List.set_cons_succ])
      refine wpAnyH_take (i := 8) (oi := ⟨some 42, _, _, _, _, _⟩) (v := ?_) rfl (by kernel_rfl) (by kernel_rfl) (by kernel_rfl) (fun _ _ _ h => h) (Or.inl ⟨by kernel_rfl, ?_⟩) (by assumption) ?_; rotate_left; (intro w hSw; (try dsimp only at hSw); obtain ⟨hx, hy, ⟨r0, r1, r2, r3, r4, r5, r6⟩, ⟨s0, s1, s2, s3, s4, s5, s6⟩⟩ := hSw; have x2 : w.cell? ⟨w0.heap.size, 2, none⟩ = some (.slice (some ⟨ga, 0, none⟩) c.L.length cap1) := cell_of_row hx rfl; have y2 : w.cell? ⟨w0.heap.size + 1, 2, none⟩ = some (.slice (some ⟨gb, 0, none⟩) c.L.length cap2) := cell_of_row hy rfl; go_simp; first | done | with_reducible rfl); (try simp only [Act.put, List.setIfInBounds_toArray, List.set_cons_zero, List.set_cons_succ])
      refine wpAnyH_take (i := 9) (oi := ⟨some 43, _, _, _, _, _⟩) (v := ?_) rfl (by kernel_rfl) (by kernel_rfl) (by kernel_rfl) (fun _ _ _ h => h) (Or.inl ⟨by kernel_rfl, ?_⟩) (by assumption) ?_; rotate_left; (intro w hSw; (try dsimp only at hSw); obtain ⟨hx, hy, ⟨r0, r1, r2, r3, r4, r5, r6⟩, ⟨s0, s1, s2, s3, s4, s5, s6⟩⟩ := hSw; have x2 : w.cell? ⟨w0.heap.size, 2, none⟩ = some (.slice (some ⟨ga, 0, none⟩) c.L.length cap1) := cell_of_row hx rfl; have y2 : w.cell? ⟨w0.heap.size + 1, 2, none⟩ = some (.slice (some ⟨gb, 0, none⟩) c.L.length cap2) := cell_of_row hy rfl; go_simp; first | done | with_reducible rfl); (try simp only [Act.put, List.setIfInBounds_toArray, List.set_cons_zero, List.set_cons_succ])
      refine wpAnyH_ready (rs := [10]) (by kernel_rfl) (by simp) ?_
      refine AllReadyH.cons (o := ⟨some 44, _, _, _, _, _⟩) rfl (fun K hK => ?_) AllReadyH.nil
      rw [if_pos (by rfl)]
      go_simp
      refine (sameWord_self HQT.out D).mono ?_
      rintro e V2 ⟨rfl, b2⟩
      have hS7 := hS0
      have hB2 := hB0.trans (b2.mono hB0.size)
      replace hS7 : V2.heap[w0.heap.size]? = some (.cells #[(.int .i8 c.k), (.int .i64 c.size), (.slice (some ⟨ga, 0, none⟩) c.L.length cap1)] 39 (0, 0)) ∧ V2.heap[w0.heap.size + 1]? = some (.cells #[(.int .i8 c.k), (.int .i64 c.size), (.slice (some ⟨gb, 0, none⟩) c.L.length cap2)] 39 (0, 0)) ∧ RowL V2 ga (j * 7) (.bool bb) (.int .i64 aa) (.int .i8 kk) (.int .i64 nn) (.string ss) (.string tt) (.slice none 0 0) ∧ RowL V2 gb (j * 7) (.bool bb) (.int .i64 aa) (.int .i8 kk) (.int .i64 nn) (.string ss) (.string tt) (.slice none 0 0) :=
        ⟨(b2.block _ (heap_lt hS7.1)).trans hS7.1, (b2.block _ (heap_lt hS7.2.1)).trans hS7.2.1, hS7.2.2.1.keep (b2.block _ (Nat.lt_of_lt_of_le HLT.out.1 (Nat.le_trans HB1.out.size hB0.size))), hS7.2.2.2.keep (b2.block _ (Nat.lt_of_lt_of_le HLT.out.2 (Nat.le_trans HB1.out.size hB0.size)))⟩
      have HB2 := Lib.hid hB2
      clear b2 hB2 hS0 hB0
      refine hK.out _ _ hS7 (fun hSn => ?_)
      clear hK K; (try simp only [Act.put, List.setIfInBounds_toArray, List.set_cons_zero, List.set_cons_succ])
      refine wpAnyH_take (i := 11) (oi := ⟨some 45, _, _, _, _, _⟩) (v := ?_) rfl (by kernel_rfl) (by kernel_rfl) (by kernel_rfl) (fun _ _ _ h => h) (Or.inl ⟨by kernel_rfl, ?_⟩) (by assumption) ?_; rotate_left; (intro w hSw; (try dsimp only at hSw); go_simp; first | done | with_reducible rfl); (try simp only [Act.put, List.setIfInBounds_toArray, List.set_cons_zero, List.set_cons_succ])
      refine wpAnyH_done (by kernel_rfl) ?_ _
      clear hS7
      go_wp2_with fail
      go_roundw
      case rel => exact ⟨j + 1, by omega, by go_num, HB2.out⟩
      case measure => simp [intOf]; omega
    · go_wp2_with fail
      go_ret
      exact ⟨rfl, HB1.out.trans (HB.out.mono HB1.out.size)⟩
end Go.Proofs.YtphfekcacaaabaaDoor
set_option linter.unusedVariables false
namespace Go.Proofs.YtphfekcacaaabaaDoor
open Go.RowKit

set_option maxRecDepth 100000 in
/-- 'append([]Word(nil), l...)'. -/
theorem wpList_copy_words {ops : Array Oper} {rest : List Oper} {o : Oper} {a : Act} {w : World} {Q : Exit → Act → World → Prop} (hgd : o.guard = none) (sl x : Operand)
    (ho : o.op = .call { callee := .builtin .append, args := #[sl, x], argTypes := #[37, 37] }) (hsl : a.eval sl = .slice none 0 0)
    (A : Option Addr) (L : List HW) (hx : a.eval x = .slice A L.length L.length) (hW : WordsAt w A L) (hlen : L.length ≤ 1000000)
    (h : ∀ A' cap' w', Below w.heap.size w w' → (L ≠ [] → A' = some ⟨w.heap.size, 0, none⟩ ∧ w.heap.size < w'.heap.size ∧ WordsIn w' w.heap.size L) → wpList Tryd.prog ops Q rest (a.put o.dst (.slice A' L.length cap')) w') : wpList Tryd.prog ops Q (o :: rest) a w := by
  refine wpList_plain hgd fun K hK => ?_
  obtain ⟨i, hi, hz⟩ := Option.map_eq_some_iff.1 info_wordb
  simp only [Prod.mk.injEq] at hz
  obtain ⟨hz, hsz, hby⟩ := hz
  have hown := World.ownsRow_nil w w.heap.size 27 7
  by_cases hL : L = []
  · subst hL
    cases A with
    | none =>
      have hr := append_nought (P := Tryd.prog) (ty := o.type) Tryd.underlying37 hi hown 0
      unfold Oper.wp execOp
      simp only [ho, resolve, invoke, builtin, Sem.run_bind, Sem.run_pure, Result.andThen_ok, List.map_toArray, List.map_cons, List.map_nil, hsl, hx, List.length_nil, hr]
      exact hK _ _ (h none 0 w (Below.refl _ _) (fun e => absurd rfl e))
    | some ad =>
      obtain ⟨v', w', hr, h2, h3, h4, h5⟩ := run_append_own_at (P := Tryd.prog) w w.heap.size 37 o.type 27 i _ 7 88 Tryd.underlying37 hi hz hsz hby rfl (by decide) _ 0 [] hown ad 0 0 [] rfl (fun j u hj => by simp at hj) (fun u hu => by simp at hu) (by unfold maxLen; omega) (by omega) (Nat.le_refl _)
      obtain rfl := h4.2 ⟨rfl, rfl⟩
      have hb : Below w.heap.size w w' := (Mod.grown (F := fun _ => False) h3 (fun _ _ e => by simp [Value.ownBlock] at e)).below (Nat.le_refl _) (fun k e => e.elim)
      unfold Oper.wp execOp
      simp only [ho, resolve, invoke, builtin, Sem.run_bind, Sem.run_pure, Result.andThen_ok, List.map_toArray, List.map_cons, List.map_nil, hsl, hx, List.length_nil, hr]
      exact hK _ _ (h none 0 w' hb (fun e => absurd rfl e))
  · have hpos : 0 < L.length := List.length_pos_iff.2 hL
    obtain ⟨g, o', rfl, -⟩ := hW 0 L[0] (List.getElem?_eq_getElem hpos)
    have hfl : (flatW L).length = L.length * 7 := by
      clear hW hx hlen h hpos hL
      induction L with
      | nil => rfl
      | cons y L ih => rw [flatW, List.flatMap_cons, List.length_append, HW.cells_len]; unfold flatW at ih; rw [ih, List.length_cons]; omega
    have hnews : ∀ j u, (flatW L)[j]? = some u → w.cell? ((⟨g, o', none⟩ : Addr).add j) = some u := by
      intro j u hj
      have hjl := (List.getElem?_eq_some_iff.1 hj).1
      have hq : j / 7 < L.length := by omega
      have e7 : j / 7 * 7 + j % 7 = j := by omega
      have h1 := flatW_at (List.getElem?_eq_getElem hq) (j % 7) (by omega)
      rw [e7, hj] at h1
      obtain ⟨g2, o2, e2, h2⟩ := hW (j / 7) L[j / 7] (List.getElem?_eq_getElem hq)
      cases e2
      have h3 := h2 (j % 7) u h1.symm
      rw [show (⟨g, o', none⟩ : Addr).add j = ⟨g, o' + j / 7 * 7 + j % 7, none⟩ by unfold Addr.add; split <;> simp_all <;> omega]
      exact h3
    have h1 : ∀ u ∈ flatW L, u.oneCell' = true := by
      intro u hu
      obtain ⟨y, -, hy⟩ := List.mem_flatMap.1 hu
      cases y <;> simp [HW.cells] at hy <;> rcases hy with rfl | rfl | rfl | rfl | rfl | rfl | rfl <;> rfl
    obtain ⟨v', w', hr, h2, h3, h4, h5⟩ := run_append_own_at (P := Tryd.prog) w w.heap.size 37 o.type 27 i _ 7 88 Tryd.underlying37 hi hz hsz hby rfl (by decide) _ 0 [] hown ⟨g, o', none⟩ L.length L.length (flatW L) hfl hnews h1 (by unfold maxLen; omega) (by omega) (Nat.le_refl _)
    have hb : Below w.heap.size w w' := (Mod.grown (F := fun _ => False) h3 (fun _ _ e => by simp [Value.ownBlock] at e)).below (Nat.le_refl _) (fun k e => e.elim)
    rw [List.nil_append, Nat.zero_add] at h2
    have h2' := h2
    rcases h2'.2 with ⟨_, hz⟩ | ⟨g', cap', cur, rfl, _, hcur, _⟩
    · omega
    · have hg' : g' = w.heap.size := by
        rcases h5 with e | e
        · simp [Value.ownBlock] at e
        · simpa [Value.ownBlock] using e
      subst hg'
      unfold Oper.wp execOp
      simp only [ho, resolve, invoke, builtin, Sem.run_bind, Sem.run_pure, Result.andThen_ok, List.map_toArray, List.map_cons, List.map_nil, hsl, hx, hr]
      refine hK _ _ (h _ cap' w' hb (fun _ => ⟨rfl, heap_lt hcur, fun j x hj i u hu => ?_⟩))
      have hi7 : i < 7 := by
        have := (List.getElem?_eq_some_iff.1 hu).1
        rwa [HW.cells_len] at this
      have h6 := flatW_at hj i hi7
      rw [hu] at h6
      have := h2.cells (g := w.heap.size) rfl (j * 7 + i) u h6
      rwa [show (⟨w.heap.size, 0, none⟩ : Addr).add (j * 7 + i) = ⟨w.heap.size, j * 7 + i, none⟩ by unfold Addr.add; split <;> simp_all] at this

/-- What Cell hands back. -/
def CellP (c : HC) (w : World) (e : Ending) (w' : World) : Prop :=
  ∃ A cap, e = .returned (.tuple #[.agg #[.int .i8 c.k, .int .i64 c.size, .slice A c.L.length cap], .int .i64 0]) ∧ Below w.heap.size w w' ∧ (c.L ≠ [] → ∃ g, A = some ⟨g, 0, none⟩ ∧ w.heap.size ≤ g ∧ g < w'.heap.size ∧ WordsIn w' g c.L)

set_option maxHeartbeats 4000000 in
set_option maxRecDepth 100000 in
theorem Cell_any {base hb ws : Nat} {cs : List HC} {CS RM : Value} (w : World) (h : HeapAt base w hb cs ws CS RM) (n : Nat) (c : HC) (hc : cs[n]? = some c) (hlen : c.L.length ≤ 1000) :
    Calls Tryd.prog 11 #[.pointer (some ⟨hb, 0, none⟩), .int .i64 n] w (CellP c w) := by
  obtain ⟨g, cap, A, rfl, a0, a1, a2, hW⟩ := h.cell hc
  have hn := (List.getElem?_eq_some_iff.1 hc).1
  obtain ⟨w1, hw1⟩ : ∃ w1, w1 = w.alloc (.cells #[(.int .i8 0), (.int .i64 0), (.slice none 0 0)] 39) := ⟨_, rfl⟩
  have B1 : Below w.heap.size w w1 := by rw [hw1]; exact (Below.refl _ w).alloc (Nat.le_refl _) _
  have z1 : w1.heap[w.heap.size]? = some (.cells #[(.int .i8 0), (.int .i64 0), (.slice none 0 0)] 39 (0, 0)) := by rw [hw1]; exact block_alloc _ _
  have hgl : g < w.heap.size := World.block_lt_of_cell? w _ a0
  have k1 : ∀ i u, w.cell? ⟨g, i, none⟩ = some u → w1.cell? ⟨g, i, none⟩ = some u := fun i u e => (World.cell?_of_block (w := w) (a := ⟨g, i, none⟩) (B1.block g hgl)).trans e
  have a0 := k1 _ _ a0
  have a1 := k1 _ _ a1
  have a2 := k1 _ _ a2
  have h0 : w1.cell? ⟨hb, 0, none⟩ = some (.slice (some ⟨g, 0, none⟩) cs.length cap) := cell_of_row ((B1.block hb (heap_lt h.box)).trans h.box) rfl
  have HHAS := Lib.hid (has_any hb (some ⟨g, 0, none⟩) cs.length cap n w1 h0)
  have i0 : (0 : Int) ≤ (n : Int) := by omega
  have i1 : (n : Int) < (cs.length : Int) := by omega
  have hd : (decide (0 ≤ (n : Int)) && decide ((n : Int) < (cs.length : Int))) = true := by simp [i0, i1]
  have hW1 : WordsAt w1 A c.L := hW.keep (fun g' o' e hL => by rw [e] at hW; exact B1.block g' (hW.lt hL))
  obtain ⟨w2, hw2⟩ : ∃ w2, w2 = w1.alloc (.cells #[(.int .i8 c.k), (.int .i64 c.size), (.slice A c.L.length c.L.length)] 39) := ⟨_, rfl⟩
  have B2 : Below w1.heap.size w1 w2 := by rw [hw2]; exact (Below.refl _ _).alloc (Nat.le_refl _) _
  have z2 : w2.heap[w.heap.size + 1]? = some (.cells #[(.int .i8 c.k), (.int .i64 c.size), (.slice A c.L.length c.L.length)] 39 (0, 0)) := by
    have := block_alloc w1 (.cells #[(.int .i8 c.k), (.int .i64 c.size), (.slice A c.L.length c.L.length)] 39)
    rwa [← hw2, show w1.heap.size = w.heap.size + 1 by rw [hw1]; exact World.size_alloc _ _] at this
  have HW2 : Hid (WordsAt w2 A c.L) := hW1.keep (fun g' o' e hL => by rw [e] at hW1; exact B2.block g' (hW1.lt hL))
  have HB2 := Lib.hid (B1.trans (B2.mono B1.size))
  have HZ1 := Lib.hid ((B2.block _ (heap_lt z1)).trans z1)
  have HZ2 := Lib.hid z2
  have s2 : w2.heap.size = w.heap.size + 2 := by rw [hw2, World.size_alloc, hw1, World.size_alloc]
  have HS2 := Lib.hid s2
  clear h hc hW hW1 B1 B2 k1 z1 z2 s2 hgl
  subst hw2
  subst hw1
  go_enter Tryd.func11, Tryd.ntmps11
  go_wp2_with fail
  refine HHAS.out.mono ?_
  rintro e V1 ⟨rfl, rfl⟩
  rw [hd]
  clear hd
  go_wp2_with (refine wpList_copy_words rfl (.const (.slice none 0 0)) (.tmp 23) rfl rfl A c.L rfl HW2.out (by omega) ?_)
  intro A' cap' w3 hB3 hL3
  generalize (w.alloc (.cells #[(.int .i8 0), (.int .i64 0), (.slice none 0 0)] 39)).alloc (.cells #[(.int .i8 c.k), (.int .i64 c.size), (.slice A c.L.length c.L.length)] 39) = w2 at HW2 HB2 HZ1 HZ2 HS2 hB3 hL3
  have hlo : ∀ g, g = w.heap.size ∨ g = w.heap.size + 1 → g < w.heap.size + 1 + 1 := fun g hg => by omega
  have gA := (hB3.block _ (hlo _ (.inl rfl))).trans HZ1.out
  have gB := (hB3.block _ (hlo _ (.inr rfl))).trans HZ2.out
  have HB3 := Lib.hid hB3
  have HL3 := Lib.hid hL3
  have HGA := Lib.hid gA
  clear hB3 hL3 hlo
  have y0 : w3.cell? ⟨(w.heap.size + 1), 0, none⟩ = some (.int .i8 c.k) := cell_of_row gB rfl
  have y1 : w3.cell? ⟨(w.heap.size + 1), 1, none⟩ = some (.int .i64 c.size) := cell_of_row gB rfl
  have y2 : w3.cell? ⟨(w.heap.size + 1), 2, none⟩ = some (.slice A c.L.length c.L.length) := cell_of_row gB rfl
  have fy0 : w3.frozen? ⟨(w.heap.size + 1), 0, none⟩ = false := free_of_row gB
  have fy1 : w3.frozen? ⟨(w.heap.size + 1), 1, none⟩ = false := free_of_row gB
  have fy2 : w3.frozen? ⟨(w.heap.size + 1), 2, none⟩ = false := free_of_row gB
  have x0 : w3.cell? ⟨w.heap.size, 0, none⟩ = some (.int .i8 0) := cell_of_row gA rfl
  have x1 : w3.cell? ⟨w.heap.size, 1, none⟩ = some (.int .i64 0) := cell_of_row gA rfl
  have x2 : w3.cell? ⟨w.heap.size, 2, none⟩ = some (.slice none 0 0) := cell_of_row gA rfl
  have fx0 : w3.frozen? ⟨w.heap.size, 0, none⟩ = false := free_of_row gA
  have fx1 : w3.frozen? ⟨w.heap.size, 1, none⟩ = false := free_of_row gA
  have fx2 : w3.frozen? ⟨w.heap.size, 2, none⟩ = false := free_of_row gA
  go_wp2_with fail
  have m4 : Mod (fun k => k = w.heap.size + 1) w3 (w3.setCell ⟨w.heap.size + 1, 2, none⟩ (.slice A' c.L.length cap')) := Mod.setCell _ _ _ (.inl rfl)
  obtain ⟨s7, m7⟩ := set_three (.int .i8 c.k) (.int .i64 c.size) (.slice A' c.L.length cap') ((m4.block _ (heap_lt HGA.out) (by omega)).trans HGA.out)
  have hl3 : w.heap.size + 1 + 1 ≤ w3.heap.size := by have := HB3.out.size; have := HS2.out; omega
  have hl4 := m4.size
  generalize (w3.setCell ⟨w.heap.size + 1, 2, none⟩ (.slice A' c.L.length cap')) = w4 at m4 s7 m7 hl4 ⊢
  clear y0 y1 y2 fy0 fy1 fy2 x0 x1 x2 fx0 fx1 fx2
  have hB7 := ((HB2.out.trans (HB3.out.mono (by omega))).trans (m4.below (by omega) (fun k (e : k = w.heap.size + 1) => by omega))).trans (m7.below (by omega) (fun k (e : k = w.heap.size) => by omega))
  generalize ((w4.setCell ⟨w.heap.size, 0, none⟩ (.int .i8 c.k)).setCell ⟨w.heap.size, 1, none⟩ (.int .i64 c.size)).setCell ⟨w.heap.size, 2, none⟩ (.slice A' c.L.length cap') = w7 at s7 m7 hB7 ⊢
  have HM7 := Lib.hid m7
  have HM4 := Lib.hid m4
  have HB7 := Lib.hid hB7
  have x0 : w7.cell? ⟨w.heap.size, 0, none⟩ = some (.int .i8 c.k) := cell_of_row s7 rfl
  have x1 : w7.cell? ⟨w.heap.size, 1, none⟩ = some (.int .i64 c.size) := cell_of_row s7 rfl
  have x2 : w7.cell? ⟨w.heap.size, 2, none⟩ = some (.slice A' c.L.length cap') := cell_of_row s7 rfl
  clear m4 m7 hB7 s7
  refine bodyPost_ret (v := .tuple #[.agg #[.int .i8 c.k, .int .i64 c.size, .slice A' c.L.length cap'], .int .i64 0]) (by simp [results, Tryd.f11, go_sem, x0, x1, x2]) rfl ?_
  refine ⟨A', cap', rfl, HB7.out, fun hL => ?_⟩
  obtain ⟨h1, h2, h3⟩ := HL3.out hL
  have hk : w7.heap[w.heap.size + 1 + 1]? = w3.heap[w.heap.size + 1 + 1]? := (HM7.out.block _ (by omega) (by omega)).trans (HM4.out.block _ h2 (by omega))
  exact ⟨_, h1, by omega, by have := HM7.out.size; omega, h3.keep hk⟩
end Go.Proofs.YtphfekcacaaabaaDoor
set_option linter.unusedVariables false
namespace Go.Proofs.YtphfekcacaaabaaDoor
open Go.RowKit

/-- A block that is not there yet is apart. -/
theorem HSt.At.fresh {s : HSt} {base hb g : Nat} {w : World} (h : s.At base w hb) (hg : w.heap.size ≤ g) : s.Core base w g ∧ g ≠ hb := by
  have hlt := h.lt
  obtain ⟨vs, hvl, ho, hp⟩ := (HeapAt.core h).row
  obtain ⟨A, rn, e, h2⟩ := (HeapAt.core h).room
  refine ⟨⟨⟨vs, hvl, ho, fun n c hc => ?_⟩, ⟨A, rn, e, fun hr => ?_⟩, fun e => ?_⟩, by omega⟩
  · obtain ⟨A, hv, hw, hs⟩ := hp n c hc
    refine ⟨A, hv, hw, fun g' o e hL => ?_⟩
    obtain ⟨a1, a2, a3, a4⟩ := hs g' o e hL
    subst e
    have := hw.lt hL
    exact ⟨a1, by omega, a3, a4⟩
  · obtain ⟨g', o, cur, e1, e2, e3, e4, e5, e6⟩ := h2 hr
    have := heap_lt e5
    exact ⟨g', o, cur, e1, e2, by omega, e4, e5, e6⟩
  · have := (ho.lt _ e).2; omega

/-- A copy of a cell's words, apart from the heap and from the row. -/
def CopyAt (N : Nat) (s : HSt) (cv : Value) (L : List HW) (A : Option Addr) (V : World) : Prop :=
  L ≠ [] → ∃ g, A = some ⟨g, 0, none⟩ ∧ g < V.heap.size ∧ s.Core N V g ∧ g ≠ N ∧ cv.ownBlock ≠ some g ∧ WordsIn V g L

/-- The heap, and a row of the cells that were read off it. -/
structure LB (N : Nat) (s : HSt) (cv : Value) (vs : List Value) (w V : World) : Prop where
  below : Below N w V
  heap : s.At N V N
  own : V.ownsRow N 39 3 cv vs.length (rowC (s.cs.take vs.length) vs)
  apart : ∀ g, cv.ownBlock = some g → s.Core N V g ∧ g ≠ N
  len : vs.length ≤ s.cs.length
  copy : ∀ n c, n < vs.length → s.cs[n]? = some c → ∃ A cap, vs[n]? = some (.slice A c.L.length cap) ∧ CopyAt N s cv c.L A V

section
variable {N : Nat} {s s' : HSt} {cv : Value} {vs : List Value} {w V V' : World}
theorem LB.ge (h : LB N s cv vs w V) (hN : N ≤ w.heap.size) : N ≤ V.heap.size := Nat.le_trans hN h.below.size
theorem CopyAt.under {L : List HW} {A : Option Addr} (h : CopyAt N s cv L A V) (b : Below V.heap.size V V') : CopyAt N s cv L A V' := fun hL => by
  obtain ⟨g, e, h1, h2, h3, h4, h5⟩ := h hL
  exact ⟨g, e, Nat.lt_of_lt_of_le h1 b.size, h2.under b, h3, h4, h5.keep (b.block g h1)⟩
theorem LB.under (h : LB N s cv vs w V) (hN : N ≤ w.heap.size) (b : Below V.heap.size V V') : LB N s cv vs w V' :=
  ⟨h.below.trans (b.mono (h.ge hN)), h.heap.under b, (Mod.of_below (F := fun _ => False) b).row h.own (fun _ _ f => f), fun g hg => ⟨(h.apart g hg).1.under b, (h.apart g hg).2⟩, h.len, fun n c hn hc => by
    obtain ⟨A, cap, e, hcp⟩ := h.copy n c hn hc
    exact ⟨A, cap, e, hcp.under b⟩⟩
theorem LB.move (h : LB N s cv vs w V) (hN : N ≤ w.heap.size) (m : HMove N N s s' V V') (he : ∃ more, s'.cs = s.cs ++ more) : LB N s' cv vs w V' := by
  obtain ⟨more, he⟩ := he
  have hl := h.len
  refine ⟨h.below.trans (m.above h.heap (h.ge hN)), m.at_, ?_, fun g hg => ⟨m.apart g (h.own.lt g hg).2 (h.apart g hg).1, (h.apart g hg).2⟩, by rw [he]; simp; omega, fun n c hn hc => ?_⟩
  · rw [he, List.take_append_of_le_length hl]
    exact m.mod.row h.own (fun g hg => (h.apart g hg).1.not_fp (h.apart g hg).2)
  · rw [he, List.getElem?_append_left (by omega)] at hc
    obtain ⟨A, cap, e, hcp⟩ := h.copy n c hn hc
    refine ⟨A, cap, e, fun hL => ?_⟩
    obtain ⟨g, e2, h1, h2, h3, h4, h5⟩ := hcp hL
    exact ⟨g, e2, Nat.lt_of_lt_of_le h1 m.mod.size, m.apart g h1 h2, h3, h4, h5.keep (m.block h1 h2 h3)⟩
/-- The row grows by the cell that comes next. -/
theorem LB.grow (h : LB N s cv vs w V) (hN : N ≤ w.heap.size) {c : HC} (hc : s.cs[vs.length]? = some c) {A : Option Addr} {cap : Nat} {cv' : Value} (hcp : CopyAt N s cv c.L A V)
    (ho : V'.ownsRow N 39 3 cv' (vs.length + 1) (rowC (s.cs.take vs.length) vs ++ [.int .i8 c.k, .int .i64 c.size, .slice A c.L.length cap])) (hg : V.grownBy V' cv.ownBlock) (hn : cv'.ownBlock = cv.ownBlock ∨ cv'.ownBlock = some V.heap.size) : LB N s cv' (vs ++ [.slice A c.L.length cap]) w V' := by
  have hge := h.ge hN
  have m : Mod (fun g => cv.ownBlock = some g) V V' := Mod.grown hg (fun _ _ e => e)
  have hlt := (List.getElem?_eq_some_iff.1 hc).1
  have hkeep : ∀ b, s.Core N V b → s.Core N V' b := fun b hb => by
    cases hw : cv.ownBlock with
    | none => exact hb.under (m.below (Nat.le_refl _) (fun k e => by rw [hw] at e; cases e))
    | some g => exact hb.write (h.apart g hw).1 (m.mono (fun k _ e => by rw [hw] at e; injection e with e; exact e.symm))
  have hcopy : ∀ {L : List HW} {A : Option Addr}, CopyAt N s cv L A V → CopyAt N s cv' L A V' := fun {L A} hk hL => by
    obtain ⟨g, e, h1, h2, h3, h4, h5⟩ := hk hL
    refine ⟨g, e, Nat.lt_of_lt_of_le h1 m.size, hkeep g h2, h3, ?_, h5.keep (m.block g h1 h4)⟩
    rcases hn with e1 | e1
    · rw [e1]; exact h4
    · rw [e1]; intro e2; injection e2 with e2; omega
  refine ⟨h.below.trans (m.below hge (fun k e => (h.own.lt k e).1)), ?_, ?_, fun g hgg => ?_, by simp; omega, fun n d hnd hd => ?_⟩
  · cases hw : cv.ownBlock with
    | none => exact h.heap.under (m.below (Nat.le_refl _) (fun k e => by rw [hw] at e; cases e))
    | some g => exact h.heap.write (h.apart g hw).1 (h.apart g hw).2 (m.mono (fun k _ e => by rw [hw] at e; injection e with e; exact e.symm))
  · have e1 : s.cs.take (vs.length + 1) = s.cs.take vs.length ++ [c] := by rw [List.take_add_one, hc]; rfl
    rw [List.length_append, List.length_singleton, e1, rowC_snoc c _ (by simp; omega)]
    exact ho
  · rcases hn with e | e
    · rw [e] at hgg
      exact ⟨hkeep g (h.apart g hgg).1, (h.apart g hgg).2⟩
    · rw [e] at hgg
      injection hgg with hgg
      subst hgg
      exact ⟨hkeep _ (h.heap.fresh (Nat.le_refl _)).1, (h.heap.fresh (Nat.le_refl _)).2⟩
  · rw [List.length_append, List.length_singleton] at hnd
    by_cases hlast : n < vs.length
    · obtain ⟨A', cap', e, hk⟩ := h.copy n d hlast hd
      exact ⟨A', cap', by rw [List.getElem?_append_left hlast]; exact e, hcopy hk⟩
    · obtain rfl : n = vs.length := by omega
      rw [hc] at hd
      cases hd
      exact ⟨A, cap, by simp, hcopy hcp⟩
end

/-- What an act does to the heap. -/
def StepS (N : Nat) (s : HSt) (V : World) (V' : World) : Prop := ∃ s', HMove N N s s' V V' ∧ HOk s' ∧ ∃ more : List HC, s'.cs = s.cs ++ more ∧ more.length ≤ 256
theorem StepS.none {N : Nat} {s : HSt} {V V' : World} (h : s.At N V N) (hs : HOk s) (b : Below V.heap.size V V') : StepS N s V V' :=
  ⟨s, HMove.below h hs.rn b, hs, [], by simp, Nat.zero_le _⟩
theorem put_step {N : Nat} {s : HSt} {x : Tm} {w w' : World} {e : Ending} (h : s.At N w N) (hs : HOk s) (hl : s.cs.length + 256 ≤ 1048576) (hp : PutP N N s x w e w') : (∃ v, e = .returned v) ∧ StepS N s w w' := by
  rcases hp with ⟨_, he, b⟩ | ⟨h0, he, s', h1, h2, h3⟩
  · exact ⟨⟨_, he⟩, .none h hs b⟩
  · obtain ⟨hv, hn⟩ := check_valid h0
    have hk := put1_ok x hv hn s.cs hs.good (by omega)
    obtain ⟨more, e1, e2⟩ := hk.above
    exact ⟨⟨_, he⟩, s', h3, ⟨by rw [h1]; exact hk.good, h2, h3.rn⟩, more, by rw [h1]; exact e1, by omega⟩
theorem may_wgood {n : Nat} {q : AW} (h : mayW n q.c q.a q.x = true) : wgood n q.hw := by
  unfold mayW at h
  unfold AW.hw
  split at h
  · rename_i hc
    rw [if_pos hc]
    simp only [Bool.and_eq_true, decide_eq_true_eq] at h
    show q.a.toNat < n
    omega
  · rename_i hc
    rw [if_neg hc]
    simp only [Bool.and_eq_true, beq_iff_eq] at h
    exact h.1
theorem make_step {N : Nat} {s : HSt} {k : Int} {L : List AW} {w w' : World} {e : Ending} (h : s.At N w N) (hs : HOk s) (hk : kindB k L.length = true) (hp : MakeP N N s k L w e w') : (∃ v, e = .returned v) ∧ StepS N s w w' := by
  rcases hp with ⟨_, he, b⟩ | ⟨h0, he, s', h1, h2, h3⟩
  · exact ⟨⟨_, he⟩, .none h hs b⟩
  · have hall : ∀ q ∈ L, mayW s.cs.length q.c q.a q.x = true := by
      unfold makeE at h0
      split at h0
      · rename_i ha; exact fun q hq => List.all_eq_true.1 ha q hq
      · cases h0
    have hb : wsum s.cs (L.map AW.hw) ≤ 256 ∧ s.cs.length < 1048576 := by
      unfold makeE at h0
      split at h0
      · split at h0
        · cases h0
        · split at h0
          · cases h0
          · omega
      · cases h0
    have hkk : k = 5 ∨ (k = 7 ∧ (L.map AW.hw).length = 2) := by
      unfold kindB at hk
      simp only [Bool.and_eq_true, Bool.or_eq_true, Bool.not_eq_true', beq_iff_eq, Bool.and_eq_false_iff, bne_eq_false_iff_eq, beq_eq_false_iff_ne] at hk
      rw [List.length_map]
      obtain ⟨h5, h7⟩ := hk
      rcases h5 with h5 | h5
      · exact .inl h5
      · rcases h7 with h7 | h7
        · exact absurd h5 h7
        · exact .inr ⟨h5, h7⟩
    have hg := hs.good.snoc k (L.map AW.hw) hkk (fun y hy => by
      obtain ⟨q, hq, rfl⟩ := List.mem_map.1 hy
      exact may_wgood (hall q hq)) hb.1 (by omega)
    refine ⟨⟨_, he⟩, s', h3, ⟨by rw [h1]; exact hg, ?_, h3.rn⟩, [⟨k, wsum s.cs (L.map AW.hw), L.map AW.hw⟩], by rw [h1]; rfl, by simp⟩
    rw [h2, h1, hs.ws]
    unfold HSt.more
    rw [wordsOf_append]
    simp [wordsOf]
/-- Put and Make, called. -/
theorem put_call {N : Nat} {s : HSt} (x : Tm) (P : Nat → Prop) (v : Value) (w : World) (hs : HOk s) (hlen : s.cs.length + 256 ≤ 1048576) (hbw : N ≤ w.heap.size) (h : s.At N w N) (hT : TmAt P w x v) (hP : ∀ b, P b → b < w.heap.size ∧ s.Core N w b ∧ b ≠ N) (hS : Spans w) :
    Calls Tryd.prog 7 #[.pointer (some ⟨N, 0, none⟩), v] w fun e w' => (∃ v, e = .returned v) ∧ StepS N s w w' :=
  (Put_any x P v w hs hlen hbw h hT hP hS).mono fun _ _ hp => put_step h hs hlen hp
theorem make_call {N : Nat} {s : HSt} (k : Int) (L : List AW) (A : Option Addr) (cap : Nat) (P : Nat → Prop) (w : World) (hs : HOk s) (hbw : N ≤ w.heap.size) (h : s.At N w N) (hR : WRow P w A L.length cap L) (hP : ∀ b, P b → b < w.heap.size ∧ s.Core N w b ∧ b ≠ N) (hll : L.length ≤ 1000) (hS : Spans w) :
    Calls Tryd.prog 8 #[.pointer (some ⟨N, 0, none⟩), .int .i8 k, .slice A L.length cap] w fun e w' => (∃ v, e = .returned v) ∧ StepS N s w w' := by
  cases hk : kindB k L.length with
  | true => exact (Make_any k L A cap P w hbw h hs.rn hs.good.most hR (fun b hb => ⟨(hP b hb).1, (hP b hb).2.1.not_fp (hP b hb).2.2⟩) hll hs.ws_le hs.good.len hk hS).mono fun _ _ hp => make_step h hs hk hp
  | false => exact (Make_kind N k A L.length cap w hk).mono fun _ _ hp => ⟨⟨_, hp.1⟩, .none h hs hp.2⟩

/-- How many words the first cells are. -/
theorem wordsOf_take_le (cs : List HC) (n : Nat) : wordsOf (cs.take n) ≤ wordsOf cs := by
  have := wordsOf_append (cs.take n) (cs.drop n)
  rw [List.take_append_drop] at this
  omega
theorem wordsOf_take_succ {cs : List HC} {n : Nat} {c : HC} (h : cs[n]? = some c) : wordsOf (cs.take (n + 1)) = wordsOf (cs.take n) + 1 + c.L.length := by
  rw [List.take_add_one, h, wordsOf_append]
  simp [wordsOf]; omega
theorem HGood.len_le {cs : List HC} (hg : HGood cs) {n : Nat} {c : HC} (h : cs[n]? = some c) : c.L.length + 1 ≤ 256 := by
  have h1 := hg.size n c h
  have h2 := hg.most n c h
  have h3 := wsum_ge hg c.L
  omega

/-- A row of cells: its shape, and where the i-th lies. -/
theorem ownC_shape {base n : Nat} {w : World} {v : Value} {xs : List Value} (ho : w.ownsRow base 39 3 v n xs) : ∃ A cap, v = .slice A n cap := by
  rcases ho.2 with ⟨rfl, hn⟩ | ⟨g', cap', cur, rfl, _⟩
  · exact ⟨none, 0, by rw [hn]⟩
  · exact ⟨_, _, rfl⟩
def RowC3 (V : World) (g o : Nat) (c0 c1 c2 : Value) : Prop := V.cell? ⟨g, o, none⟩ = some c0 ∧ V.cell? ⟨g, o + 1, none⟩ = some c1 ∧ V.cell? ⟨g, o + 2, none⟩ = some c2
theorem RowC3.keep {V V' : World} {g o : Nat} {c0 c1 c2 : Value} (h : RowC3 V g o c0 c1 c2) (hb : V'.heap[g]? = V.heap[g]?) : RowC3 V' g o c0 c1 c2 := by
  have k : ∀ i, V'.cell? ⟨g, i, none⟩ = V.cell? ⟨g, i, none⟩ := fun i => World.cell?_of_block (w := V) (a := ⟨g, i, none⟩) hb
  exact ⟨(k _).trans h.1, (k _).trans h.2.1, (k _).trans h.2.2⟩
theorem ownC_at {base : Nat} {w : World} {v : Value} {cs : List HC} {vs : List Value} (ho : w.ownsRow base 39 3 v vs.length (rowC cs vs)) {i : Nat} {c : HC} {u : Value} (hc : cs[i]? = some c) (hu : vs[i]? = some u) :
    ∃ g cap, v = .slice (some ⟨g, 0, none⟩) vs.length cap ∧ g < w.heap.size ∧ RowC3 w g (i * 3) (.int .i8 c.k) (.int .i64 c.size) u := by
  have hn := (List.getElem?_eq_some_iff.1 hu).1
  obtain ⟨h0, h1, h2⟩ := rowC_at hc hu
  have hown := ho
  rcases ho.2 with ⟨_, hz⟩ | ⟨g, cap, cur, rfl, _, hcur, _⟩
  · omega
  · have at_ : ∀ i u, (rowC cs vs)[i]? = some u → w.cell? ⟨g, i, none⟩ = some u := by
      intro i u hi
      have := hown.cells (g := g) rfl i u hi
      rwa [show (⟨g, 0, none⟩ : Addr).add i = ⟨g, i, none⟩ by unfold Addr.add; split <;> simp_all] at this
    exact ⟨g, cap, rfl, heap_lt hcur, at_ _ _ h0, at_ _ _ h1, at_ _ _ h2⟩

set_option maxRecDepth 100000 in
theorem wpList_own_cell {ops : Array Oper} {rest : List Oper} {o : Oper} {a : Act} {w : World} {Q : Exit → Act → World → Prop} (hgd : o.guard = none) (sl x : Operand)
    (ho : o.op = .call { callee := .builtin .append, args := #[sl, x], argTypes := #[54, 54] })
    {base : Nat} {v : Value} {n : Nat} {xs : List Value} (hown : w.ownsRow base 39 3 v n xs) (hbase : base ≤ w.heap.size) (he : a.eval sl = v)
    (g : Nat) {k m : Int} {A : Option Addr} {l cp : Nat} (hx : a.eval x = .slice (some ⟨g, 0, none⟩) 1 1) (hg : w.heap[g]? = some (.cells #[.int .i8 k, .int .i64 m, .slice A l cp] 39 (0, 0))) (hlen : n + 1 ≤ 2000000)
    (h : ∀ v' w', w'.ownsRow base 39 3 v' (n + 1) (xs ++ [.int .i8 k, .int .i64 m, .slice A l cp]) → w.grownBy w' v.ownBlock → (v'.ownBlock = v.ownBlock ∨ v'.ownBlock = some w.heap.size) → wpList Tryd.prog ops Q rest (a.put o.dst v') w') : wpList Tryd.prog ops Q (o :: rest) a w :=
  wpList_plain hgd fun K hK => wp_own_cell sl x ho hown hbase he g hx hg hlen fun v' w' h1 h2 h3 => hK _ _ (h v' w' h1 h2 h3)
end Go.Proofs.YtphfekcacaaabaaDoor
