/- pleachref06.flaw, number. -/
import Derived.Test.YtkaijnbefbggeaaDoorScanP
import Derived.Test.YtkaijnbefbggeaaDoorMod
import Derived.LoopTactic
import Derived.LoopNIn
set_option linter.unusedVariables false
namespace Go.Proofs.YtkaijnbefbggeaaDoor
open Go.RowKit

/-- The boxes of a token and of a flaw, empty, above w. -/
def Box42 (w V : World) : Prop := V.heap[w.heap.size]? = some (.cells #[.int .i8 0, .int .i64 0, .string ⟨#[]⟩, .int .i64 0] 25 (0, 0)) ∧ V.heap[w.heap.size + 1]? = some (.cells #[.int .i64 0, .int .i64 0] 28 (0, 0)) ∧ Below w.heap.size w V
theorem box42 (w w2 : World) (h : w2 = (w.alloc (.cells #[.int .i8 0, .int .i64 0, .string ⟨#[]⟩, .int .i64 0] 25)).alloc (.cells #[.int .i64 0, .int .i64 0] 28)) : Box42 w w2 := by
  have h1 := block_alloc (w.alloc (.cells #[.int .i8 0, .int .i64 0, .string ⟨#[]⟩, .int .i64 0] 25)) (.cells #[.int .i64 0, .int .i64 0] 28)
  rw [World.size_alloc] at h1
  subst h
  exact ⟨(Below.heap_alloc _ _ _ (by simp)).trans (block_alloc _ _), h1, ((Below.refl _ w).alloc (Nat.le_refl _) _).alloc (by simp) _⟩
theorem Box42.under {w V V' : World} (h : Box42 w V) (b : Below V.heap.size V V') : Box42 w V' :=
  ⟨(b.block _ (heap_lt h.1)).trans h.1, (b.block _ (heap_lt h.2.1)).trans h.2.1, h.2.2.trans (b.mono h.2.2.size)⟩
theorem fin_spec {w V : World} (c0 c1 c2 c3 d0 d1 : Value) (h : Box42 w V) :
    (((((((V).setCell ⟨w.heap.size, 0, none⟩ c0).setCell ⟨w.heap.size, 1, none⟩ c1).setCell ⟨w.heap.size, 2, none⟩ c2).setCell ⟨w.heap.size, 3, none⟩ c3).setCell ⟨w.heap.size + 1, 0, none⟩ d0).setCell ⟨w.heap.size + 1, 1, none⟩ d1).heap[w.heap.size]? = some (.cells #[c0, c1, c2, c3] 25 (0, 0)) ∧
    (((((((V).setCell ⟨w.heap.size, 0, none⟩ c0).setCell ⟨w.heap.size, 1, none⟩ c1).setCell ⟨w.heap.size, 2, none⟩ c2).setCell ⟨w.heap.size, 3, none⟩ c3).setCell ⟨w.heap.size + 1, 0, none⟩ d0).setCell ⟨w.heap.size + 1, 1, none⟩ d1).heap[w.heap.size + 1]? = some (.cells #[d0, d1] 28 (0, 0)) ∧
    Below w.heap.size w (((((((V).setCell ⟨w.heap.size, 0, none⟩ c0).setCell ⟨w.heap.size, 1, none⟩ c1).setCell ⟨w.heap.size, 2, none⟩ c2).setCell ⟨w.heap.size, 3, none⟩ c3).setCell ⟨w.heap.size + 1, 0, none⟩ d0).setCell ⟨w.heap.size + 1, 1, none⟩ d1) := by
  obtain ⟨h1, h2, h3⟩ := h
  have m : ∀ (W : World) (b i : Nat) (c : Value), (b = w.heap.size ∨ b = w.heap.size + 1) → Mod (fun k => k = w.heap.size ∨ k = w.heap.size + 1) W (W.setCell ⟨b, i, none⟩ c) := fun W b i c hb => Mod.setCell _ _ _ (.inl hb)
  have m4 : ∀ (W : World) (i : Nat) (c : Value), Mod (fun k => k = w.heap.size) W (W.setCell ⟨w.heap.size, i, none⟩ c) := fun W i c => Mod.setCell _ _ _ (.inl rfl)
  have m6 : ∀ (W : World) (i : Nat) (c : Value), Mod (fun k => k = w.heap.size + 1) W (W.setCell ⟨w.heap.size + 1, i, none⟩ c) := fun W i c => Mod.setCell _ _ _ (.inl rfl)
  have a0 := set_row c0 (i := 0) h1
  have a1 := set_row c1 (i := 1) a0
  have a2 := set_row c2 (i := 2) a1
  have a3 := set_row c3 (i := 3) a2
  have n4 : Mod (fun k => k = w.heap.size) V _ := (((m4 V 0 c0).trans (m4 _ 1 c1) (fun _ _ h => h)).trans (m4 _ 2 c2) (fun _ _ h => h)).trans (m4 _ 3 c3) (fun _ _ h => h)
  have b0 := (n4.block _ (heap_lt h2) (by omega)).trans h2
  have b1 := set_row d0 (i := 0) b0
  have b2 := set_row d1 (i := 1) b1
  generalize (((V.setCell ⟨w.heap.size, 0, none⟩ c0).setCell ⟨w.heap.size, 1, none⟩ c1).setCell ⟨w.heap.size, 2, none⟩ c2).setCell ⟨w.heap.size, 3, none⟩ c3 = V4 at a3 n4 b2 ⊢
  have n6 := (m6 V4 0 d0).trans (m6 _ 1 d1) (fun _ _ h => h)
  exact ⟨(n6.block _ (heap_lt a3) (by omega)).trans a3, b2, (h3.trans (n4.below h3.size (fun k e => Nat.le_of_eq e.symm))).trans (n6.below (Nat.le_trans h3.size n4.size) (fun k e => by omega))⟩

set_option maxHeartbeats 4000000 in
set_option maxRecDepth 100000 in
theorem rflaw_any (e a : Int) (w : World) : Calls Tryd.prog 14 #[.int .i64 e, .int .i64 a] w fun r w' => r = .returned (NR.v ⟨tk0, a, e, a⟩) ∧ Below w.heap.size w w' := by
  obtain ⟨w2, hw2⟩ : ∃ w2, w2 = (w.alloc (.cells #[.int .i8 0, .int .i64 0, .string ⟨#[]⟩, .int .i64 0] 25)).alloc (.cells #[.int .i64 0, .int .i64 0] 28) := ⟨_, rfl⟩
  have hb2 := box42 w w2 hw2
  have HB2 := Lib.hid hb2
  obtain ⟨g4, g6, -⟩ := hb2
  have x0 : w2.cell? ⟨w.heap.size, 0, none⟩ = some (.int .i8 0) := cell_of_row g4 rfl
  have x1 : w2.cell? ⟨w.heap.size, 1, none⟩ = some (.int .i64 0) := cell_of_row g4 rfl
  have x2 : w2.cell? ⟨w.heap.size, 2, none⟩ = some (.string ⟨#[]⟩) := cell_of_row g4 rfl
  have x3 : w2.cell? ⟨w.heap.size, 3, none⟩ = some (.int .i64 0) := cell_of_row g4 rfl
  have fx0 : w2.frozen? ⟨w.heap.size, 0, none⟩ = false := free_of_row g4
  have fx1 : w2.frozen? ⟨w.heap.size, 1, none⟩ = false := free_of_row g4
  have fx2 : w2.frozen? ⟨w.heap.size, 2, none⟩ = false := free_of_row g4
  have fx3 : w2.frozen? ⟨w.heap.size, 3, none⟩ = false := free_of_row g4
  have y0 : w2.cell? ⟨(w.heap.size + 1), 0, none⟩ = some (.int .i64 0) := cell_of_row g6 rfl
  have y1 : w2.cell? ⟨(w.heap.size + 1), 1, none⟩ = some (.int .i64 0) := cell_of_row g6 rfl
  have fy0 : w2.frozen? ⟨(w.heap.size + 1), 0, none⟩ = false := free_of_row g6
  have fy1 : w2.frozen? ⟨(w.heap.size + 1), 1, none⟩ = false := free_of_row g6
  clear g4 g6
  subst hw2
  go_enter Tryd.func14, Tryd.ntmps14
  go_wp2_with fail
  refine bodyPost_ret (v := .tuple #[.agg #[.int .i8 0, .int .i64 0, .string ⟨#[]⟩, .int .i64 0], .int .i64 a, .agg #[.int .i64 e, .int .i64 a]]) (by simp [results, Tryd.f14, go_sem]) rfl ⟨rfl, ((Below.refl _ w).alloc (Nat.le_refl _) _).alloc (by simp) _⟩

/-- What number answers. -/
def numR (l : List UInt8) (a : Nat) : NR := if 576460752303423488 < vl l (dg l) then ⟨tk0, a, 11, a⟩ else ⟨⟨2, vl l (dg l), ⟨#[]⟩, a⟩, a + dg l, 0, 0⟩
set_option maxHeartbeats 4000000 in
set_option maxRecDepth 100000 in
theorem rnumber_any (s : ByteArray) (a : Nat) (hs : a + s.size ≤ 9223372036854775806) (w : World) : Calls Tryd.prog 15 #[.string s, .int .i64 a] w fun r w' =>
    r = .returned (numR s.data.toList a).v ∧ Below w.heap.size w w' := by
  have hdl : dg s.data.toList ≤ s.size := by rw [← size_list]; exact dg_le _
  obtain ⟨w2, hw2⟩ : ∃ w2, w2 = (w.alloc (.cells #[.int .i8 0, .int .i64 0, .string ⟨#[]⟩, .int .i64 0] 25)).alloc (.cells #[.int .i64 0, .int .i64 0] 28) := ⟨_, rfl⟩
  have hb2 := box42 w w2 hw2
  have HB2 := Lib.hid hb2
  obtain ⟨g4, g6, -⟩ := hb2
  have x0 : w2.cell? ⟨w.heap.size, 0, none⟩ = some (.int .i8 0) := cell_of_row g4 rfl
  have x1 : w2.cell? ⟨w.heap.size, 1, none⟩ = some (.int .i64 0) := cell_of_row g4 rfl
  have x2 : w2.cell? ⟨w.heap.size, 2, none⟩ = some (.string ⟨#[]⟩) := cell_of_row g4 rfl
  have x3 : w2.cell? ⟨w.heap.size, 3, none⟩ = some (.int .i64 0) := cell_of_row g4 rfl
  have fx0 : w2.frozen? ⟨w.heap.size, 0, none⟩ = false := free_of_row g4
  have fx1 : w2.frozen? ⟨w.heap.size, 1, none⟩ = false := free_of_row g4
  have fx2 : w2.frozen? ⟨w.heap.size, 2, none⟩ = false := free_of_row g4
  have fx3 : w2.frozen? ⟨w.heap.size, 3, none⟩ = false := free_of_row g4
  have y0 : w2.cell? ⟨(w.heap.size + 1), 0, none⟩ = some (.int .i64 0) := cell_of_row g6 rfl
  have y1 : w2.cell? ⟨(w.heap.size + 1), 1, none⟩ = some (.int .i64 0) := cell_of_row g6 rfl
  have fy0 : w2.frozen? ⟨(w.heap.size + 1), 0, none⟩ = false := free_of_row g6
  have fy1 : w2.frozen? ⟨(w.heap.size + 1), 1, none⟩ = false := free_of_row g6
  clear g4 g6
  subst hw2
  go_enter Tryd.func15, Tryd.ntmps15
  go_wp2_with fail
  generalize (w.alloc (.cells #[.int .i8 0, .int .i64 0, .string ⟨#[]⟩, .int .i64 0] 25)).alloc (.cells #[.int .i64 0, .int .i64 0] 28) = w2 at HB2 ⊢
  clear x0 x1 x2 x3 fx0 fx1 fx2 fx3 y0 y1 fy0 fy1
  go_loopw [7, 8] (fun nv kv wr => ∃ j q : Nat, nv = .int .i64 q ∧ kv = .int .i64 j ∧ j ≤ dg s.data.toList ∧ Hid (q = vl s.data.toList j ∨ (576460752303423488 < q ∧ 576460752303423488 < vl s.data.toList j)) ∧ q ≤ 5764607523034234889 ∧ wr = w2) (fun _ kv _ => s.size - (intOf kv).toNat)
  case atStart => exact ⟨0, 0, rfl, rfl, Nat.zero_le _, .inl rfl, by omega, rfl⟩
  case round =>
    obtain ⟨j, q, rfl, rfl, hj, HQ, hqb, hwr⟩ := hrel
    subst wr
    by_cases hlt : j < s.size
    · by_cases hd : isDig (s.data.toList[j]'(by rw [size_list]; exact hlt)) = true
      · have hdd : 48 ≤ (s[j]'hlt).toNat ∧ (s[j]'hlt).toNat ≤ 57 := of_decide_eq_true hd
        by_cases hm : q ≤ 576460752303423488
        · have hq : q = vl s.data.toList j := by
            rcases HQ.out with h | h
            · exact h
            · omega
          have hjd := dg_at s.data.toList j (by rw [size_list]; exact hlt) hj hd
          have hvs := vl_succ s.data.toList j (by rw [size_list]; exact hlt)
          have hx : (s.data.toList[j]'(by rw [size_list]; exact hlt)).toNat = (s[j]'hlt).toNat := rfl
          rw [hx, ← hq] at hvs
          have HV := Lib.hid hvs
          clear hvs hx hq
          go_wp2_with fail
          go_roundw
          case rel => exact ⟨j + 1, q * 10 + ((s[j]'hlt).toNat - 48), by go_num, by go_num, hjd, .inl HV.out.symm, by omega, trivial⟩
          case measure => simp [intOf]; omega
        · have hjd := dg_at s.data.toList j (by rw [size_list]; exact hlt) hj hd
          have hvs := vl_succ s.data.toList j (by rw [size_list]; exact hlt)
          have HV : Hid (576460752303423488 < vl s.data.toList (j + 1)) := by
            show _ < _
            rcases HQ.out with h | h
            · omega
            · omega
          clear hvs
          go_wp2_with fail
          go_roundw
          case rel => exact ⟨j + 1, q, rfl, by go_num, hjd, .inr ⟨by omega, HV.out⟩, hqb, trivial⟩
          case measure => simp [intOf]; omega
      · have hdd : ¬ (48 ≤ (s[j]'hlt).toNat ∧ (s[j]'hlt).toNat ≤ 57) := fun h => hd (decide_eq_true h)
        have hst := dg_stop s.data.toList j (by rw [size_list]; exact hlt) hj (by simpa using hd)
        have HE : Hid (j = dg s.data.toList) := hst.symm
        clear hst hd
        by_cases h48 : 48 ≤ (s[j]'hlt).toNat
        · have h57 : ¬ (s[j]'hlt).toNat ≤ 57 := fun h => hdd ⟨h48, h⟩
          have HV : Hid ((576460752303423488 < q ↔ 576460752303423488 < vl s.data.toList (dg s.data.toList)) ∧ (¬ 576460752303423488 < q → q = vl s.data.toList (dg s.data.toList))) := by
            rw [← HE.out]
            rcases HQ.out with h | h
            · exact ⟨by rw [h], fun _ => h⟩
            · exact ⟨by constructor <;> (intro; omega), fun h' => absurd h.1 h'⟩
          clear HQ
          by_cases hbig : 576460752303423488 < q
          · obtain ⟨g4, g6, -⟩ := HB2.out
            have x0 : w2.cell? ⟨w.heap.size, 0, none⟩ = some (.int .i8 0) := cell_of_row g4 rfl
            have x1 : w2.cell? ⟨w.heap.size, 1, none⟩ = some (.int .i64 0) := cell_of_row g4 rfl
            have x2 : w2.cell? ⟨w.heap.size, 2, none⟩ = some (.string ⟨#[]⟩) := cell_of_row g4 rfl
            have x3 : w2.cell? ⟨w.heap.size, 3, none⟩ = some (.int .i64 0) := cell_of_row g4 rfl
            have fx0 : w2.frozen? ⟨w.heap.size, 0, none⟩ = false := free_of_row g4
            have fx1 : w2.frozen? ⟨w.heap.size, 1, none⟩ = false := free_of_row g4
            have fx2 : w2.frozen? ⟨w.heap.size, 2, none⟩ = false := free_of_row g4
            have fx3 : w2.frozen? ⟨w.heap.size, 3, none⟩ = false := free_of_row g4
            have y0 : w2.cell? ⟨(w.heap.size + 1), 0, none⟩ = some (.int .i64 0) := cell_of_row g6 rfl
            have y1 : w2.cell? ⟨(w.heap.size + 1), 1, none⟩ = some (.int .i64 0) := cell_of_row g6 rfl
            have fy0 : w2.frozen? ⟨(w.heap.size + 1), 0, none⟩ = false := free_of_row g6
            have fy1 : w2.frozen? ⟨(w.heap.size + 1), 1, none⟩ = false := free_of_row g6
            clear g4 g6
            go_wp2_with fail
            refine (rflaw_any 11 a w2).mono ?_
            rintro r w3 ⟨rfl, b3⟩
            have HB3 := Lib.hid (HB2.out.under b3)
            obtain ⟨g4, g6, -⟩ := HB3.out
            clear x0 x1 x2 x3 fx0 fx1 fx2 fx3 y0 y1 fy0 fy1 b3
            have x0 : w3.cell? ⟨w.heap.size, 0, none⟩ = some (.int .i8 0) := cell_of_row g4 rfl
            have x1 : w3.cell? ⟨w.heap.size, 1, none⟩ = some (.int .i64 0) := cell_of_row g4 rfl
            have x2 : w3.cell? ⟨w.heap.size, 2, none⟩ = some (.string ⟨#[]⟩) := cell_of_row g4 rfl
            have x3 : w3.cell? ⟨w.heap.size, 3, none⟩ = some (.int .i64 0) := cell_of_row g4 rfl
            have fx0 : w3.frozen? ⟨w.heap.size, 0, none⟩ = false := free_of_row g4
            have fx1 : w3.frozen? ⟨w.heap.size, 1, none⟩ = false := free_of_row g4
            have fx2 : w3.frozen? ⟨w.heap.size, 2, none⟩ = false := free_of_row g4
            have fx3 : w3.frozen? ⟨w.heap.size, 3, none⟩ = false := free_of_row g4
            have y0 : w3.cell? ⟨(w.heap.size + 1), 0, none⟩ = some (.int .i64 0) := cell_of_row g6 rfl
            have y1 : w3.cell? ⟨(w.heap.size + 1), 1, none⟩ = some (.int .i64 0) := cell_of_row g6 rfl
            have fy0 : w3.frozen? ⟨(w.heap.size + 1), 0, none⟩ = false := free_of_row g6
            have fy1 : w3.frozen? ⟨(w.heap.size + 1), 1, none⟩ = false := free_of_row g6
            clear g4 g6
            simp only [NR.v, Tk.v, tk0]
            go_wp2_with fail
            obtain ⟨s4, s6, m7⟩ := fin_spec (.int .i8 0) (.int .i64 0) (.string ⟨#[]⟩) (.int .i64 0) (.int .i64 11) (.int .i64 a) HB3.out
            generalize ((((((w3).setCell ⟨w.heap.size, 0, none⟩ (.int .i8 0)).setCell ⟨w.heap.size, 1, none⟩ (.int .i64 0)).setCell ⟨w.heap.size, 2, none⟩ (.string ⟨#[]⟩)).setCell ⟨w.heap.size, 3, none⟩ (.int .i64 0)).setCell ⟨w.heap.size + 1, 0, none⟩ (.int .i64 11)).setCell ⟨w.heap.size + 1, 1, none⟩ (.int .i64 a) = w7 at s4 s6 m7 ⊢
            clear x0 x1 x2 x3 fx0 fx1 fx2 fx3 y0 y1 fy0 fy1
            have x0 : w7.cell? ⟨w.heap.size, 0, none⟩ = some (.int .i8 0) := cell_of_row s4 rfl
            have x1 : w7.cell? ⟨w.heap.size, 1, none⟩ = some (.int .i64 0) := cell_of_row s4 rfl
            have x2 : w7.cell? ⟨w.heap.size, 2, none⟩ = some (.string ⟨#[]⟩) := cell_of_row s4 rfl
            have x3 : w7.cell? ⟨w.heap.size, 3, none⟩ = some (.int .i64 0) := cell_of_row s4 rfl
            have y0 : w7.cell? ⟨(w.heap.size + 1), 0, none⟩ = some (.int .i64 11) := cell_of_row s6 rfl
            have y1 : w7.cell? ⟨(w.heap.size + 1), 1, none⟩ = some (.int .i64 a) := cell_of_row s6 rfl
            have HM7 := Lib.hid m7
            clear s4 s6 m7
            refine bodyPost_ret (v := .tuple #[.agg #[.int .i8 0, .int .i64 0, .string ⟨#[]⟩, .int .i64 0], .int .i64 a, .agg #[.int .i64 11, .int .i64 a]]) (by simp [results, Tryd.f15, go_sem, x0, x1, x2, x3, y0, y1]) rfl ⟨by unfold numR; rw [if_pos (HV.out.1.1 hbig)]; rfl, HM7.out⟩
          · obtain ⟨g4, g6, -⟩ := HB2.out
            have x0 : w2.cell? ⟨w.heap.size, 0, none⟩ = some (.int .i8 0) := cell_of_row g4 rfl
            have x1 : w2.cell? ⟨w.heap.size, 1, none⟩ = some (.int .i64 0) := cell_of_row g4 rfl
            have x2 : w2.cell? ⟨w.heap.size, 2, none⟩ = some (.string ⟨#[]⟩) := cell_of_row g4 rfl
            have x3 : w2.cell? ⟨w.heap.size, 3, none⟩ = some (.int .i64 0) := cell_of_row g4 rfl
            have fx0 : w2.frozen? ⟨w.heap.size, 0, none⟩ = false := free_of_row g4
            have fx1 : w2.frozen? ⟨w.heap.size, 1, none⟩ = false := free_of_row g4
            have fx2 : w2.frozen? ⟨w.heap.size, 2, none⟩ = false := free_of_row g4
            have fx3 : w2.frozen? ⟨w.heap.size, 3, none⟩ = false := free_of_row g4
            have y0 : w2.cell? ⟨(w.heap.size + 1), 0, none⟩ = some (.int .i64 0) := cell_of_row g6 rfl
            have y1 : w2.cell? ⟨(w.heap.size + 1), 1, none⟩ = some (.int .i64 0) := cell_of_row g6 rfl
            have fy0 : w2.frozen? ⟨(w.heap.size + 1), 0, none⟩ = false := free_of_row g6
            have fy1 : w2.frozen? ⟨(w.heap.size + 1), 1, none⟩ = false := free_of_row g6
            clear g4 g6
            go_wp2_with fail
            obtain ⟨s4, s6, m7⟩ := fin_spec (.int .i8 2) (.int .i64 q) (.string ⟨#[]⟩) (.int .i64 a) (.int .i64 0) (.int .i64 0) HB2.out
            generalize ((((((w2).setCell ⟨w.heap.size, 0, none⟩ (.int .i8 2)).setCell ⟨w.heap.size, 1, none⟩ (.int .i64 q)).setCell ⟨w.heap.size, 2, none⟩ (.string ⟨#[]⟩)).setCell ⟨w.heap.size, 3, none⟩ (.int .i64 a)).setCell ⟨w.heap.size + 1, 0, none⟩ (.int .i64 0)).setCell ⟨w.heap.size + 1, 1, none⟩ (.int .i64 0) = w7 at s4 s6 m7 ⊢
            clear x0 x1 x2 x3 fx0 fx1 fx2 fx3 y0 y1 fy0 fy1
            have x0 : w7.cell? ⟨w.heap.size, 0, none⟩ = some (.int .i8 2) := cell_of_row s4 rfl
            have x1 : w7.cell? ⟨w.heap.size, 1, none⟩ = some (.int .i64 q) := cell_of_row s4 rfl
            have x2 : w7.cell? ⟨w.heap.size, 2, none⟩ = some (.string ⟨#[]⟩) := cell_of_row s4 rfl
            have x3 : w7.cell? ⟨w.heap.size, 3, none⟩ = some (.int .i64 a) := cell_of_row s4 rfl
            have y0 : w7.cell? ⟨(w.heap.size + 1), 0, none⟩ = some (.int .i64 0) := cell_of_row s6 rfl
            have y1 : w7.cell? ⟨(w.heap.size + 1), 1, none⟩ = some (.int .i64 0) := cell_of_row s6 rfl
            have HM7 := Lib.hid m7
            clear s4 s6 m7
            refine bodyPost_ret (v := .tuple #[.agg #[.int .i8 2, .int .i64 q, .string ⟨#[]⟩, .int .i64 a], .int .i64 (a + j), .agg #[.int .i64 0, .int .i64 0]]) (by simp [results, Tryd.f15, go_sem, x0, x1, x2, x3, y0, y1]) rfl ⟨by unfold numR; rw [if_neg (fun h => hbig (HV.out.1.2 h)), ← HV.out.2 hbig, ← HE.out]; rfl, HM7.out⟩
        · skip
          have HV : Hid ((576460752303423488 < q ↔ 576460752303423488 < vl s.data.toList (dg s.data.toList)) ∧ (¬ 576460752303423488 < q → q = vl s.data.toList (dg s.data.toList))) := by
            rw [← HE.out]
            rcases HQ.out with h | h
            · exact ⟨by rw [h], fun _ => h⟩
            · exact ⟨by constructor <;> (intro; omega), fun h' => absurd h.1 h'⟩
          clear HQ
          by_cases hbig : 576460752303423488 < q
          · obtain ⟨g4, g6, -⟩ := HB2.out
            have x0 : w2.cell? ⟨w.heap.size, 0, none⟩ = some (.int .i8 0) := cell_of_row g4 rfl
            have x1 : w2.cell? ⟨w.heap.size, 1, none⟩ = some (.int .i64 0) := cell_of_row g4 rfl
            have x2 : w2.cell? ⟨w.heap.size, 2, none⟩ = some (.string ⟨#[]⟩) := cell_of_row g4 rfl
            have x3 : w2.cell? ⟨w.heap.size, 3, none⟩ = some (.int .i64 0) := cell_of_row g4 rfl
            have fx0 : w2.frozen? ⟨w.heap.size, 0, none⟩ = false := free_of_row g4
            have fx1 : w2.frozen? ⟨w.heap.size, 1, none⟩ = false := free_of_row g4
            have fx2 : w2.frozen? ⟨w.heap.size, 2, none⟩ = false := free_of_row g4
            have fx3 : w2.frozen? ⟨w.heap.size, 3, none⟩ = false := free_of_row g4
            have y0 : w2.cell? ⟨(w.heap.size + 1), 0, none⟩ = some (.int .i64 0) := cell_of_row g6 rfl
            have y1 : w2.cell? ⟨(w.heap.size + 1), 1, none⟩ = some (.int .i64 0) := cell_of_row g6 rfl
            have fy0 : w2.frozen? ⟨(w.heap.size + 1), 0, none⟩ = false := free_of_row g6
            have fy1 : w2.frozen? ⟨(w.heap.size + 1), 1, none⟩ = false := free_of_row g6
            clear g4 g6
            go_wp2_with fail
            refine (rflaw_any 11 a w2).mono ?_
            rintro r w3 ⟨rfl, b3⟩
            have HB3 := Lib.hid (HB2.out.under b3)
            obtain ⟨g4, g6, -⟩ := HB3.out
            clear x0 x1 x2 x3 fx0 fx1 fx2 fx3 y0 y1 fy0 fy1 b3
            have x0 : w3.cell? ⟨w.heap.size, 0, none⟩ = some (.int .i8 0) := cell_of_row g4 rfl
            have x1 : w3.cell? ⟨w.heap.size, 1, none⟩ = some (.int .i64 0) := cell_of_row g4 rfl
            have x2 : w3.cell? ⟨w.heap.size, 2, none⟩ = some (.string ⟨#[]⟩) := cell_of_row g4 rfl
            have x3 : w3.cell? ⟨w.heap.size, 3, none⟩ = some (.int .i64 0) := cell_of_row g4 rfl
            have fx0 : w3.frozen? ⟨w.heap.size, 0, none⟩ = false := free_of_row g4
            have fx1 : w3.frozen? ⟨w.heap.size, 1, none⟩ = false := free_of_row g4
            have fx2 : w3.frozen? ⟨w.heap.size, 2, none⟩ = false := free_of_row g4
            have fx3 : w3.frozen? ⟨w.heap.size, 3, none⟩ = false := free_of_row g4
            have y0 : w3.cell? ⟨(w.heap.size + 1), 0, none⟩ = some (.int .i64 0) := cell_of_row g6 rfl
            have y1 : w3.cell? ⟨(w.heap.size + 1), 1, none⟩ = some (.int .i64 0) := cell_of_row g6 rfl
            have fy0 : w3.frozen? ⟨(w.heap.size + 1), 0, none⟩ = false := free_of_row g6
            have fy1 : w3.frozen? ⟨(w.heap.size + 1), 1, none⟩ = false := free_of_row g6
            clear g4 g6
            simp only [NR.v, Tk.v, tk0]
            go_wp2_with fail
            obtain ⟨s4, s6, m7⟩ := fin_spec (.int .i8 0) (.int .i64 0) (.string ⟨#[]⟩) (.int .i64 0) (.int .i64 11) (.int .i64 a) HB3.out
            generalize ((((((w3).setCell ⟨w.heap.size, 0, none⟩ (.int .i8 0)).setCell ⟨w.heap.size, 1, none⟩ (.int .i64 0)).setCell ⟨w.heap.size, 2, none⟩ (.string ⟨#[]⟩)).setCell ⟨w.heap.size, 3, none⟩ (.int .i64 0)).setCell ⟨w.heap.size + 1, 0, none⟩ (.int .i64 11)).setCell ⟨w.heap.size + 1, 1, none⟩ (.int .i64 a) = w7 at s4 s6 m7 ⊢
            clear x0 x1 x2 x3 fx0 fx1 fx2 fx3 y0 y1 fy0 fy1
            have x0 : w7.cell? ⟨w.heap.size, 0, none⟩ = some (.int .i8 0) := cell_of_row s4 rfl
            have x1 : w7.cell? ⟨w.heap.size, 1, none⟩ = some (.int .i64 0) := cell_of_row s4 rfl
            have x2 : w7.cell? ⟨w.heap.size, 2, none⟩ = some (.string ⟨#[]⟩) := cell_of_row s4 rfl
            have x3 : w7.cell? ⟨w.heap.size, 3, none⟩ = some (.int .i64 0) := cell_of_row s4 rfl
            have y0 : w7.cell? ⟨(w.heap.size + 1), 0, none⟩ = some (.int .i64 11) := cell_of_row s6 rfl
            have y1 : w7.cell? ⟨(w.heap.size + 1), 1, none⟩ = some (.int .i64 a) := cell_of_row s6 rfl
            have HM7 := Lib.hid m7
            clear s4 s6 m7
            refine bodyPost_ret (v := .tuple #[.agg #[.int .i8 0, .int .i64 0, .string ⟨#[]⟩, .int .i64 0], .int .i64 a, .agg #[.int .i64 11, .int .i64 a]]) (by simp [results, Tryd.f15, go_sem, x0, x1, x2, x3, y0, y1]) rfl ⟨by unfold numR; rw [if_pos (HV.out.1.1 hbig)]; rfl, HM7.out⟩
          · obtain ⟨g4, g6, -⟩ := HB2.out
            have x0 : w2.cell? ⟨w.heap.size, 0, none⟩ = some (.int .i8 0) := cell_of_row g4 rfl
            have x1 : w2.cell? ⟨w.heap.size, 1, none⟩ = some (.int .i64 0) := cell_of_row g4 rfl
            have x2 : w2.cell? ⟨w.heap.size, 2, none⟩ = some (.string ⟨#[]⟩) := cell_of_row g4 rfl
            have x3 : w2.cell? ⟨w.heap.size, 3, none⟩ = some (.int .i64 0) := cell_of_row g4 rfl
            have fx0 : w2.frozen? ⟨w.heap.size, 0, none⟩ = false := free_of_row g4
            have fx1 : w2.frozen? ⟨w.heap.size, 1, none⟩ = false := free_of_row g4
            have fx2 : w2.frozen? ⟨w.heap.size, 2, none⟩ = false := free_of_row g4
            have fx3 : w2.frozen? ⟨w.heap.size, 3, none⟩ = false := free_of_row g4
            have y0 : w2.cell? ⟨(w.heap.size + 1), 0, none⟩ = some (.int .i64 0) := cell_of_row g6 rfl
            have y1 : w2.cell? ⟨(w.heap.size + 1), 1, none⟩ = some (.int .i64 0) := cell_of_row g6 rfl
            have fy0 : w2.frozen? ⟨(w.heap.size + 1), 0, none⟩ = false := free_of_row g6
            have fy1 : w2.frozen? ⟨(w.heap.size + 1), 1, none⟩ = false := free_of_row g6
            clear g4 g6
            go_wp2_with fail
            obtain ⟨s4, s6, m7⟩ := fin_spec (.int .i8 2) (.int .i64 q) (.string ⟨#[]⟩) (.int .i64 a) (.int .i64 0) (.int .i64 0) HB2.out
            generalize ((((((w2).setCell ⟨w.heap.size, 0, none⟩ (.int .i8 2)).setCell ⟨w.heap.size, 1, none⟩ (.int .i64 q)).setCell ⟨w.heap.size, 2, none⟩ (.string ⟨#[]⟩)).setCell ⟨w.heap.size, 3, none⟩ (.int .i64 a)).setCell ⟨w.heap.size + 1, 0, none⟩ (.int .i64 0)).setCell ⟨w.heap.size + 1, 1, none⟩ (.int .i64 0) = w7 at s4 s6 m7 ⊢
            clear x0 x1 x2 x3 fx0 fx1 fx2 fx3 y0 y1 fy0 fy1
            have x0 : w7.cell? ⟨w.heap.size, 0, none⟩ = some (.int .i8 2) := cell_of_row s4 rfl
            have x1 : w7.cell? ⟨w.heap.size, 1, none⟩ = some (.int .i64 q) := cell_of_row s4 rfl
            have x2 : w7.cell? ⟨w.heap.size, 2, none⟩ = some (.string ⟨#[]⟩) := cell_of_row s4 rfl
            have x3 : w7.cell? ⟨w.heap.size, 3, none⟩ = some (.int .i64 a) := cell_of_row s4 rfl
            have y0 : w7.cell? ⟨(w.heap.size + 1), 0, none⟩ = some (.int .i64 0) := cell_of_row s6 rfl
            have y1 : w7.cell? ⟨(w.heap.size + 1), 1, none⟩ = some (.int .i64 0) := cell_of_row s6 rfl
            have HM7 := Lib.hid m7
            clear s4 s6 m7
            refine bodyPost_ret (v := .tuple #[.agg #[.int .i8 2, .int .i64 q, .string ⟨#[]⟩, .int .i64 a], .int .i64 (a + j), .agg #[.int .i64 0, .int .i64 0]]) (by simp [results, Tryd.f15, go_sem, x0, x1, x2, x3, y0, y1]) rfl ⟨by unfold numR; rw [if_neg (fun h => hbig (HV.out.1.2 h)), ← HV.out.2 hbig, ← HE.out]; rfl, HM7.out⟩
    · have HE : Hid (j = dg s.data.toList) := by show _ = _; omega
      have HV : Hid ((576460752303423488 < q ↔ 576460752303423488 < vl s.data.toList (dg s.data.toList)) ∧ (¬ 576460752303423488 < q → q = vl s.data.toList (dg s.data.toList))) := by
        rw [← HE.out]
        rcases HQ.out with h | h
        · exact ⟨by rw [h], fun _ => h⟩
        · exact ⟨by constructor <;> (intro; omega), fun h' => absurd h.1 h'⟩
      clear HQ
      by_cases hbig : 576460752303423488 < q
      · obtain ⟨g4, g6, -⟩ := HB2.out
        have x0 : w2.cell? ⟨w.heap.size, 0, none⟩ = some (.int .i8 0) := cell_of_row g4 rfl
        have x1 : w2.cell? ⟨w.heap.size, 1, none⟩ = some (.int .i64 0) := cell_of_row g4 rfl
        have x2 : w2.cell? ⟨w.heap.size, 2, none⟩ = some (.string ⟨#[]⟩) := cell_of_row g4 rfl
        have x3 : w2.cell? ⟨w.heap.size, 3, none⟩ = some (.int .i64 0) := cell_of_row g4 rfl
        have fx0 : w2.frozen? ⟨w.heap.size, 0, none⟩ = false := free_of_row g4
        have fx1 : w2.frozen? ⟨w.heap.size, 1, none⟩ = false := free_of_row g4
        have fx2 : w2.frozen? ⟨w.heap.size, 2, none⟩ = false := free_of_row g4
        have fx3 : w2.frozen? ⟨w.heap.size, 3, none⟩ = false := free_of_row g4
        have y0 : w2.cell? ⟨(w.heap.size + 1), 0, none⟩ = some (.int .i64 0) := cell_of_row g6 rfl
        have y1 : w2.cell? ⟨(w.heap.size + 1), 1, none⟩ = some (.int .i64 0) := cell_of_row g6 rfl
        have fy0 : w2.frozen? ⟨(w.heap.size + 1), 0, none⟩ = false := free_of_row g6
        have fy1 : w2.frozen? ⟨(w.heap.size + 1), 1, none⟩ = false := free_of_row g6
        clear g4 g6
        go_wp2_with fail
        refine (rflaw_any 11 a w2).mono ?_
        rintro r w3 ⟨rfl, b3⟩
        have HB3 := Lib.hid (HB2.out.under b3)
        obtain ⟨g4, g6, -⟩ := HB3.out
        clear x0 x1 x2 x3 fx0 fx1 fx2 fx3 y0 y1 fy0 fy1 b3
        have x0 : w3.cell? ⟨w.heap.size, 0, none⟩ = some (.int .i8 0) := cell_of_row g4 rfl
        have x1 : w3.cell? ⟨w.heap.size, 1, none⟩ = some (.int .i64 0) := cell_of_row g4 rfl
        have x2 : w3.cell? ⟨w.heap.size, 2, none⟩ = some (.string ⟨#[]⟩) := cell_of_row g4 rfl
        have x3 : w3.cell? ⟨w.heap.size, 3, none⟩ = some (.int .i64 0) := cell_of_row g4 rfl
        have fx0 : w3.frozen? ⟨w.heap.size, 0, none⟩ = false := free_of_row g4
        have fx1 : w3.frozen? ⟨w.heap.size, 1, none⟩ = false := free_of_row g4
        have fx2 : w3.frozen? ⟨w.heap.size, 2, none⟩ = false := free_of_row g4
        have fx3 : w3.frozen? ⟨w.heap.size, 3, none⟩ = false := free_of_row g4
        have y0 : w3.cell? ⟨(w.heap.size + 1), 0, none⟩ = some (.int .i64 0) := cell_of_row g6 rfl
        have y1 : w3.cell? ⟨(w.heap.size + 1), 1, none⟩ = some (.int .i64 0) := cell_of_row g6 rfl
        have fy0 : w3.frozen? ⟨(w.heap.size + 1), 0, none⟩ = false := free_of_row g6
        have fy1 : w3.frozen? ⟨(w.heap.size + 1), 1, none⟩ = false := free_of_row g6
        clear g4 g6
        simp only [NR.v, Tk.v, tk0]
        go_wp2_with fail
        obtain ⟨s4, s6, m7⟩ := fin_spec (.int .i8 0) (.int .i64 0) (.string ⟨#[]⟩) (.int .i64 0) (.int .i64 11) (.int .i64 a) HB3.out
        generalize ((((((w3).setCell ⟨w.heap.size, 0, none⟩ (.int .i8 0)).setCell ⟨w.heap.size, 1, none⟩ (.int .i64 0)).setCell ⟨w.heap.size, 2, none⟩ (.string ⟨#[]⟩)).setCell ⟨w.heap.size, 3, none⟩ (.int .i64 0)).setCell ⟨w.heap.size + 1, 0, none⟩ (.int .i64 11)).setCell ⟨w.heap.size + 1, 1, none⟩ (.int .i64 a) = w7 at s4 s6 m7 ⊢
        clear x0 x1 x2 x3 fx0 fx1 fx2 fx3 y0 y1 fy0 fy1
        have x0 : w7.cell? ⟨w.heap.size, 0, none⟩ = some (.int .i8 0) := cell_of_row s4 rfl
        have x1 : w7.cell? ⟨w.heap.size, 1, none⟩ = some (.int .i64 0) := cell_of_row s4 rfl
        have x2 : w7.cell? ⟨w.heap.size, 2, none⟩ = some (.string ⟨#[]⟩) := cell_of_row s4 rfl
        have x3 : w7.cell? ⟨w.heap.size, 3, none⟩ = some (.int .i64 0) := cell_of_row s4 rfl
        have y0 : w7.cell? ⟨(w.heap.size + 1), 0, none⟩ = some (.int .i64 11) := cell_of_row s6 rfl
        have y1 : w7.cell? ⟨(w.heap.size + 1), 1, none⟩ = some (.int .i64 a) := cell_of_row s6 rfl
        have HM7 := Lib.hid m7
        clear s4 s6 m7
        refine bodyPost_ret (v := .tuple #[.agg #[.int .i8 0, .int .i64 0, .string ⟨#[]⟩, .int .i64 0], .int .i64 a, .agg #[.int .i64 11, .int .i64 a]]) (by simp [results, Tryd.f15, go_sem, x0, x1, x2, x3, y0, y1]) rfl ⟨by unfold numR; rw [if_pos (HV.out.1.1 hbig)]; rfl, HM7.out⟩
      · obtain ⟨g4, g6, -⟩ := HB2.out
        have x0 : w2.cell? ⟨w.heap.size, 0, none⟩ = some (.int .i8 0) := cell_of_row g4 rfl
        have x1 : w2.cell? ⟨w.heap.size, 1, none⟩ = some (.int .i64 0) := cell_of_row g4 rfl
        have x2 : w2.cell? ⟨w.heap.size, 2, none⟩ = some (.string ⟨#[]⟩) := cell_of_row g4 rfl
        have x3 : w2.cell? ⟨w.heap.size, 3, none⟩ = some (.int .i64 0) := cell_of_row g4 rfl
        have fx0 : w2.frozen? ⟨w.heap.size, 0, none⟩ = false := free_of_row g4
        have fx1 : w2.frozen? ⟨w.heap.size, 1, none⟩ = false := free_of_row g4
        have fx2 : w2.frozen? ⟨w.heap.size, 2, none⟩ = false := free_of_row g4
        have fx3 : w2.frozen? ⟨w.heap.size, 3, none⟩ = false := free_of_row g4
        have y0 : w2.cell? ⟨(w.heap.size + 1), 0, none⟩ = some (.int .i64 0) := cell_of_row g6 rfl
        have y1 : w2.cell? ⟨(w.heap.size + 1), 1, none⟩ = some (.int .i64 0) := cell_of_row g6 rfl
        have fy0 : w2.frozen? ⟨(w.heap.size + 1), 0, none⟩ = false := free_of_row g6
        have fy1 : w2.frozen? ⟨(w.heap.size + 1), 1, none⟩ = false := free_of_row g6
        clear g4 g6
        go_wp2_with fail
        obtain ⟨s4, s6, m7⟩ := fin_spec (.int .i8 2) (.int .i64 q) (.string ⟨#[]⟩) (.int .i64 a) (.int .i64 0) (.int .i64 0) HB2.out
        generalize ((((((w2).setCell ⟨w.heap.size, 0, none⟩ (.int .i8 2)).setCell ⟨w.heap.size, 1, none⟩ (.int .i64 q)).setCell ⟨w.heap.size, 2, none⟩ (.string ⟨#[]⟩)).setCell ⟨w.heap.size, 3, none⟩ (.int .i64 a)).setCell ⟨w.heap.size + 1, 0, none⟩ (.int .i64 0)).setCell ⟨w.heap.size + 1, 1, none⟩ (.int .i64 0) = w7 at s4 s6 m7 ⊢
        clear x0 x1 x2 x3 fx0 fx1 fx2 fx3 y0 y1 fy0 fy1
        have x0 : w7.cell? ⟨w.heap.size, 0, none⟩ = some (.int .i8 2) := cell_of_row s4 rfl
        have x1 : w7.cell? ⟨w.heap.size, 1, none⟩ = some (.int .i64 q) := cell_of_row s4 rfl
        have x2 : w7.cell? ⟨w.heap.size, 2, none⟩ = some (.string ⟨#[]⟩) := cell_of_row s4 rfl
        have x3 : w7.cell? ⟨w.heap.size, 3, none⟩ = some (.int .i64 a) := cell_of_row s4 rfl
        have y0 : w7.cell? ⟨(w.heap.size + 1), 0, none⟩ = some (.int .i64 0) := cell_of_row s6 rfl
        have y1 : w7.cell? ⟨(w.heap.size + 1), 1, none⟩ = some (.int .i64 0) := cell_of_row s6 rfl
        have HM7 := Lib.hid m7
        clear s4 s6 m7
        refine bodyPost_ret (v := .tuple #[.agg #[.int .i8 2, .int .i64 q, .string ⟨#[]⟩, .int .i64 a], .int .i64 (a + j), .agg #[.int .i64 0, .int .i64 0]]) (by simp [results, Tryd.f15, go_sem, x0, x1, x2, x3, y0, y1]) rfl ⟨by unfold numR; rw [if_neg (fun h => hbig (HV.out.1.2 h)), ← HV.out.2 hbig, ← HE.out]; rfl, HM7.out⟩
end Go.Proofs.YtkaijnbefbggeaaDoor
