/- The program's own scan.Next: its contract. -/
import Derived.Test.YtkaijnbefbggeaaDoorScanX
import Derived.Deep.Cut
set_option linter.unusedVariables false
namespace Go.Proofs.YtkaijnbefbggeaaDoor
open Go.RowKit

theorem tok_bad {l : List UInt8} {e : Int} (h : tokL l = .bad e) : e = 11 ∨ e = 60 := by
  cases l with
  | nil => cases h; exact .inr rfl
  | cons c t =>
    unfold tokL at h
    dsimp only at h
    split at h
    · split at h
      · cases h; exact .inl rfl
      · cases h
    · split at h
      · split at h
        · cases h; exact .inl rfl
        · cases h
      · split at h
        · cases h
        · split at h
          · cases h; exact .inr rfl
          · cases h
theorem tok_bytes (s : ByteArray) (b sl : Nat) : (⟨((s.data.toList.drop b).take sl).toArray⟩ : ByteArray) = if sl = 0 then ⟨#[]⟩ else s.extract b (b + sl) := by
  split
  · rename_i h; subst h; rfl
  · apply ByteArray.ext
    apply Array.toList_inj.1
    rw [ext_list, List.drop_take, show b + sl - b = sl by omega]

theorem box_any {w V : World} {T4 T6 : TypeId} {a0 a1 a2 a3 e0 e1 : Value} (c0 c1 c2 c3 : Value) (h4 : V.heap[w.heap.size]? = some (.cells #[a0, a1, a2, a3] T4 (0, 0))) (h6 : V.heap[w.heap.size + 1]? = some (.cells #[e0, e1] T6 (0, 0))) (hb : Below w.heap.size w V) :
    ((((V.setCell ⟨w.heap.size, 0, none⟩ c0).setCell ⟨w.heap.size, 1, none⟩ c1).setCell ⟨w.heap.size, 2, none⟩ c2).setCell ⟨w.heap.size, 3, none⟩ c3).heap[w.heap.size]? = some (.cells #[c0, c1, c2, c3] T4 (0, 0)) ∧
    ((((V.setCell ⟨w.heap.size, 0, none⟩ c0).setCell ⟨w.heap.size, 1, none⟩ c1).setCell ⟨w.heap.size, 2, none⟩ c2).setCell ⟨w.heap.size, 3, none⟩ c3).heap[w.heap.size + 1]? = some (.cells #[e0, e1] T6 (0, 0)) ∧
    Below w.heap.size w ((((V.setCell ⟨w.heap.size, 0, none⟩ c0).setCell ⟨w.heap.size, 1, none⟩ c1).setCell ⟨w.heap.size, 2, none⟩ c2).setCell ⟨w.heap.size, 3, none⟩ c3) := by
  have m : ∀ (W : World) (i : Nat) (c : Value), Mod (fun k => k = w.heap.size) W (W.setCell ⟨w.heap.size, i, none⟩ c) := fun W i c => Mod.setCell _ _ _ (.inl rfl)
  have n4 := (((m V 0 c0).trans (m _ 1 c1) (fun _ _ h => h)).trans (m _ 2 c2) (fun _ _ h => h)).trans (m _ 3 c3) (fun _ _ h => h)
  exact ⟨set_row c3 (i := 3) (set_row c2 (i := 2) (set_row c1 (i := 1) (set_row c0 (i := 0) h4))), (n4.block _ (heap_lt h6) (by omega)).trans h6, hb.trans (n4.below hb.size (fun k e => Nat.le_of_eq e.symm))⟩
theorem box_three {w V : World} {T4 T6 : TypeId} {a0 a1 a2 a3 e0 e1 : Value} (c3 : Value) (h : V.heap[w.heap.size]? = some (.cells #[a0, a1, a2, a3] T4 (0, 0)) ∧ V.heap[w.heap.size + 1]? = some (.cells #[e0, e1] T6 (0, 0)) ∧ Below w.heap.size w V) :
    (V.setCell ⟨w.heap.size, 3, none⟩ c3).heap[w.heap.size]? = some (.cells #[a0, a1, a2, c3] T4 (0, 0)) ∧ (V.setCell ⟨w.heap.size, 3, none⟩ c3).heap[w.heap.size + 1]? = some (.cells #[e0, e1] T6 (0, 0)) ∧ Below w.heap.size w (V.setCell ⟨w.heap.size, 3, none⟩ c3) := by
  obtain ⟨h4, h6, hb⟩ := h
  have m : Mod (fun k => k = w.heap.size) V (V.setCell ⟨w.heap.size, 3, none⟩ c3) := Mod.setCell _ _ _ (.inl rfl)
  exact ⟨set_row c3 (i := 3) h4, (m.block _ (heap_lt h6) (by omega)).trans h6, hb.trans (m.below hb.size (fun k e => Nat.le_of_eq e.symm))⟩
theorem fin_any {w V : World} {T4 T6 : TypeId} {a0 a1 a2 a3 e0 e1 : Value} (c0 c1 c2 c3 d0 d1 : Value) (h : V.heap[w.heap.size]? = some (.cells #[a0, a1, a2, a3] T4 (0, 0)) ∧ V.heap[w.heap.size + 1]? = some (.cells #[e0, e1] T6 (0, 0)) ∧ Below w.heap.size w V) :
    ((((((V.setCell ⟨w.heap.size, 0, none⟩ c0).setCell ⟨w.heap.size, 1, none⟩ c1).setCell ⟨w.heap.size, 2, none⟩ c2).setCell ⟨w.heap.size, 3, none⟩ c3).setCell ⟨w.heap.size + 1, 0, none⟩ d0).setCell ⟨w.heap.size + 1, 1, none⟩ d1).heap[w.heap.size]? = some (.cells #[c0, c1, c2, c3] T4 (0, 0)) ∧
    ((((((V.setCell ⟨w.heap.size, 0, none⟩ c0).setCell ⟨w.heap.size, 1, none⟩ c1).setCell ⟨w.heap.size, 2, none⟩ c2).setCell ⟨w.heap.size, 3, none⟩ c3).setCell ⟨w.heap.size + 1, 0, none⟩ d0).setCell ⟨w.heap.size + 1, 1, none⟩ d1).heap[w.heap.size + 1]? = some (.cells #[d0, d1] T6 (0, 0)) ∧
    Below w.heap.size w ((((((V.setCell ⟨w.heap.size, 0, none⟩ c0).setCell ⟨w.heap.size, 1, none⟩ c1).setCell ⟨w.heap.size, 2, none⟩ c2).setCell ⟨w.heap.size, 3, none⟩ c3).setCell ⟨w.heap.size + 1, 0, none⟩ d0).setCell ⟨w.heap.size + 1, 1, none⟩ d1) := by
  obtain ⟨g4, g6, b⟩ := box_any c0 c1 c2 c3 h.1 h.2.1 h.2.2
  generalize (((V.setCell ⟨w.heap.size, 0, none⟩ c0).setCell ⟨w.heap.size, 1, none⟩ c1).setCell ⟨w.heap.size, 2, none⟩ c2).setCell ⟨w.heap.size, 3, none⟩ c3 = V4 at g4 g6 b ⊢
  have m6 : ∀ (W : World) (i : Nat) (c : Value), Mod (fun k => k = w.heap.size + 1) W (W.setCell ⟨w.heap.size + 1, i, none⟩ c) := fun W i c => Mod.setCell _ _ _ (.inl rfl)
  have n6 := (m6 V4 0 d0).trans (m6 _ 1 d1) (fun _ _ h => h)
  exact ⟨(n6.block _ (heap_lt g4) (by omega)).trans g4, set_row d1 (i := 1) (set_row d0 (i := 0) g6), b.trans (n6.below b.size (fun k e => by omega))⟩
theorem box_same {w V : World} (h : Box42 w V) : Box42 w ((((V.setCell ⟨w.heap.size, 0, none⟩ (.int .i8 0)).setCell ⟨w.heap.size, 1, none⟩ (.int .i64 0)).setCell ⟨w.heap.size, 2, none⟩ (.string ⟨#[]⟩)).setCell ⟨w.heap.size, 3, none⟩ (.int .i64 0)) := by
  have m : ∀ (W : World) (i : Nat) (c : Value), Mod (fun k => k = w.heap.size) W (W.setCell ⟨w.heap.size, i, none⟩ c) := fun W i c => Mod.setCell _ _ _ (.inl rfl)
  have n4 := (((m V 0 (.int .i8 0)).trans (m _ 1 (.int .i64 0)) (fun _ _ h => h)).trans (m _ 2 (.string ⟨#[]⟩)) (fun _ _ h => h)).trans (m _ 3 (.int .i64 0)) (fun _ _ h => h)
  exact ⟨set_row (.int .i64 0) (i := 3) (set_row (.string ⟨#[]⟩) (i := 2) (set_row (.int .i64 0) (i := 1) (set_row (.int .i8 0) (i := 0) h.1))), (n4.block _ (heap_lt h.2.1) (by omega)).trans h.2.1, h.2.2.trans (n4.below h.2.2.size (fun k e => Nat.le_of_eq e.symm))⟩

set_option maxRecDepth 100000 in
set_option maxHeartbeats 4000000 in
theorem sNext_any (s : ByteArray) (a : Int) (w : World) (hs : s.size ≤ 1000000) (hE : ScanE w) :
    Calls Tryd.prog 7 #[.string s, .int .i64 a] w fun e w' => e = .returned (nextR s a).v ∧ Below w.heap.size w w' := by
  have hl := size_list s
  obtain ⟨w2, hw2⟩ : ∃ w2, w2 = (w.alloc (.cells #[.int .i8 0, .int .i64 0, .string ⟨#[]⟩, .int .i64 0] 25)).alloc (.cells #[.int .i64 0, .int .i64 0] 28) := ⟨_, rfl⟩
  have hb2 := box42 w w2 hw2
  have HB2 := Lib.hid hb2
  have HE2 := Lib.hid (hE.under hb2.2.2)
  clear hb2
  subst hw2
  obtain ⟨T, hT⟩ : ∃ T, T = (nextR s a).v := ⟨_, rfl⟩
  rw [← hT]
  obtain ⟨A, hA⟩ : ∃ A, A = blankR s a := ⟨_, rfl⟩
  by_cases hout : A < 0 ∨ (s.size : Int) ≤ A
  · have HT : Hid (T = NR.v ⟨tk0, A, 60, A⟩) := by
      show _ = _
      rw [hT]
      unfold nextR
      split
      · rename_i h
        have : A = a := by rw [hA]; unfold blankR; rw [if_pos h]
        rw [this]
      · rename_i h
        have h1 : (s.size : Int) ≤ A := by
          rcases hout with h2 | h2
          · rw [hA] at h2; unfold blankR at h2; rw [if_neg h] at h2; omega
          · exact h2
        have h3 : A = s.size := by
          rw [hA] at h1 ⊢
          unfold blankR at h1 ⊢
          rw [if_neg h] at h1 ⊢
          have := blk_le false (s.data.toList.drop a.toNat)
          rw [List.length_drop, hl] at this
          omega
        rw [← hA, if_pos h1, ← h3]
    have HBL : Hid (∀ V, Calls Tryd.prog 9 #[.string s, .int .i64 a] V fun e w' => e = .returned (.int .i64 A) ∧ V = w') := fun V => by rw [hA]; exact sBlank_any s a V hs
    clear hT hA hl
    go_enter Tryd.func7, Tryd.ntmps7
    go_wp2_with fail
    generalize (w.alloc (.cells #[.int .i8 0, .int .i64 0, .string ⟨#[]⟩, .int .i64 0] 25)).alloc (.cells #[.int .i64 0, .int .i64 0] 28) = w2 at HB2 HE2 ⊢
    refine (HBL.out w2).mono ?_
    rintro e w3 ⟨rfl, hq⟩
    subst w3
    have HFL : Hid (∀ V, Calls Tryd.prog 12 #[.int .i64 60, .int .i64 A] V fun e w' => e = .returned (NR.v ⟨tk0, A, 60, A⟩) ∧ Below V.heap.size V w') := fun V => sflawed_any 60 A V
    by_cases hn : A < 0
    · go_wp2_with fail
      refine (HFL.out w2).mono ?_
      rintro e w4 ⟨rfl, b4⟩
      have HB4 := Lib.hid (HB2.out.under b4)
      obtain ⟨g4, g6, -⟩ := HB4.out
      clear b4
      have x0 : w4.cell? ⟨w.heap.size, 0, none⟩ = some (.int .i8 0) := cell_of_row g4 rfl
      have fx0 : w4.frozen? ⟨w.heap.size, 0, none⟩ = false := free_of_row g4
      have x1 : w4.cell? ⟨w.heap.size, 1, none⟩ = some (.int .i64 0) := cell_of_row g4 rfl
      have fx1 : w4.frozen? ⟨w.heap.size, 1, none⟩ = false := free_of_row g4
      have x2 : w4.cell? ⟨w.heap.size, 2, none⟩ = some (.string ⟨#[]⟩) := cell_of_row g4 rfl
      have fx2 : w4.frozen? ⟨w.heap.size, 2, none⟩ = false := free_of_row g4
      have x3 : w4.cell? ⟨w.heap.size, 3, none⟩ = some (.int .i64 0) := cell_of_row g4 rfl
      have fx3 : w4.frozen? ⟨w.heap.size, 3, none⟩ = false := free_of_row g4
      have y0 : w4.cell? ⟨w.heap.size + 1, 0, none⟩ = some (.int .i64 0) := cell_of_row g6 rfl
      have fy0 : w4.frozen? ⟨w.heap.size + 1, 0, none⟩ = false := free_of_row g6
      have y1 : w4.cell? ⟨w.heap.size + 1, 1, none⟩ = some (.int .i64 0) := cell_of_row g6 rfl
      have fy1 : w4.frozen? ⟨w.heap.size + 1, 1, none⟩ = false := free_of_row g6
      clear g4 g6
      simp only [NR.v, Tk.v, tk0]
      go_wp2_with fail
      obtain ⟨g4, g6, m7⟩ := fin_spec (.int .i8 0) (.int .i64 0) (.string ⟨#[]⟩) (.int .i64 0) (.int .i64 60) (.int .i64 A) HB4.out
      generalize ((((((w4.setCell ⟨w.heap.size, 0, none⟩ (.int .i8 0)).setCell ⟨w.heap.size, 1, none⟩ (.int .i64 0)).setCell ⟨w.heap.size, 2, none⟩ (.string ⟨#[]⟩)).setCell ⟨w.heap.size, 3, none⟩ (.int .i64 0)).setCell ⟨w.heap.size + 1, 0, none⟩ (.int .i64 60)).setCell ⟨w.heap.size + 1, 1, none⟩ (.int .i64 A)) = w7 at g4 g6 m7 ⊢
      clear x0 x1 x2 x3 fx0 fx1 fx2 fx3 y0 y1 fy0 fy1
      have x0 : w7.cell? ⟨w.heap.size, 0, none⟩ = some (.int .i8 0) := cell_of_row g4 rfl
      have x1 : w7.cell? ⟨w.heap.size, 1, none⟩ = some (.int .i64 0) := cell_of_row g4 rfl
      have x2 : w7.cell? ⟨w.heap.size, 2, none⟩ = some (.string ⟨#[]⟩) := cell_of_row g4 rfl
      have x3 : w7.cell? ⟨w.heap.size, 3, none⟩ = some (.int .i64 0) := cell_of_row g4 rfl
      have y0 : w7.cell? ⟨w.heap.size + 1, 0, none⟩ = some (.int .i64 60) := cell_of_row g6 rfl
      have y1 : w7.cell? ⟨w.heap.size + 1, 1, none⟩ = some (.int .i64 A) := cell_of_row g6 rfl
      have HM7 := Lib.hid m7
      clear g4 g6 m7
      refine bodyPost_ret (v := NR.v ⟨tk0, A, 60, A⟩) (by simp [results, Tryd.f7, go_sem, x0, x1, x2, x3, y0, y1, NR.v, Tk.v, tk0]) rfl ⟨by rw [HT.out], HM7.out⟩
    · have hge : (s.size : Int) ≤ A := by omega
      go_wp2_with fail
      refine (HFL.out w2).mono ?_
      rintro e w4 ⟨rfl, b4⟩
      have HB4 := Lib.hid (HB2.out.under b4)
      obtain ⟨g4, g6, -⟩ := HB4.out
      clear b4
      have x0 : w4.cell? ⟨w.heap.size, 0, none⟩ = some (.int .i8 0) := cell_of_row g4 rfl
      have fx0 : w4.frozen? ⟨w.heap.size, 0, none⟩ = false := free_of_row g4
      have x1 : w4.cell? ⟨w.heap.size, 1, none⟩ = some (.int .i64 0) := cell_of_row g4 rfl
      have fx1 : w4.frozen? ⟨w.heap.size, 1, none⟩ = false := free_of_row g4
      have x2 : w4.cell? ⟨w.heap.size, 2, none⟩ = some (.string ⟨#[]⟩) := cell_of_row g4 rfl
      have fx2 : w4.frozen? ⟨w.heap.size, 2, none⟩ = false := free_of_row g4
      have x3 : w4.cell? ⟨w.heap.size, 3, none⟩ = some (.int .i64 0) := cell_of_row g4 rfl
      have fx3 : w4.frozen? ⟨w.heap.size, 3, none⟩ = false := free_of_row g4
      have y0 : w4.cell? ⟨w.heap.size + 1, 0, none⟩ = some (.int .i64 0) := cell_of_row g6 rfl
      have fy0 : w4.frozen? ⟨w.heap.size + 1, 0, none⟩ = false := free_of_row g6
      have y1 : w4.cell? ⟨w.heap.size + 1, 1, none⟩ = some (.int .i64 0) := cell_of_row g6 rfl
      have fy1 : w4.frozen? ⟨w.heap.size + 1, 1, none⟩ = false := free_of_row g6
      clear g4 g6
      simp only [NR.v, Tk.v, tk0]
      go_wp2_with fail
      obtain ⟨g4, g6, m7⟩ := fin_spec (.int .i8 0) (.int .i64 0) (.string ⟨#[]⟩) (.int .i64 0) (.int .i64 60) (.int .i64 A) HB4.out
      generalize ((((((w4.setCell ⟨w.heap.size, 0, none⟩ (.int .i8 0)).setCell ⟨w.heap.size, 1, none⟩ (.int .i64 0)).setCell ⟨w.heap.size, 2, none⟩ (.string ⟨#[]⟩)).setCell ⟨w.heap.size, 3, none⟩ (.int .i64 0)).setCell ⟨w.heap.size + 1, 0, none⟩ (.int .i64 60)).setCell ⟨w.heap.size + 1, 1, none⟩ (.int .i64 A)) = w7 at g4 g6 m7 ⊢
      clear x0 x1 x2 x3 fx0 fx1 fx2 fx3 y0 y1 fy0 fy1
      have x0 : w7.cell? ⟨w.heap.size, 0, none⟩ = some (.int .i8 0) := cell_of_row g4 rfl
      have x1 : w7.cell? ⟨w.heap.size, 1, none⟩ = some (.int .i64 0) := cell_of_row g4 rfl
      have x2 : w7.cell? ⟨w.heap.size, 2, none⟩ = some (.string ⟨#[]⟩) := cell_of_row g4 rfl
      have x3 : w7.cell? ⟨w.heap.size, 3, none⟩ = some (.int .i64 0) := cell_of_row g4 rfl
      have y0 : w7.cell? ⟨w.heap.size + 1, 0, none⟩ = some (.int .i64 60) := cell_of_row g6 rfl
      have y1 : w7.cell? ⟨w.heap.size + 1, 1, none⟩ = some (.int .i64 A) := cell_of_row g6 rfl
      have HM7 := Lib.hid m7
      clear g4 g6 m7
      refine bodyPost_ret (v := NR.v ⟨tk0, A, 60, A⟩) (by simp [results, Tryd.f7, go_sem, x0, x1, x2, x3, y0, y1, NR.v, Tk.v, tk0]) rfl ⟨by rw [HT.out], HM7.out⟩
  · obtain ⟨b, hb⟩ : ∃ b : Nat, A = b := ⟨A.toNat, by omega⟩
    subst hb
    have hbs : b < s.size := by omega
    have hna : ¬ (a < 0 ∨ (s.size : Int) < a) := fun h => by
      have : (b : Int) = a := by rw [hA]; unfold blankR; rw [if_pos h]
      omega
    have hTT : T = (tokAt s b).v := by
      rw [hT]; unfold nextR; rw [if_neg hna, ← hA, if_neg (by omega), Int.toNat_natCast]
    have HBL : Hid (∀ V, Calls Tryd.prog 9 #[.string s, .int .i64 a] V fun e w' => e = .returned (.int .i64 (b : Int)) ∧ V = w') := fun V => by rw [hA]; exact sBlank_any s a V hs
    obtain ⟨p, hp⟩ : ∃ p, p = s.extract b s.size := ⟨_, rfl⟩
    have hpl : p.data.toList = s.data.toList.drop b := by rw [hp, ext_rest]
    have hpz : p.size = s.size - b := by rw [← size_list, hpl, List.length_drop, hl]
    have HFI : Hid (∀ V, ScanE V → Calls Tryd.prog 13 #[.string p] V fun e w' => e = .returned ((tokL (s.data.toList.drop b)).tup (s.data.toList.drop b)) ∧ Below V.heap.size V w') := fun V hV => by
      rw [← hpl]; exact sfirst_any p V (by omega) (by omega) hV
    have HFL : Hid (∀ (er : Int) V, Calls Tryd.prog 12 #[.int .i64 er, .int .i64 (b : Int)] V fun e w' => e = .returned (NR.v ⟨tk0, b, er, b⟩) ∧ Below V.heap.size V w') := fun er V => sflawed_any er b V
    have hn : ¬ (b : Int) < 0 := by omega
    clear hT hA hna hout hpl hpz hl
    unfold tokAt at hTT
    cases hk : tokL (s.data.toList.drop b) with
    | bad er =>
      rw [hk] at HFI hTT
      have her := tok_bad hk
      have HTT := Lib.hid hTT
      clear hk hTT
      rcases her with rfl | rfl
      · go_enter Tryd.func7, Tryd.ntmps7
        go_wp2_with fail
        generalize (w.alloc (.cells #[.int .i8 0, .int .i64 0, .string ⟨#[]⟩, .int .i64 0] 25)).alloc (.cells #[.int .i64 0, .int .i64 0] 28) = w2 at HB2 HE2 ⊢
        refine (HBL.out w2).mono ?_
        rintro e w3 ⟨rfl, hq⟩
        subst w3
        go_wp2_with fail
        rw [← hp]
        refine (HFI.out w2 HE2.out).mono ?_
        rintro e w4 ⟨rfl, b4⟩
        have HB4 := Lib.hid (HB2.out.under b4)
        have HE4 := Lib.hid (HE2.out.under b4)
        obtain ⟨g4, g6, -⟩ := HB4.out
        clear b4
        have x0 : w4.cell? ⟨w.heap.size, 0, none⟩ = some (.int .i8 0) := cell_of_row g4 rfl
        have fx0 : w4.frozen? ⟨w.heap.size, 0, none⟩ = false := free_of_row g4
        have x1 : w4.cell? ⟨w.heap.size, 1, none⟩ = some (.int .i64 0) := cell_of_row g4 rfl
        have fx1 : w4.frozen? ⟨w.heap.size, 1, none⟩ = false := free_of_row g4
        have x2 : w4.cell? ⟨w.heap.size, 2, none⟩ = some (.string ⟨#[]⟩) := cell_of_row g4 rfl
        have fx2 : w4.frozen? ⟨w.heap.size, 2, none⟩ = false := free_of_row g4
        have x3 : w4.cell? ⟨w.heap.size, 3, none⟩ = some (.int .i64 0) := cell_of_row g4 rfl
        have fx3 : w4.frozen? ⟨w.heap.size, 3, none⟩ = false := free_of_row g4
        have y0 : w4.cell? ⟨w.heap.size + 1, 0, none⟩ = some (.int .i64 0) := cell_of_row g6 rfl
        have fy0 : w4.frozen? ⟨w.heap.size + 1, 0, none⟩ = false := free_of_row g6
        have y1 : w4.cell? ⟨w.heap.size + 1, 1, none⟩ = some (.int .i64 0) := cell_of_row g6 rfl
        have fy1 : w4.frozen? ⟨w.heap.size + 1, 1, none⟩ = false := free_of_row g6
        clear g4 g6
        simp only [SR.tup, Tk.v, tk0]
        go_wp2_with fail
        have hb5 := box_same HB4.out
        generalize ((((w4.setCell ⟨w.heap.size, 0, none⟩ (.int .i8 0)).setCell ⟨w.heap.size, 1, none⟩ (.int .i64 0)).setCell ⟨w.heap.size, 2, none⟩ (.string ⟨#[]⟩)).setCell ⟨w.heap.size, 3, none⟩ (.int .i64 0)) = w5 at hb5 ⊢
        clear x0 x1 x2 x3 fx0 fx1 fx2 fx3 y0 y1 fy0 fy1
        have HB5 := Lib.hid hb5
        clear hb5
        refine (HFL.out 11 w5).mono ?_
        rintro e w6 ⟨rfl, b6⟩
        have HB6 := Lib.hid (HB5.out.under b6)
        obtain ⟨g4, g6, -⟩ := HB6.out
        clear b6
        have x0 : w6.cell? ⟨w.heap.size, 0, none⟩ = some (.int .i8 0) := cell_of_row g4 rfl
        have fx0 : w6.frozen? ⟨w.heap.size, 0, none⟩ = false := free_of_row g4
        have x1 : w6.cell? ⟨w.heap.size, 1, none⟩ = some (.int .i64 0) := cell_of_row g4 rfl
        have fx1 : w6.frozen? ⟨w.heap.size, 1, none⟩ = false := free_of_row g4
        have x2 : w6.cell? ⟨w.heap.size, 2, none⟩ = some (.string ⟨#[]⟩) := cell_of_row g4 rfl
        have fx2 : w6.frozen? ⟨w.heap.size, 2, none⟩ = false := free_of_row g4
        have x3 : w6.cell? ⟨w.heap.size, 3, none⟩ = some (.int .i64 0) := cell_of_row g4 rfl
        have fx3 : w6.frozen? ⟨w.heap.size, 3, none⟩ = false := free_of_row g4
        have y0 : w6.cell? ⟨w.heap.size + 1, 0, none⟩ = some (.int .i64 0) := cell_of_row g6 rfl
        have fy0 : w6.frozen? ⟨w.heap.size + 1, 0, none⟩ = false := free_of_row g6
        have y1 : w6.cell? ⟨w.heap.size + 1, 1, none⟩ = some (.int .i64 0) := cell_of_row g6 rfl
        have fy1 : w6.frozen? ⟨w.heap.size + 1, 1, none⟩ = false := free_of_row g6
        clear g4 g6
        simp only [NR.v, Tk.v, tk0]
        go_wp2_with fail
        obtain ⟨g4, g6, m7⟩ := fin_spec (.int .i8 0) (.int .i64 0) (.string ⟨#[]⟩) (.int .i64 0) (.int .i64 11) (.int .i64 b) HB6.out
        generalize ((((((w6.setCell ⟨w.heap.size, 0, none⟩ (.int .i8 0)).setCell ⟨w.heap.size, 1, none⟩ (.int .i64 0)).setCell ⟨w.heap.size, 2, none⟩ (.string ⟨#[]⟩)).setCell ⟨w.heap.size, 3, none⟩ (.int .i64 0)).setCell ⟨w.heap.size + 1, 0, none⟩ (.int .i64 11)).setCell ⟨w.heap.size + 1, 1, none⟩ (.int .i64 b)) = w7 at g4 g6 m7 ⊢
        clear x0 x1 x2 x3 fx0 fx1 fx2 fx3 y0 y1 fy0 fy1
        have x0 : w7.cell? ⟨w.heap.size, 0, none⟩ = some (.int .i8 0) := cell_of_row g4 rfl
        have x1 : w7.cell? ⟨w.heap.size, 1, none⟩ = some (.int .i64 0) := cell_of_row g4 rfl
        have x2 : w7.cell? ⟨w.heap.size, 2, none⟩ = some (.string ⟨#[]⟩) := cell_of_row g4 rfl
        have x3 : w7.cell? ⟨w.heap.size, 3, none⟩ = some (.int .i64 0) := cell_of_row g4 rfl
        have y0 : w7.cell? ⟨w.heap.size + 1, 0, none⟩ = some (.int .i64 11) := cell_of_row g6 rfl
        have y1 : w7.cell? ⟨w.heap.size + 1, 1, none⟩ = some (.int .i64 b) := cell_of_row g6 rfl
        have HM7 := Lib.hid m7
        clear g4 g6 m7
        refine bodyPost_ret (v := NR.v ⟨tk0, b, 11, b⟩) (by simp [results, Tryd.f7, go_sem, x0, x1, x2, x3, y0, y1, NR.v, Tk.v, tk0]) rfl ⟨by rw [HTT.out], HM7.out⟩
      · go_enter Tryd.func7, Tryd.ntmps7
        go_wp2_with fail
        generalize (w.alloc (.cells #[.int .i8 0, .int .i64 0, .string ⟨#[]⟩, .int .i64 0] 25)).alloc (.cells #[.int .i64 0, .int .i64 0] 28) = w2 at HB2 HE2 ⊢
        refine (HBL.out w2).mono ?_
        rintro e w3 ⟨rfl, hq⟩
        subst w3
        go_wp2_with fail
        rw [← hp]
        refine (HFI.out w2 HE2.out).mono ?_
        rintro e w4 ⟨rfl, b4⟩
        have HB4 := Lib.hid (HB2.out.under b4)
        have HE4 := Lib.hid (HE2.out.under b4)
        obtain ⟨g4, g6, -⟩ := HB4.out
        clear b4
        have x0 : w4.cell? ⟨w.heap.size, 0, none⟩ = some (.int .i8 0) := cell_of_row g4 rfl
        have fx0 : w4.frozen? ⟨w.heap.size, 0, none⟩ = false := free_of_row g4
        have x1 : w4.cell? ⟨w.heap.size, 1, none⟩ = some (.int .i64 0) := cell_of_row g4 rfl
        have fx1 : w4.frozen? ⟨w.heap.size, 1, none⟩ = false := free_of_row g4
        have x2 : w4.cell? ⟨w.heap.size, 2, none⟩ = some (.string ⟨#[]⟩) := cell_of_row g4 rfl
        have fx2 : w4.frozen? ⟨w.heap.size, 2, none⟩ = false := free_of_row g4
        have x3 : w4.cell? ⟨w.heap.size, 3, none⟩ = some (.int .i64 0) := cell_of_row g4 rfl
        have fx3 : w4.frozen? ⟨w.heap.size, 3, none⟩ = false := free_of_row g4
        have y0 : w4.cell? ⟨w.heap.size + 1, 0, none⟩ = some (.int .i64 0) := cell_of_row g6 rfl
        have fy0 : w4.frozen? ⟨w.heap.size + 1, 0, none⟩ = false := free_of_row g6
        have y1 : w4.cell? ⟨w.heap.size + 1, 1, none⟩ = some (.int .i64 0) := cell_of_row g6 rfl
        have fy1 : w4.frozen? ⟨w.heap.size + 1, 1, none⟩ = false := free_of_row g6
        clear g4 g6
        simp only [SR.tup, Tk.v, tk0]
        go_wp2_with fail
        have hb5 := box_same HB4.out
        generalize ((((w4.setCell ⟨w.heap.size, 0, none⟩ (.int .i8 0)).setCell ⟨w.heap.size, 1, none⟩ (.int .i64 0)).setCell ⟨w.heap.size, 2, none⟩ (.string ⟨#[]⟩)).setCell ⟨w.heap.size, 3, none⟩ (.int .i64 0)) = w5 at hb5 ⊢
        clear x0 x1 x2 x3 fx0 fx1 fx2 fx3 y0 y1 fy0 fy1
        have HB5 := Lib.hid hb5
        clear hb5
        refine (HFL.out 60 w5).mono ?_
        rintro e w6 ⟨rfl, b6⟩
        have HB6 := Lib.hid (HB5.out.under b6)
        obtain ⟨g4, g6, -⟩ := HB6.out
        clear b6
        have x0 : w6.cell? ⟨w.heap.size, 0, none⟩ = some (.int .i8 0) := cell_of_row g4 rfl
        have fx0 : w6.frozen? ⟨w.heap.size, 0, none⟩ = false := free_of_row g4
        have x1 : w6.cell? ⟨w.heap.size, 1, none⟩ = some (.int .i64 0) := cell_of_row g4 rfl
        have fx1 : w6.frozen? ⟨w.heap.size, 1, none⟩ = false := free_of_row g4
        have x2 : w6.cell? ⟨w.heap.size, 2, none⟩ = some (.string ⟨#[]⟩) := cell_of_row g4 rfl
        have fx2 : w6.frozen? ⟨w.heap.size, 2, none⟩ = false := free_of_row g4
        have x3 : w6.cell? ⟨w.heap.size, 3, none⟩ = some (.int .i64 0) := cell_of_row g4 rfl
        have fx3 : w6.frozen? ⟨w.heap.size, 3, none⟩ = false := free_of_row g4
        have y0 : w6.cell? ⟨w.heap.size + 1, 0, none⟩ = some (.int .i64 0) := cell_of_row g6 rfl
        have fy0 : w6.frozen? ⟨w.heap.size + 1, 0, none⟩ = false := free_of_row g6
        have y1 : w6.cell? ⟨w.heap.size + 1, 1, none⟩ = some (.int .i64 0) := cell_of_row g6 rfl
        have fy1 : w6.frozen? ⟨w.heap.size + 1, 1, none⟩ = false := free_of_row g6
        clear g4 g6
        simp only [NR.v, Tk.v, tk0]
        go_wp2_with fail
        obtain ⟨g4, g6, m7⟩ := fin_spec (.int .i8 0) (.int .i64 0) (.string ⟨#[]⟩) (.int .i64 0) (.int .i64 60) (.int .i64 b) HB6.out
        generalize ((((((w6.setCell ⟨w.heap.size, 0, none⟩ (.int .i8 0)).setCell ⟨w.heap.size, 1, none⟩ (.int .i64 0)).setCell ⟨w.heap.size, 2, none⟩ (.string ⟨#[]⟩)).setCell ⟨w.heap.size, 3, none⟩ (.int .i64 0)).setCell ⟨w.heap.size + 1, 0, none⟩ (.int .i64 60)).setCell ⟨w.heap.size + 1, 1, none⟩ (.int .i64 b)) = w7 at g4 g6 m7 ⊢
        clear x0 x1 x2 x3 fx0 fx1 fx2 fx3 y0 y1 fy0 fy1
        have x0 : w7.cell? ⟨w.heap.size, 0, none⟩ = some (.int .i8 0) := cell_of_row g4 rfl
        have x1 : w7.cell? ⟨w.heap.size, 1, none⟩ = some (.int .i64 0) := cell_of_row g4 rfl
        have x2 : w7.cell? ⟨w.heap.size, 2, none⟩ = some (.string ⟨#[]⟩) := cell_of_row g4 rfl
        have x3 : w7.cell? ⟨w.heap.size, 3, none⟩ = some (.int .i64 0) := cell_of_row g4 rfl
        have y0 : w7.cell? ⟨w.heap.size + 1, 0, none⟩ = some (.int .i64 60) := cell_of_row g6 rfl
        have y1 : w7.cell? ⟨w.heap.size + 1, 1, none⟩ = some (.int .i64 b) := cell_of_row g6 rfl
        have HM7 := Lib.hid m7
        clear g4 g6 m7
        refine bodyPost_ret (v := NR.v ⟨tk0, b, 60, b⟩) (by simp [results, Tryd.f7, go_sem, x0, x1, x2, x3, y0, y1, NR.v, Tk.v, tk0]) rfl ⟨by rw [HTT.out], HM7.out⟩
    | tok k n len sl =>
      rw [hk] at HFI hTT
      have hlen := tokL_len hk
      rw [List.length_drop, size_list] at hlen
      have hbl : b + len ≤ s.size := by omega
      obtain ⟨q, hq⟩ : ∃ q : ByteArray, q = ⟨((s.data.toList.drop b).take sl).toArray⟩ := ⟨_, rfl⟩
      have HTT : Hid (T = NR.v ⟨⟨k, n, q, b⟩, (b : Int) + len, 0, 0⟩) := by
        show _ = _
        rw [hTT, hq, tok_bytes]
      simp only [SR.tup, ← hq] at HFI
      clear hk hTT hlen hq
      go_enter Tryd.func7, Tryd.ntmps7
      go_wp2_with fail
      generalize (w.alloc (.cells #[.int .i8 0, .int .i64 0, .string ⟨#[]⟩, .int .i64 0] 25)).alloc (.cells #[.int .i64 0, .int .i64 0] 28) = w2 at HB2 HE2 ⊢
      refine (HBL.out w2).mono ?_
      rintro e w3 ⟨rfl, hq⟩
      subst w3
      go_wp2_with fail
      rw [← hp]
      refine (HFI.out w2 HE2.out).mono ?_
      rintro e w4 ⟨rfl, b4⟩
      have HB4 := Lib.hid (HB2.out.under b4)
      have HE4 := Lib.hid (HE2.out.under b4)
      obtain ⟨g4, g6, -⟩ := HB4.out
      clear b4
      have x0 : w4.cell? ⟨w.heap.size, 0, none⟩ = some (.int .i8 0) := cell_of_row g4 rfl
      have fx0 : w4.frozen? ⟨w.heap.size, 0, none⟩ = false := free_of_row g4
      have x1 : w4.cell? ⟨w.heap.size, 1, none⟩ = some (.int .i64 0) := cell_of_row g4 rfl
      have fx1 : w4.frozen? ⟨w.heap.size, 1, none⟩ = false := free_of_row g4
      have x2 : w4.cell? ⟨w.heap.size, 2, none⟩ = some (.string ⟨#[]⟩) := cell_of_row g4 rfl
      have fx2 : w4.frozen? ⟨w.heap.size, 2, none⟩ = false := free_of_row g4
      have x3 : w4.cell? ⟨w.heap.size, 3, none⟩ = some (.int .i64 0) := cell_of_row g4 rfl
      have fx3 : w4.frozen? ⟨w.heap.size, 3, none⟩ = false := free_of_row g4
      have y0 : w4.cell? ⟨w.heap.size + 1, 0, none⟩ = some (.int .i64 0) := cell_of_row g6 rfl
      have fy0 : w4.frozen? ⟨w.heap.size + 1, 0, none⟩ = false := free_of_row g6
      have y1 : w4.cell? ⟨w.heap.size + 1, 1, none⟩ = some (.int .i64 0) := cell_of_row g6 rfl
      have fy1 : w4.frozen? ⟨w.heap.size + 1, 1, none⟩ = false := free_of_row g6
      clear g4 g6
      simp only [Tk.v]
      go_upto_region 7 with fail
      have hb5 := box_any (.int .i8 k) (.int .i64 n) (.string q) (.int .i64 0) HB4.out.1 HB4.out.2.1 HB4.out.2.2
      generalize ((((w4.setCell ⟨w.heap.size, 0, none⟩ (.int .i8 k)).setCell ⟨w.heap.size, 1, none⟩ (.int .i64 n)).setCell ⟨w.heap.size, 2, none⟩ (.string q)).setCell ⟨w.heap.size, 3, none⟩ (.int .i64 0)) = w5 at hb5 ⊢
      clear x0 x1 x2 x3 fx0 fx1 fx2 fx3 y0 y1 fy0 fy1
      obtain ⟨g4, g6, b5⟩ := hb5
      have x0 : w5.cell? ⟨w.heap.size, 0, none⟩ = some (.int .i8 k) := cell_of_row g4 rfl
      have fx0 : w5.frozen? ⟨w.heap.size, 0, none⟩ = false := free_of_row g4
      have x1 : w5.cell? ⟨w.heap.size, 1, none⟩ = some (.int .i64 n) := cell_of_row g4 rfl
      have fx1 : w5.frozen? ⟨w.heap.size, 1, none⟩ = false := free_of_row g4
      have x2 : w5.cell? ⟨w.heap.size, 2, none⟩ = some (.string q) := cell_of_row g4 rfl
      have fx2 : w5.frozen? ⟨w.heap.size, 2, none⟩ = false := free_of_row g4
      have x3 : w5.cell? ⟨w.heap.size, 3, none⟩ = some (.int .i64 0) := cell_of_row g4 rfl
      have fx3 : w5.frozen? ⟨w.heap.size, 3, none⟩ = false := free_of_row g4
      have y0 : w5.cell? ⟨w.heap.size + 1, 0, none⟩ = some (.int .i64 0) := cell_of_row g6 rfl
      have fy0 : w5.frozen? ⟨w.heap.size + 1, 0, none⟩ = false := free_of_row g6
      have y1 : w5.cell? ⟨w.heap.size + 1, 1, none⟩ = some (.int .i64 0) := cell_of_row g6 rfl
      have fy1 : w5.frozen? ⟨w.heap.size + 1, 1, none⟩ = false := free_of_row g6
      have HG5 := Lib.hid (And.intro g4 (And.intro g6 b5))
      clear g4 g6 b5
      go_upto_region 8 with fail
      have hb6 := box_three (.int .i64 (b : Int)) HG5.out
      generalize (w5.setCell ⟨w.heap.size, 3, none⟩ (.int .i64 b)) = w6 at hb6 ⊢
      clear x0 x1 x2 x3 fx0 fx1 fx2 fx3 y0 y1 fy0 fy1
      obtain ⟨g4, g6, b6⟩ := hb6
      have x0 : w6.cell? ⟨w.heap.size, 0, none⟩ = some (.int .i8 k) := cell_of_row g4 rfl
      have fx0 : w6.frozen? ⟨w.heap.size, 0, none⟩ = false := free_of_row g4
      have x1 : w6.cell? ⟨w.heap.size, 1, none⟩ = some (.int .i64 n) := cell_of_row g4 rfl
      have fx1 : w6.frozen? ⟨w.heap.size, 1, none⟩ = false := free_of_row g4
      have x2 : w6.cell? ⟨w.heap.size, 2, none⟩ = some (.string q) := cell_of_row g4 rfl
      have fx2 : w6.frozen? ⟨w.heap.size, 2, none⟩ = false := free_of_row g4
      have x3 : w6.cell? ⟨w.heap.size, 3, none⟩ = some (.int .i64 b) := cell_of_row g4 rfl
      have fx3 : w6.frozen? ⟨w.heap.size, 3, none⟩ = false := free_of_row g4
      have y0 : w6.cell? ⟨w.heap.size + 1, 0, none⟩ = some (.int .i64 0) := cell_of_row g6 rfl
      have fy0 : w6.frozen? ⟨w.heap.size + 1, 0, none⟩ = false := free_of_row g6
      have y1 : w6.cell? ⟨w.heap.size + 1, 1, none⟩ = some (.int .i64 0) := cell_of_row g6 rfl
      have fy1 : w6.frozen? ⟨w.heap.size + 1, 1, none⟩ = false := free_of_row g6
      have HG6 := Lib.hid (And.intro g4 (And.intro g6 b6))
      clear g4 g6 b6
      go_wp2_with fail
      obtain ⟨g4, g6, m7⟩ := fin_any (.int .i8 k) (.int .i64 n) (.string q) (.int .i64 b) (.int .i64 0) (.int .i64 0) HG6.out
      generalize ((((((w6.setCell ⟨w.heap.size, 0, none⟩ (.int .i8 k)).setCell ⟨w.heap.size, 1, none⟩ (.int .i64 n)).setCell ⟨w.heap.size, 2, none⟩ (.string q)).setCell ⟨w.heap.size, 3, none⟩ (.int .i64 b)).setCell ⟨w.heap.size + 1, 0, none⟩ (.int .i64 0)).setCell ⟨w.heap.size + 1, 1, none⟩ (.int .i64 0)) = w7 at g4 g6 m7 ⊢
      clear x0 x1 x2 x3 fx0 fx1 fx2 fx3 y0 y1 fy0 fy1
      have x0 : w7.cell? ⟨w.heap.size, 0, none⟩ = some (.int .i8 k) := cell_of_row g4 rfl
      have x1 : w7.cell? ⟨w.heap.size, 1, none⟩ = some (.int .i64 n) := cell_of_row g4 rfl
      have x2 : w7.cell? ⟨w.heap.size, 2, none⟩ = some (.string q) := cell_of_row g4 rfl
      have x3 : w7.cell? ⟨w.heap.size, 3, none⟩ = some (.int .i64 b) := cell_of_row g4 rfl
      have y0 : w7.cell? ⟨w.heap.size + 1, 0, none⟩ = some (.int .i64 0) := cell_of_row g6 rfl
      have y1 : w7.cell? ⟨w.heap.size + 1, 1, none⟩ = some (.int .i64 0) := cell_of_row g6 rfl
      have HM7 := Lib.hid m7
      clear g4 g6 m7
      refine bodyPost_ret (v := NR.v ⟨⟨k, n, q, b⟩, (b : Int) + len, 0, 0⟩) (by simp [results, Tryd.f7, go_sem, x0, x1, x2, x3, y0, y1, NR.v, Tk.v]) rfl ⟨by rw [HTT.out], HM7.out⟩
end Go.Proofs.YtkaijnbefbggeaaDoor
