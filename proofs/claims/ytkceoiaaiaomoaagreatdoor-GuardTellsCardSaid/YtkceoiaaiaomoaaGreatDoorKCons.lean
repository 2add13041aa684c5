/- term.Cons. -/
import Derived.Test.YtkceoiaaiaomoaaGreatDoorKAppRow
import Derived.Test.YtkceoiaaiaomoaaGreatDoorKRangeE
set_option linter.unusedVariables false
set_option linter.unusedSimpArgs false
namespace Go.Proofs.YtkceoiaaiaomoaaGreatDoor
open Go.RowKit

def consT (a b : Tm) : Tm := .mk 7 0 ⟨#[]⟩ ⟨#[]⟩ [a, b]
def ConsP (Q : Nat → Prop) (a b : Tm) (w : World) (e : Ending) (w' : World) : Prop :=
  ∃ v, e = .returned (.tuple #[v, .int .i64 (fitN 1 [a, b])]) ∧ (∃ k n s t A L cap, v = .agg #[.int .i8 k, .int .i64 n, .string s, .string t, .slice A L cap]) ∧ (fitN 1 [a, b] = 0 → TmAt (fun q => Q q ∨ (w.heap.size ≤ q ∧ q < w'.heap.size)) w' (consT a b) v) ∧ Below w.heap.size w w'
set_option maxHeartbeats 4000000 in
set_option maxRecDepth 100000 in
theorem Cons_any (Q : Nat → Prop) (a b : Tm) (k n k' n' : Int) (s t s' t' : ByteArray) (A A' : Option Addr) (m c m' c' : Nat) (w : World) (hQ : ∀ q, Q q → q < w.heap.size) (ha : TmAt Q w a (.agg #[.int .i8 k, .int .i64 n, .string s, .string t, .slice A m c])) (hb : TmAt Q w b (.agg #[.int .i8 k', .int .i64 n', .string s', .string t', .slice A' m' c'])) (hS : Spans w) :
    Calls Tryz.prog 205 #[.agg #[.int .i8 k, .int .i64 n, .string s, .string t, .slice A m c], .agg #[.int .i8 k', .int .i64 n', .string s', .string t', .slice A' m' c']] w (ConsP Q a b w) := by
  obtain ⟨h0, z0⟩ := here_of (.cells #[.int .i8 k, .int .i64 n, .string s, .string t, .slice A m c] 44) (rfl : w.heap.size = w.heap.size)
  obtain ⟨h1, z1⟩ := here_of (.cells #[.int .i8 k', .int .i64 n', .string s', .string t', .slice A' m' c'] 44) z0
  obtain ⟨h2, z2⟩ := here_of (.cells #[.int .i8 0, .int .i64 0, .string ⟨#[]⟩, .string ⟨#[]⟩, .slice none 0 0] 44) z1
  obtain ⟨h3, z3⟩ := here_of (.cells #[.int .i8 k, .int .i64 n, .string s, .string t, .slice A m c, .int .i8 k', .int .i64 n', .string s', .string t', .slice A' m' c'] 44) z2
  have g0 := there_of (.cells #[.int .i8 0, .int .i64 0, .string ⟨#[]⟩, .string ⟨#[]⟩, .slice none 0 0] 44) (there_of (.cells #[.int .i8 k', .int .i64 n', .string s', .string t', .slice A' m' c'] 44) h0)
  have g1 := there_of (.cells #[.int .i8 0, .int .i64 0, .string ⟨#[]⟩, .string ⟨#[]⟩, .slice none 0 0] 44) h1
  obtain ⟨x0, x1, x2, x3, x4⟩ := five_of g0
  obtain ⟨y0, y1, y2, y3, y4⟩ := five_of g1
  have g2 := there_of (.cells #[.int .i8 k, .int .i64 n, .string s, .string t, .slice A m c, .int .i8 k', .int .i64 n', .string s', .string t', .slice A' m' c'] 44) h2
  obtain ⟨w4, hw4⟩ : ∃ w4, w4 = (((w.alloc (.cells #[.int .i8 k, .int .i64 n, .string s, .string t, .slice A m c] 44)).alloc (.cells #[.int .i8 k', .int .i64 n', .string s', .string t', .slice A' m' c'] 44)).alloc (.cells #[.int .i8 0, .int .i64 0, .string ⟨#[]⟩, .string ⟨#[]⟩, .slice none 0 0] 44)).alloc (.cells #[.int .i8 k, .int .i64 n, .string s, .string t, .slice A m c, .int .i8 k', .int .i64 n', .string s', .string t', .slice A' m' c'] 44) := ⟨_, rfl⟩
  have b4 : Below w.heap.size w w4 := by rw [hw4]; exact ((((Below.refl _ w).alloc (Nat.le_refl _) _).alloc (by omega) _).alloc (by omega) _).alloc (by omega) _
  rw [← hw4] at g2 h3 z3
  have hP : TRow (fun q => Q q ∨ q = w.heap.size + 3) w4 (some ⟨w.heap.size + 3, 0, none⟩) 2 2 [a, b] := row2_of h3 (.inr rfl) (ha.keep (fun q hq => b4.block q (hQ q hq)) (fun _ h => .inl h)) (hb.keep (fun q hq => b4.block q (hQ q hq)) (fun _ h => .inl h))
  have hR : TRow (· < w4.heap.size) w4 (some ⟨w.heap.size + 3, 0, none⟩) 2 2 [a, b] := hP.mono (fun q hq => by show q < _; rcases hq with hq | hq; (have := hQ q hq; omega); omega)
  have hc := fit_any 1 (by omega) (some ⟨w.heap.size + 3, 0, none⟩) 2 2 [a, b] (by simp) w4 hR (hS.below b4 hS.lt)
  rw [show ((1 : Nat) : Int) = 1 from rfl] at hc
  have HC := Lib.hid hc
  have HP := Lib.hid hP
  have HQ := Lib.hid hQ
  have HZ4 := Lib.hid z3
  have HB4 := Lib.hid b4
  have HG2 := Lib.hid g2
  clear h0 z0 h1 z1 h2 z2 h3 z3 g0 g1 g2 b4 hR hP hc ha hb hS hQ
  go_enter Tryz.func205, Tryz.ntmps205
  go_wp2_with fail
  simp only [Nat.add_assoc, Nat.reduceAdd]
  rw [← hw4]
  clear hw4 x0 x1 x2 x3 x4 y0 y1 y2 y3 y4
  refine HC.out.mono ?_
  rintro e V1 ⟨rfl, b1⟩
  have HB5 := Lib.hid (HB4.out.trans (b1.mono HB4.out.size))
  have hg5 := (b1.block _ (heap_lt HG2.out)).trans HG2.out
  have HQ1 := Lib.hid b1
  clear b1 HC
  obtain ⟨fz, hfz⟩ : ∃ fz, fz = fitN 1 [a, b] := ⟨_, rfl⟩
  rw [← hfz]
  have HF := Lib.hid hfz
  clear hfz
  by_cases h0 : fz = 0
  · have h01 : (fz != 0) = false := by simpa using h0
    have HZ0 := Lib.hid h0
    have HG5 := Lib.hid hg5
    clear h0 hg5
    go_wp2_with fail
    refine (termOf_cons 0 ⟨#[]⟩ ⟨#[]⟩ (some ⟨w.heap.size + 3, 0, none⟩) 2 2 _).mono ?_
    rintro e V3 ⟨rfl, b3⟩
    have g4 := (b3.block _ (heap_lt HG5.out)).trans HG5.out
    have HB6 := Lib.hid (HB5.out.trans (b3.mono HB5.out.size))
    have HQ3 := Lib.hid (HQ1.out.trans (b3.mono HQ1.out.size))
    clear b3
    obtain ⟨⟨r0, r1, r2, r3, r4⟩, rf0, rf1, rf2, rf3, rf4⟩ := five_fr g4
    have S5 := Lib.hid (set_five (.int .i8 7) (.int .i64 0) (.string ⟨#[]⟩) (.string ⟨#[]⟩) (.slice (some ⟨w.heap.size + 3, 0, none⟩) 2 2) g4)
    go_wp2_with fail
    obtain ⟨s5, m5⟩ := S5.out
    generalize ((((((V3).setCell ⟨w.heap.size + 2, 0, none⟩ (.int .i8 7)).setCell ⟨w.heap.size + 2, 1, none⟩ (.int .i64 0)).setCell ⟨w.heap.size + 2, 2, none⟩ (.string ⟨#[]⟩)).setCell ⟨w.heap.size + 2, 3, none⟩ (.string ⟨#[]⟩)).setCell ⟨w.heap.size + 2, 4, none⟩ (.slice (some ⟨w.heap.size + 3, 0, none⟩) 2 2)) = VX at s5 m5 ⊢
    obtain ⟨z0, z1, z2, z3, z4⟩ := five_of s5
    refine bodyPost_ret (v := .tuple #[.agg #[.int .i8 7, .int .i64 0, .string ⟨#[]⟩, .string ⟨#[]⟩, .slice (some ⟨w.heap.size + 3, 0, none⟩) 2 2], .int .i64 0]) (by simp [results, Tryz.f205, go_sem, z0, z1, z2, z3, z4]) rfl ?_
    refine ⟨_, by rw [← HF.out, HZ0.out], ⟨7, 0, ⟨#[]⟩, ⟨#[]⟩, _, 2, 2, rfl⟩, fun _ => ?_, HB6.out.trans (m5.below HB6.out.size (fun k (e : k = _) => by omega))⟩
    have hlt : ∀ q, (Q q ∨ q = w.heap.size + 3) → q ≠ w.heap.size + 2 ∧ q < w.heap.size + 4 := fun q hq => by rcases hq with hq | hq; (have := HQ.out q hq; omega); omega
    have q4 : w4.heap.size = w.heap.size + 4 := by have := HZ4.out; omega
    have q3 := HQ3.out.size
    have q5 := m5.size
    exact TmAt.of_row (k := 7) (n := 0) (s := ⟨#[]⟩) (t := ⟨#[]⟩) (l := [a, b]) (HP.out.keep (fun q hq => (m5.block q (by have := hlt q hq; omega) (by have := hlt q hq; omega)).trans (HQ3.out.block q (by have := hlt q hq; omega))) (fun q hq => by rcases hq with hq | hq; (exact .inl hq); (exact .inr ⟨by omega, by omega⟩))) (by omega) (by omega) (by decide) (by decide)
  · have h01 : (fz != 0) = true := by simpa using h0
    have HZ0 := Lib.hid h0
    clear h0
    obtain ⟨⟨r0, r1, r2, r3, r4⟩, rf0, rf1, rf2, rf3, rf4⟩ := five_fr hg5
    have S5 := Lib.hid (set_five (.int .i8 0) (.int .i64 0) (.string ⟨#[]⟩) (.string ⟨#[]⟩) (.slice none 0 0) hg5)
    go_wp2_with fail
    obtain ⟨s5, m5⟩ := S5.out
    generalize ((((((V1).setCell ⟨w.heap.size + 2, 0, none⟩ (.int .i8 0)).setCell ⟨w.heap.size + 2, 1, none⟩ (.int .i64 0)).setCell ⟨w.heap.size + 2, 2, none⟩ (.string ⟨#[]⟩)).setCell ⟨w.heap.size + 2, 3, none⟩ (.string ⟨#[]⟩)).setCell ⟨w.heap.size + 2, 4, none⟩ (.slice none 0 0)) = VX at s5 m5 ⊢
    obtain ⟨z0, z1, z2, z3, z4⟩ := five_of s5
    refine bodyPost_ret (v := .tuple #[.agg #[.int .i8 0, .int .i64 0, .string ⟨#[]⟩, .string ⟨#[]⟩, .slice none 0 0], .int .i64 fz]) (by simp [results, Tryz.f205, go_sem, z0, z1, z2, z3, z4]) rfl ?_
    exact ⟨_, by rw [← HF.out], ⟨0, 0, ⟨#[]⟩, ⟨#[]⟩, none, 0, 0, rfl⟩, fun h => absurd (HF.out.trans h) HZ0.out, HB5.out.trans (m5.below HB5.out.size (fun k (e : k = _) => by omega))⟩
end Go.Proofs.YtkceoiaaiaomoaaGreatDoor
