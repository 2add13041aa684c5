/- Layer 10: a filler's plain facts, and its literal functions. -/
import Derived.Test.YtkceoiaaiaomoaaGreatDoorKMt22
import Derived.Test.YtkceoiaaiaomoaaGreatDoorKRName7
set_option linter.unusedVariables false
set_option linter.unusedSimpArgs false
namespace Go.Proofs.YtkceoiaaiaomoaaGreatDoor
open Go.RowKit

def ConsPZ (Q : Nat → Prop) (a b : Tm) (w : World) (e : Ending) (w' : World) : Prop :=
  ∃ v, e = .returned (.tuple #[v, .int .i64 (fitN 1 [a, b])]) ∧ (∃ k n s t A L cap, v = .agg #[.int .i8 k, .int .i64 n, .string s, .string t, .slice A L cap]) ∧ (fitN 1 [a, b] = 0 → TmAt (fun q => Q q ∨ (w.heap.size ≤ q ∧ q < w'.heap.size)) w' (consT a b) v) ∧ (fitN 1 [a, b] ≠ 0 → v = .agg #[.int .i8 0, .int .i64 0, .string ⟨#[]⟩, .string ⟨#[]⟩, .slice none 0 0]) ∧ Below w.heap.size w w'
set_option maxHeartbeats 4000000 in
set_option maxRecDepth 100000 in
theorem ConsZ_any (Q : Nat → Prop) (a b : Tm) (k n k' n' : Int) (s t s' t' : ByteArray) (A A' : Option Addr) (m c m' c' : Nat) (w : World) (hQ : ∀ q, Q q → q < w.heap.size) (ha : TmAt Q w a (.agg #[.int .i8 k, .int .i64 n, .string s, .string t, .slice A m c])) (hb : TmAt Q w b (.agg #[.int .i8 k', .int .i64 n', .string s', .string t', .slice A' m' c'])) (hS : Spans w) :
    Calls Tryz.prog 205 #[.agg #[.int .i8 k, .int .i64 n, .string s, .string t, .slice A m c], .agg #[.int .i8 k', .int .i64 n', .string s', .string t', .slice A' m' c']] w (ConsPZ Q a b w) := by
  obtain ⟨h0, z0⟩ := here_of (.cells #[.int .i8 k, .int .i64 n, .string s, .string t, .slice A m c] 44) (rfl : w.heap.size = w.heap.size)
  obtain ⟨h1, z1⟩ := here_of (.cells #[.int .i8 k', .int .i64 n', .string s', .string t', .slice A' m' c'] 44) z0
  obtain ⟨h2, z2⟩ := here_of (.cells #[.int .i8 0, .int .i64 0, .string ⟨#[]⟩, .string ⟨#[]⟩, .slice none 0 0] 44) z1
  obtain ⟨h3, z3⟩ := here_of (.cells #[.int .i8 k, .int .i64 n, .string s, .string t, .slice A m c, .int .i8 k', .int .i64 n', .string s', .string t', .slice A' m' c'] 44) z2
  have g0 := there_of (.cells #[.int .i8 0, .int .i64 0, .string ⟨#[]⟩, .string ⟨#[]⟩, .slice none 0 0] 44) (there_of (.cells #[.int .i8 k', .int .i64 n', .string s', .string t', .slice A' m' c'] 44) h0)
  have g1 := there_of (.cells #[.int .i8 0, .int .i64 0, .string ⟨#[]⟩, .string ⟨#[]⟩, .slice none 0 0] 44) h1
  obtain ⟨x0, x1, x2, x3, x4⟩ := five_of g0
  obtain ⟨y0, y1, y2, y3, y4⟩ := five_of g1
  have g2 := there_of (.cells #[.int .i8 k, .int .i64 n, .string s, .string t, .slice A m c, .int .i8 k', .int .i64 n', .string s', .string t', .slice A' m' c'] 44) h2
  obtain ⟨w4, hw4⟩ : ∃ w4, w4 = (((w.alloc (.cells #[.int .i8 k, .int .i64 n, .string s, .string t, .slice A m c] 44)).alloc (.cells #[.int .i8 k', .int .i64 n', .string s', .string t', .slice A' m' c'] 44)).alloc (.cells #[.int .i8 0, .int .i64 0, .string ⟨#[]⟩, .string ⟨#[]⟩, .slice none 0 0] 44)).alloc (.cells #[.int .i8 k, .int .i64 n, .string s, .string t, .slice A m c, .int .i8 k', .int .i64 n', .string s', .string t', .slice A' m' c'] 44) := ⟨_, rfl⟩
  have b4 : Below w.heap.size w w4 := by rw [hw4]; exact ((((Below.refl _ w).alloc (Nat.le_refl _) _).alloc (by omega) _).alloc (by omega) _).alloc (by omega) _
  rw [← hw4] at g2 h3 z3
  have hP : TRow (fun q => Q q ∨ q = w.heap.size + 3) w4 (some ⟨w.heap.size + 3, 0, none⟩) 2 2 [a, b] := row2_of h3 (.inr rfl) (ha.keep (fun q hq => b4.block q (hQ q hq)) (fun _ h => .inl h)) (hb.keep (fun q hq => b4.block q (hQ q hq)) (fun _ h => .inl h))
  have hR : TRow (· < w4.heap.size) w4 (some ⟨w.heap.size + 3, 0, none⟩) 2 2 [a, b] := hP.mono (fun q hq => by show q < _; rcases hq with hq | hq; (have := hQ q hq; omega); omega)
  have hc := fit_any 1 (by omega) (some ⟨w.heap.size + 3, 0, none⟩) 2 2 [a, b] (by simp) w4 hR (hS.below b4 hS.lt)
  rw [show ((1 : Nat) : Int) = 1 from rfl] at hc
  have HC := Lib.hid hc
  have HP := Lib.hid hP
  have HQ := Lib.hid hQ
  have HZ4 := Lib.hid z3
  have HB4 := Lib.hid b4
  have HG2 := Lib.hid g2
  clear h0 z0 h1 z1 h2 z2 h3 z3 g0 g1 g2 b4 hR hP hc ha hb hS hQ
  go_enter Tryz.func205, Tryz.ntmps205
  go_wp2_with fail
  simp only [Nat.add_assoc, Nat.reduceAdd]
  rw [← hw4]
  clear hw4 x0 x1 x2 x3 x4 y0 y1 y2 y3 y4
  refine HC.out.mono ?_
  rintro e V1 ⟨rfl, b1⟩
  have HB5 := Lib.hid (HB4.out.trans (b1.mono HB4.out.size))
  have hg5 := (b1.block _ (heap_lt HG2.out)).trans HG2.out
  have HQ1 := Lib.hid b1
  clear b1 HC
  obtain ⟨fz, hfz⟩ : ∃ fz, fz = fitN 1 [a, b] := ⟨_, rfl⟩
  rw [← hfz]
  have HF := Lib.hid hfz
  clear hfz
  by_cases h0 : fz = 0
  · have h01 : (fz != 0) = false := by simpa using h0
    have HZ0 := Lib.hid h0
    have HG5 := Lib.hid hg5
    clear h0 hg5
    go_wp2_with fail
    refine (termOf_cons 0 ⟨#[]⟩ ⟨#[]⟩ (some ⟨w.heap.size + 3, 0, none⟩) 2 2 _).mono ?_
    rintro e V3 ⟨rfl, b3⟩
    have g4 := (b3.block _ (heap_lt HG5.out)).trans HG5.out
    have HB6 := Lib.hid (HB5.out.trans (b3.mono HB5.out.size))
    have HQ3 := Lib.hid (HQ1.out.trans (b3.mono HQ1.out.size))
    clear b3
    obtain ⟨⟨r0, r1, r2, r3, r4⟩, rf0, rf1, rf2, rf3, rf4⟩ := five_fr g4
    have S5 := Lib.hid (set_five (.int .i8 7) (.int .i64 0) (.string ⟨#[]⟩) (.string ⟨#[]⟩) (.slice (some ⟨w.heap.size + 3, 0, none⟩) 2 2) g4)
    go_wp2_with fail
    obtain ⟨s5, m5⟩ := S5.out
    generalize ((((((V3).setCell ⟨w.heap.size + 2, 0, none⟩ (.int .i8 7)).setCell ⟨w.heap.size + 2, 1, none⟩ (.int .i64 0)).setCell ⟨w.heap.size + 2, 2, none⟩ (.string ⟨#[]⟩)).setCell ⟨w.heap.size + 2, 3, none⟩ (.string ⟨#[]⟩)).setCell ⟨w.heap.size + 2, 4, none⟩ (.slice (some ⟨w.heap.size + 3, 0, none⟩) 2 2)) = VX at s5 m5 ⊢
    obtain ⟨z0, z1, z2, z3, z4⟩ := five_of s5
    refine bodyPost_ret (v := .tuple #[.agg #[.int .i8 7, .int .i64 0, .string ⟨#[]⟩, .string ⟨#[]⟩, .slice (some ⟨w.heap.size + 3, 0, none⟩) 2 2], .int .i64 0]) (by simp [results, Tryz.f205, go_sem, z0, z1, z2, z3, z4]) rfl ?_
    refine ⟨_, by rw [← HF.out, HZ0.out], ⟨7, 0, ⟨#[]⟩, ⟨#[]⟩, _, 2, 2, rfl⟩, fun _ => ?_, fun h => absurd (HF.out.symm.trans HZ0.out) h, HB6.out.trans (m5.below HB6.out.size (fun k (e : k = _) => by omega))⟩
    have hlt : ∀ q, (Q q ∨ q = w.heap.size + 3) → q ≠ w.heap.size + 2 ∧ q < w.heap.size + 4 := fun q hq => by rcases hq with hq | hq; (have := HQ.out q hq; omega); omega
    have q4 : w4.heap.size = w.heap.size + 4 := by have := HZ4.out; omega
    have q3 := HQ3.out.size
    have q5 := m5.size
    exact TmAt.of_row (k := 7) (n := 0) (s := ⟨#[]⟩) (t := ⟨#[]⟩) (l := [a, b]) (HP.out.keep (fun q hq => (m5.block q (by have := hlt q hq; omega) (by have := hlt q hq; omega)).trans (HQ3.out.block q (by have := hlt q hq; omega))) (fun q hq => by rcases hq with hq | hq; (exact .inl hq); (exact .inr ⟨by omega, by omega⟩))) (by omega) (by omega) (by decide) (by decide)
  · have h01 : (fz != 0) = true := by simpa using h0
    have HZ0 := Lib.hid h0
    clear h0
    obtain ⟨⟨r0, r1, r2, r3, r4⟩, rf0, rf1, rf2, rf3, rf4⟩ := five_fr hg5
    have S5 := Lib.hid (set_five (.int .i8 0) (.int .i64 0) (.string ⟨#[]⟩) (.string ⟨#[]⟩) (.slice none 0 0) hg5)
    go_wp2_with fail
    obtain ⟨s5, m5⟩ := S5.out
    generalize ((((((V1).setCell ⟨w.heap.size + 2, 0, none⟩ (.int .i8 0)).setCell ⟨w.heap.size + 2, 1, none⟩ (.int .i64 0)).setCell ⟨w.heap.size + 2, 2, none⟩ (.string ⟨#[]⟩)).setCell ⟨w.heap.size + 2, 3, none⟩ (.string ⟨#[]⟩)).setCell ⟨w.heap.size + 2, 4, none⟩ (.slice none 0 0)) = VX at s5 m5 ⊢
    obtain ⟨z0, z1, z2, z3, z4⟩ := five_of s5
    refine bodyPost_ret (v := .tuple #[.agg #[.int .i8 0, .int .i64 0, .string ⟨#[]⟩, .string ⟨#[]⟩, .slice none 0 0], .int .i64 fz]) (by simp [results, Tryz.f205, go_sem, z0, z1, z2, z3, z4]) rfl ?_
    exact ⟨_, by rw [← HF.out], ⟨0, 0, ⟨#[]⟩, ⟨#[]⟩, none, 0, 0, rfl⟩, fun h => absurd (HF.out.trans h) HZ0.out, fun _ => rfl, HB5.out.trans (m5.below HB5.out.size (fun k (e : k = _) => by omega))⟩
def TuplePZ (Q : Nat → Prop) (l : List Tm) (w : World) (e : Ending) (w' : World) : Prop :=
  ∃ v, e = .returned (.tuple #[v, .int .i64 (fitN 1 l)]) ∧ (∃ k n s t A L cap, v = .agg #[.int .i8 k, .int .i64 n, .string s, .string t, .slice A (List.length (α := Tm) L) cap]) ∧ (fitN 1 l = 0 → TmAt (fun b => Q b ∨ (w.heap.size ≤ b ∧ b < w'.heap.size)) w' (tupT l) v) ∧ (fitN 1 l ≠ 0 → v = .agg #[.int .i8 0, .int .i64 0, .string ⟨#[]⟩, .string ⟨#[]⟩, .slice none 0 0]) ∧ Below w.heap.size w w'

set_option maxHeartbeats 4000000 in
set_option maxRecDepth 100000 in
theorem TupleZ_any (Q : Nat → Prop) (l : List Tm) (A : Option Addr) (n cap : Nat) (w : World) (hQ : ∀ b, Q b → b < w.heap.size) (hRQ : TRow Q w A n cap l) (hS : Spans w) (hll : l.length ≤ 1000000) :
    Calls Tryz.prog 206 #[.slice A n cap] w (TuplePZ Q l w) := by
  obtain rfl := hRQ.len
  have hR := hRQ.mono hQ
  have HRQ := Lib.hid hRQ
  have HQ := Lib.hid hQ
  clear hRQ hQ
  have B1 : Below w.heap.size w (w.alloc termZ) := (Below.refl _ w).alloc (Nat.le_refl _) _
  have hc := fit_any 1 (by omega) A l.length cap l (by omega) _ (hR.later B1) (hS.below B1 hS.lt)
  rw [show ((1 : Nat) : Int) = 1 from rfl] at hc
  have HC := Lib.hid hc
  have HR := Lib.hid hR
  have HB1 := Lib.hid B1
  have HG1 : Hid ((w.alloc termZ).heap[w.heap.size]? = some termZ) := block_alloc _ _
  clear hR hS B1 hc
  go_enter Tryz.func206, Tryz.ntmps206
  go_wp2_with fail
  refine HC.out.mono ?_
  rintro e V1 ⟨rfl, b1⟩
  have HB2 := Lib.hid (HB1.out.trans (b1.mono HB1.out.size))
  have g2 := (b1.block _ (heap_lt HG1.out)).trans HG1.out
  have HG2 := Lib.hid g2
  clear b1
  by_cases h0 : fitN 1 l = 0
  · have h01 : (fitN 1 l != 0) = false := by simpa using h0
    have HF := Lib.hid h0
    have hl2 := (fit_zero h0).1
    have hl3 := sumN_ge l
    have hlen : ([] : List Tm).length + l.length ≤ 1000000 := by simp; omega
    have HLE := Lib.hid hlen
    have HO := Lib.hid (OwnT.nil V1.heap.size Q V1)
    have HR2 := Lib.hid (HRQ.out.keep (fun b hb => HB2.out.block b (HQ.out b hb)) (fun _ h => h))
    have HP2 : Hid (∀ b, Q b → b < V1.heap.size ∧ (Value.slice none 0 0).ownBlock ≠ some b) := fun b hb => ⟨Nat.lt_of_lt_of_le (HQ.out b hb) HB2.out.size, by simp [Value.ownBlock]⟩
    clear h0 hl2 hl3 hlen g2
    go_wp2_with (at_builtin; refine wpList_own_terms rfl (.const (.slice none 0 0)) (.tmp 11) rfl HO.out (Nat.le_refl _) HP2.out rfl rfl HR2.out HLE.out ?_)
    intro v' w' O' hg hwh
    obtain ⟨A', cap', rfl⟩ := O'.shape
    have hT := (O'.trow (Q := fun b => Q b ∨ (V1.heap.size ≤ b ∧ b < w'.heap.size)) (fun b hb => .inl hb) (fun b h1 h2 _ => .inr ⟨h1, h2⟩)).2
    have HV1 : Hid (w.heap.size < V1.heap.size) := heap_lt HG2.out
    have mg : Mod (fun _ => False) V1 w' := Mod.grown hg (fun k _ e => by simp [Value.ownBlock] at e)
    have HT := Lib.hid hT
    have HB3 := Lib.hid (HB2.out.trans (mg.below HB2.out.size (fun k h => h.elim)))
    have HG3 := Lib.hid ((mg.block _ (heap_lt HG2.out) (fun h => h)).trans HG2.out)
    clear O' hg hwh hT mg
    go_wp2_with fail
    refine (termOf_tuple 0 ⟨#[]⟩ ⟨#[]⟩ A' l.length cap' _).mono ?_
    rintro e V3 ⟨rfl, b3⟩
    have g4 := (b3.block _ (heap_lt HG3.out)).trans HG3.out
    unfold termZ at g4
    have r0 : (V3).cell? ⟨w.heap.size, 0, none⟩ = some (.int .i8 0) := cell_of_row g4 rfl
    have r1 : (V3).cell? ⟨w.heap.size, 1, none⟩ = some (.int .i64 0) := cell_of_row g4 rfl
    have r2 : (V3).cell? ⟨w.heap.size, 2, none⟩ = some (.string ⟨#[]⟩) := cell_of_row g4 rfl
    have r3 : (V3).cell? ⟨w.heap.size, 3, none⟩ = some (.string ⟨#[]⟩) := cell_of_row g4 rfl
    have r4 : (V3).cell? ⟨w.heap.size, 4, none⟩ = some (.slice none 0 0) := cell_of_row g4 rfl
    have f0 : (V3).frozen? ⟨w.heap.size, 0, none⟩ = false := free_of_row g4
    have f1 : (V3).frozen? ⟨w.heap.size, 1, none⟩ = false := free_of_row g4
    have f2 : (V3).frozen? ⟨w.heap.size, 2, none⟩ = false := free_of_row g4
    have f3 : (V3).frozen? ⟨w.heap.size, 3, none⟩ = false := free_of_row g4
    have f4 : (V3).frozen? ⟨w.heap.size, 4, none⟩ = false := free_of_row g4
    have S5 := Lib.hid (set_five (.int .i8 5) (.int .i64 0) (.string ⟨#[]⟩) (.string ⟨#[]⟩) (.slice A' l.length cap') g4)
    have HB4 := Lib.hid (HB3.out.trans (b3.mono HB3.out.size))
    have HZ := Lib.hid b3
    have HZ2 : Hid (w.heap.size < w'.heap.size) := heap_lt HG3.out
    clear g4 b3
    go_wp2_with fail
    obtain ⟨s5, m5⟩ := S5.out
    generalize ((((((V3).setCell ⟨w.heap.size, 0, none⟩ (.int .i8 5)).setCell ⟨w.heap.size, 1, none⟩ (.int .i64 0)).setCell ⟨w.heap.size, 2, none⟩ (.string ⟨#[]⟩)).setCell ⟨w.heap.size, 3, none⟩ (.string ⟨#[]⟩)).setCell ⟨w.heap.size, 4, none⟩ (.slice A' l.length cap')) = VX at s5 m5 ⊢
    have z0 : VX.cell? ⟨w.heap.size, 0, none⟩ = some (.int .i8 5) := cell_of_row s5 rfl
    have z1 : VX.cell? ⟨w.heap.size, 1, none⟩ = some (.int .i64 0) := cell_of_row s5 rfl
    have z2 : VX.cell? ⟨w.heap.size, 2, none⟩ = some (.string ⟨#[]⟩) := cell_of_row s5 rfl
    have z3 : VX.cell? ⟨w.heap.size, 3, none⟩ = some (.string ⟨#[]⟩) := cell_of_row s5 rfl
    have z4 : VX.cell? ⟨w.heap.size, 4, none⟩ = some (.slice A' l.length cap') := cell_of_row s5 rfl
    refine bodyPost_ret (v := .tuple #[.agg #[(.int .i8 5), (.int .i64 0), (.string ⟨#[]⟩), (.string ⟨#[]⟩), (.slice A' l.length cap')], (.int .i64 0)]) (by simp [results, Tryz.f206, go_sem, z0, z1, z2, z3, z4]) rfl ?_
    refine ⟨_, by rw [HF.out], ⟨5, 0, ⟨#[]⟩, ⟨#[]⟩, A', l, cap', rfl⟩, fun _ => TmAt.of_row (k := 5) (n := 0) (s := ⟨#[]⟩) (t := ⟨#[]⟩) (HT.out.keep (fun b hb => ?_) (fun b hb => ?_)) (by omega) (by omega) (by show 0 ≤ maxLen; omega) (by show 0 ≤ maxLen; omega), fun h => absurd HF.out h, ?_⟩
    · have h1 := HV1.out
      have h2 := HZ2.out
      have h3 := HZ.out.size
      refine (m5.block b ?_ ?_).trans (HZ.out.block b ?_)
      · rcases hb with hb | hb
        · have := HQ.out b hb; omega
        · omega
      · rcases hb with hb | hb
        · have := HQ.out b hb; omega
        · omega
      · rcases hb with hb | hb
        · have := HQ.out b hb; omega
        · omega
    · have h2 := HZ2.out
      have h3 := HZ.out.size
      have h4 := m5.size
      have h1 := HV1.out
      rcases hb with hb | hb
      · exact .inl hb
      · exact .inr ⟨by omega, by omega⟩
    · exact HB4.out.trans (m5.below HB4.out.size (fun k (e : k = _) => by omega))
  · have h01 : (fitN 1 l != 0) = true := by simpa using h0
    have HF := Lib.hid h0
    clear h0
    unfold termZ at g2
    have r0 : (V1).cell? ⟨w.heap.size, 0, none⟩ = some (.int .i8 0) := cell_of_row g2 rfl
    have r1 : (V1).cell? ⟨w.heap.size, 1, none⟩ = some (.int .i64 0) := cell_of_row g2 rfl
    have r2 : (V1).cell? ⟨w.heap.size, 2, none⟩ = some (.string ⟨#[]⟩) := cell_of_row g2 rfl
    have r3 : (V1).cell? ⟨w.heap.size, 3, none⟩ = some (.string ⟨#[]⟩) := cell_of_row g2 rfl
    have r4 : (V1).cell? ⟨w.heap.size, 4, none⟩ = some (.slice none 0 0) := cell_of_row g2 rfl
    have f0 : (V1).frozen? ⟨w.heap.size, 0, none⟩ = false := free_of_row g2
    have f1 : (V1).frozen? ⟨w.heap.size, 1, none⟩ = false := free_of_row g2
    have f2 : (V1).frozen? ⟨w.heap.size, 2, none⟩ = false := free_of_row g2
    have f3 : (V1).frozen? ⟨w.heap.size, 3, none⟩ = false := free_of_row g2
    have f4 : (V1).frozen? ⟨w.heap.size, 4, none⟩ = false := free_of_row g2
    have S5 := Lib.hid (set_five (.int .i8 0) (.int .i64 0) (.string ⟨#[]⟩) (.string ⟨#[]⟩) (.slice none 0 0) g2)
    clear g2
    go_wp2_with fail
    obtain ⟨s5, m5⟩ := S5.out
    generalize ((((((V1).setCell ⟨w.heap.size, 0, none⟩ (.int .i8 0)).setCell ⟨w.heap.size, 1, none⟩ (.int .i64 0)).setCell ⟨w.heap.size, 2, none⟩ (.string ⟨#[]⟩)).setCell ⟨w.heap.size, 3, none⟩ (.string ⟨#[]⟩)).setCell ⟨w.heap.size, 4, none⟩ (.slice none 0 0)) = VX at s5 m5 ⊢
    have z0 : VX.cell? ⟨w.heap.size, 0, none⟩ = some (.int .i8 0) := cell_of_row s5 rfl
    have z1 : VX.cell? ⟨w.heap.size, 1, none⟩ = some (.int .i64 0) := cell_of_row s5 rfl
    have z2 : VX.cell? ⟨w.heap.size, 2, none⟩ = some (.string ⟨#[]⟩) := cell_of_row s5 rfl
    have z3 : VX.cell? ⟨w.heap.size, 3, none⟩ = some (.string ⟨#[]⟩) := cell_of_row s5 rfl
    have z4 : VX.cell? ⟨w.heap.size, 4, none⟩ = some (.slice none 0 0) := cell_of_row s5 rfl
    refine bodyPost_ret (v := .tuple #[.agg #[(.int .i8 0), (.int .i64 0), (.string ⟨#[]⟩), (.string ⟨#[]⟩), (.slice none 0 0)], (.int .i64 (fitN 1 l))]) (by simp [results, Tryz.f206, go_sem, z0, z1, z2, z3, z4]) rfl ?_
    exact ⟨_, rfl, ⟨0, 0, ⟨#[]⟩, ⟨#[]⟩, none, [], 0, rfl⟩, fun h => absurd h HF.out, fun _ => rfl, HB2.out.trans (m5.below HB2.out.size (fun k (e : k = _) => by omega))⟩
def bndB (l : List Bd) (x : Tm) : Bool := x.pre.all fun y => if y.k = 5 then (varT l y.s).isSome else true
def filE (l : List Bd) (x : Tm) : Int := match gvT l x with | some _ => 0 | none => if bndB l x = true then 11 else 2
def FilP (l : List Bd) (x : Tm) (n0 : Nat) (w : World) (e : Ending) (w' : World) : Prop :=
  ∃ (k n : Int) (s t : ByteArray) (A : Option Addr) (m c : Nat), e = .returned (.tuple #[.agg #[.int .i8 k, .int .i64 n, .string s, .string t, .slice A m c], .int .i64 (filE l x)]) ∧
    (∀ y, gvT l x = some y → TmAt (fun b => b < n0 ∨ (w.heap.size ≤ b ∧ b < w'.heap.size)) w' y (.agg #[.int .i8 k, .int .i64 n, .string s, .string t, .slice A m c])) ∧
    (gvT l x = none → (.agg #[.int .i8 k, .int .i64 n, .string s, .string t, .slice A m c] : Value) = .agg #[.int .i8 0, .int .i64 0, .string ⟨#[]⟩, .string ⟨#[]⟩, .slice none 0 0]) ∧ Below w.heap.size w w'
def fRow (mb X : Nat) : Array Value := #[.map (some mb), .nilFunc, .nilFunc, .nilFunc, .nilFunc, .nilFunc, .func (.func 141) #[.pointer (some ⟨X, 0, none⟩)] #[], .func (.func 142) #[] #[], .func (.func 143) #[] #[], .func (.func 144) #[] #[], .func (.func 145) #[.pointer (some ⟨X, 0, none⟩)] #[], .func (.func 146) #[.pointer (some ⟨X, 0, none⟩)] #[]]
structure FAt (n0 : Nat) (W0 : World) (X mb : Nat) (l : List Bd) (W : World) : Prop where
  below : Below n0 W0 W
  size : n0 ≤ W0.heap.size
  box : W.heap[X]? = some (.cells (fRow mb X) 123 (0, 0))
  map : ∃ es c, W.heap[mb]? = some (.map es c) ∧ MapB n0 W0 es l
  ok : may10 l = true
  sp : Spans W
theorem FAt.under {n0 : Nat} {W0 : World} {X mb : Nat} {l : List Bd} {W V : World} (h : FAt n0 W0 X mb l W) (b : Below W.heap.size W V) : FAt n0 W0 X mb l V := by
  obtain ⟨es, c, hm, hM⟩ := h.map
  exact ⟨h.below.trans (b.mono (Nat.le_trans h.size h.below.size)), h.size, (b.block _ (heap_lt h.box)).trans h.box, ⟨es, c, (b.block _ (heap_lt hm)).trans hm, hM⟩, h.ok, h.sp.below b h.sp.lt⟩
def FilK (l : List Bd) (x : Tm) (F : Nat) (args : Nat → Value → Array Value) : Prop :=
  ∀ (n0 : Nat) (W0 : World) (X mb : Nat) (W : World) (v : Value), FAt n0 W0 X mb l W → TmAt (· < W.heap.size) W x v → Calls Tryz.prog F (args X v) W (FilP l x n0 W)
def ptrA (X : Nat) (v : Value) : Array Value := #[.pointer (some ⟨X, 0, none⟩), v]
def oneA (_ : Nat) (v : Value) : Array Value := #[v]
theorem may10_mayL {l : List Bd} (h : may10 l = true) : mayL l = true := by
  unfold mayL
  rw [List.all_eq_true]
  intro b hb
  rw [(may10_len h).2 b hb]; rfl
theorem may10_any_name {l : List Bd} (h : may10 l = true) (s : ByteArray) : varT l s = findB l s := by
  unfold varT
  split
  · rename_i hs
    cases hf : findB l s with
    | none => rfl
    | some y =>
      have hm := findB_mem hf
      unfold may10 at h
      rw [Bool.and_eq_true, List.all_eq_true] at h
      have := h.2 _ hm
      unfold bdOk at this
      simp only [Bool.and_eq_true, Bool.not_eq_true', beq_eq_false_iff_ne] at this
      exact absurd hs this.2.1
  · rfl
theorem gv_leaf (l : List Bd) (k n : Int) (s t : ByteArray) : gvT l (.mk k n s t []) = putT l k n s [] := by rw [gvT_mk]; rfl
theorem fil_ok {l : List Bd} {x y : Tm} (h : gvT l x = some y) : filE l x = 0 := by unfold filE; rw [h]
set_option maxHeartbeats 1000000 in
set_option maxRecDepth 100000 in
theorem fil_6 (l : List Bd) (n : Int) (s t : ByteArray) : FilK l (.mk 6 n s t []) 142 oneA := by
  intro n0 W0 X mb w v hF hT
  unfold oneA
  obtain ⟨A, c, rfl, -, -, hn, hs, -⟩ := hT.parts
  have HN := Lib.hid hn
  have HS := Lib.hid hs
  have HV : Hid (gvT l (.mk 6 n s t []) = some (intT n)) := Lib.hid (gv_leaf l 6 n s t)
  have HE := Lib.hid (fil_ok HV.out)
  clear hn hs hF hT
  obtain ⟨w1, hw1⟩ : ∃ w1, w1 = (w.alloc (.cells #[.int .i8 6, .int .i64 n, .string s, .string t, .slice A 0 c] 25)).alloc (.cells #[.int .i8 0, .int .i64 0, .string ⟨#[]⟩, .string ⟨#[]⟩, .slice none 0 0] 44) := ⟨_, rfl⟩
  have g0 := there_of (.cells #[.int .i8 0, .int .i64 0, .string ⟨#[]⟩, .string ⟨#[]⟩, .slice none 0 0] 44) (block_alloc w (.cells #[.int .i8 6, .int .i64 n, .string s, .string t, .slice A 0 c] 25))
  have g1 := block_alloc (w.alloc (.cells #[.int .i8 6, .int .i64 n, .string s, .string t, .slice A 0 c] 25)) (.cells #[.int .i8 0, .int .i64 0, .string ⟨#[]⟩, .string ⟨#[]⟩, .slice none 0 0] 44)
  rw [World.size_alloc] at g1
  have b2 : Below w.heap.size w w1 := by rw [hw1]; exact ((Below.refl _ w).alloc (Nat.le_refl _) _).alloc (by simp) _
  rw [← hw1] at g0 g1
  have HB := Lib.hid b2
  have HG1 := Lib.hid g1
  obtain ⟨x0, x1, x2, x3, x4⟩ := five_of g0
  clear g0 g1 b2
  go_enter Tryz.func142, Tryz.ntmps142
  go_upto_region 1 with fail
  rw [← hw1]
  clear hw1
  obtain ⟨⟨r0, r1, r2, r3, r4⟩, rf0, rf1, rf2, rf3, rf4⟩ := five_fr HG1.out
  have S5 := Lib.hid (set_five (.int .i8 0) (.int .i64 n) (.string ⟨#[]⟩) (.string ⟨#[]⟩) (.slice none 0 0) HG1.out)
  go_wp2_with fail
  obtain ⟨s5, m5⟩ := S5.out
  generalize ((((((w1).setCell ⟨w.heap.size + 1, 0, none⟩ (.int .i8 0)).setCell ⟨w.heap.size + 1, 1, none⟩ (.int .i64 n)).setCell ⟨w.heap.size + 1, 2, none⟩ (.string ⟨#[]⟩)).setCell ⟨w.heap.size + 1, 3, none⟩ (.string ⟨#[]⟩)).setCell ⟨w.heap.size + 1, 4, none⟩ (.slice none 0 0)) = VX at s5 m5 ⊢
  obtain ⟨z0, z1, z2, z3, z4⟩ := five_of s5
  refine bodyPost_ret (v := .tuple #[.agg #[.int .i8 0, .int .i64 n, .string ⟨#[]⟩, .string ⟨#[]⟩, .slice none 0 0], .int .i64 0]) (by simp [results, Tryz.f142, go_sem, z0, z1, z2, z3, z4]) rfl ?_
  refine ⟨_, _, _, _, _, _, _, by rw [HE.out], fun y hy => ?_, (fun h => by rw [HV.out] at h; cases h), HB.out.trans (m5.below HB.out.size (fun q (e : q = _) => by omega))⟩
  rw [HV.out] at hy
  cases hy
  exact TmAt.of_row (.nil _ _ none 0) (by decide) HN.out (by decide) (by decide)
set_option maxHeartbeats 1000000 in
set_option maxRecDepth 100000 in
theorem fil_7 (l : List Bd) (n : Int) (s t : ByteArray) : FilK l (.mk 7 n s t []) 143 oneA := by
  intro n0 W0 X mb w v hF hT
  unfold oneA
  obtain ⟨A, c, rfl, -, -, hn, hs, -⟩ := hT.parts
  have HN := Lib.hid hn
  have HS := Lib.hid hs
  have HV : Hid (gvT l (.mk 7 n s t []) = some (atmT s)) := Lib.hid (gv_leaf l 7 n s t)
  have HE := Lib.hid (fil_ok HV.out)
  clear hn hs hF hT
  obtain ⟨w1, hw1⟩ : ∃ w1, w1 = (w.alloc (.cells #[.int .i8 7, .int .i64 n, .string s, .string t, .slice A 0 c] 25)).alloc (.cells #[.int .i8 0, .int .i64 0, .string ⟨#[]⟩, .string ⟨#[]⟩, .slice none 0 0] 44) := ⟨_, rfl⟩
  have g0 := there_of (.cells #[.int .i8 0, .int .i64 0, .string ⟨#[]⟩, .string ⟨#[]⟩, .slice none 0 0] 44) (block_alloc w (.cells #[.int .i8 7, .int .i64 n, .string s, .string t, .slice A 0 c] 25))
  have g1 := block_alloc (w.alloc (.cells #[.int .i8 7, .int .i64 n, .string s, .string t, .slice A 0 c] 25)) (.cells #[.int .i8 0, .int .i64 0, .string ⟨#[]⟩, .string ⟨#[]⟩, .slice none 0 0] 44)
  rw [World.size_alloc] at g1
  have b2 : Below w.heap.size w w1 := by rw [hw1]; exact ((Below.refl _ w).alloc (Nat.le_refl _) _).alloc (by simp) _
  rw [← hw1] at g0 g1
  have HB := Lib.hid b2
  have HG1 := Lib.hid g1
  obtain ⟨x0, x1, x2, x3, x4⟩ := five_of g0
  clear g0 g1 b2
  go_enter Tryz.func143, Tryz.ntmps143
  go_upto_region 1 with fail
  rw [← hw1]
  clear hw1
  obtain ⟨⟨r0, r1, r2, r3, r4⟩, rf0, rf1, rf2, rf3, rf4⟩ := five_fr HG1.out
  have S5 := Lib.hid (set_five (.int .i8 1) (.int .i64 0) (.string s) (.string ⟨#[]⟩) (.slice none 0 0) HG1.out)
  go_wp2_with fail
  obtain ⟨s5, m5⟩ := S5.out
  generalize ((((((w1).setCell ⟨w.heap.size + 1, 0, none⟩ (.int .i8 1)).setCell ⟨w.heap.size + 1, 1, none⟩ (.int .i64 0)).setCell ⟨w.heap.size + 1, 2, none⟩ (.string s)).setCell ⟨w.heap.size + 1, 3, none⟩ (.string ⟨#[]⟩)).setCell ⟨w.heap.size + 1, 4, none⟩ (.slice none 0 0)) = VX at s5 m5 ⊢
  obtain ⟨z0, z1, z2, z3, z4⟩ := five_of s5
  refine bodyPost_ret (v := .tuple #[.agg #[.int .i8 1, .int .i64 0, .string s, .string ⟨#[]⟩, .slice none 0 0], .int .i64 0]) (by simp [results, Tryz.f143, go_sem, z0, z1, z2, z3, z4]) rfl ?_
  refine ⟨_, _, _, _, _, _, _, by rw [HE.out], fun y hy => ?_, (fun h => by rw [HV.out] at h; cases h), HB.out.trans (m5.below HB.out.size (fun q (e : q = _) => by omega))⟩
  rw [HV.out] at hy
  cases hy
  exact TmAt.of_row (.nil _ _ none 0) (by decide) (by decide) HS.out (by decide)
set_option maxHeartbeats 1000000 in
set_option maxRecDepth 100000 in
theorem fil_8 (l : List Bd) (n : Int) (s t : ByteArray) : FilK l (.mk 8 n s t []) 144 oneA := by
  intro n0 W0 X mb w v hF hT
  unfold oneA
  obtain ⟨A, c, rfl, -, -, hn, hs, -⟩ := hT.parts
  have HN := Lib.hid hn
  have HS := Lib.hid hs
  have HV : Hid (gvT l (.mk 8 n s t []) = some (nilT11)) := Lib.hid (gv_leaf l 8 n s t)
  have HE := Lib.hid (fil_ok HV.out)
  clear hn hs hF hT
  obtain ⟨w1, hw1⟩ : ∃ w1, w1 = (w.alloc (.cells #[.int .i8 8, .int .i64 n, .string s, .string t, .slice A 0 c] 25)).alloc (.cells #[.int .i8 0, .int .i64 0, .string ⟨#[]⟩, .string ⟨#[]⟩, .slice none 0 0] 44) := ⟨_, rfl⟩
  have g0 := there_of (.cells #[.int .i8 0, .int .i64 0, .string ⟨#[]⟩, .string ⟨#[]⟩, .slice none 0 0] 44) (block_alloc w (.cells #[.int .i8 8, .int .i64 n, .string s, .string t, .slice A 0 c] 25))
  have g1 := block_alloc (w.alloc (.cells #[.int .i8 8, .int .i64 n, .string s, .string t, .slice A 0 c] 25)) (.cells #[.int .i8 0, .int .i64 0, .string ⟨#[]⟩, .string ⟨#[]⟩, .slice none 0 0] 44)
  rw [World.size_alloc] at g1
  have b2 : Below w.heap.size w w1 := by rw [hw1]; exact ((Below.refl _ w).alloc (Nat.le_refl _) _).alloc (by simp) _
  rw [← hw1] at g0 g1
  have HB := Lib.hid b2
  have HG1 := Lib.hid g1
  obtain ⟨x0, x1, x2, x3, x4⟩ := five_of g0
  clear g0 g1 b2
  go_enter Tryz.func144, Tryz.ntmps144
  go_upto_region 1 with fail
  rw [← hw1]
  clear hw1
  obtain ⟨⟨r0, r1, r2, r3, r4⟩, rf0, rf1, rf2, rf3, rf4⟩ := five_fr HG1.out
  have S5 := Lib.hid (set_five (.int .i8 6) (.int .i64 0) (.string ⟨#[]⟩) (.string ⟨#[]⟩) (.slice none 0 0) HG1.out)
  go_wp2_with fail
  obtain ⟨s5, m5⟩ := S5.out
  generalize ((((((w1).setCell ⟨w.heap.size + 1, 0, none⟩ (.int .i8 6)).setCell ⟨w.heap.size + 1, 1, none⟩ (.int .i64 0)).setCell ⟨w.heap.size + 1, 2, none⟩ (.string ⟨#[]⟩)).setCell ⟨w.heap.size + 1, 3, none⟩ (.string ⟨#[]⟩)).setCell ⟨w.heap.size + 1, 4, none⟩ (.slice none 0 0)) = VX at s5 m5 ⊢
  obtain ⟨z0, z1, z2, z3, z4⟩ := five_of s5
  refine bodyPost_ret (v := .tuple #[.agg #[.int .i8 6, .int .i64 0, .string ⟨#[]⟩, .string ⟨#[]⟩, .slice none 0 0], .int .i64 0]) (by simp [results, Tryz.f144, go_sem, z0, z1, z2, z3, z4]) rfl ?_
  refine ⟨_, _, _, _, _, _, _, by rw [HE.out], fun y hy => ?_, (fun h => by rw [HV.out] at h; cases h), HB.out.trans (m5.below HB.out.size (fun q (e : q = _) => by omega))⟩
  rw [HV.out] at hy
  cases hy
  exact TmAt.of_row (.nil _ _ none 0) (by decide) (by decide) (by decide) (by decide)
end Go.Proofs.YtkceoiaaiaomoaaGreatDoor
