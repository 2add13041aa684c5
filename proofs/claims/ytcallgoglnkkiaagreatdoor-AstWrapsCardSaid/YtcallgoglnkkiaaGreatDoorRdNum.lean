/- Decimal numbers and names at the beginning of a text, as plain facts on lists of bytes. -/
import Derived.Test.YtcallgoglnkkiaaGreatDoorAtomsPrefix
import Derived.Test.YtcallgoglnkkiaaGreatDoorDigits
import Derived.Test.YtcallgoglnkkiaaGreatDoorIntsFn
import Derived.Lib.ItoaNum
set_option linter.unusedVariables false
namespace Go.Proofs.YtcallgoglnkkiaaGreatDoor
open Go.RowKit
open Go.Lib (decDigits itoa)

theorem ofNat_dig {d : Nat} (h : d < 10) : isDig (UInt8.ofNat (48 + d)) = true ∧ (UInt8.ofNat (48 + d)).toNat - 48 = d ∧ (UInt8.ofNat (48 + d)).toNat = 48 + d := by
  have e : (UInt8.ofNat (48 + d)).toNat = 48 + d := by rw [UInt8.toNat_ofNat']; omega
  refine ⟨?_, by omega, e⟩
  unfold isDig; rw [decide_eq_true_eq, e]; omega

theorem dec_facts (u : Nat) : (∀ c ∈ decDigits u, isDig c = true) ∧ (decDigits u).foldl (fun n c => n * 10 + (c.toNat - 48)) 0 = u ∧ (10 ≤ u → ∃ c t, decDigits u = c :: t ∧ c ≠ 48) ∧ (0 < u → ∃ c t, decDigits u = c :: t ∧ c ≠ 48) ∧ decDigits u ≠ [] := by
  induction u using Nat.strongRecOn with
  | _ u ih =>
    rw [decDigits]
    by_cases h : u < 10
    · rw [dif_pos h]
      have hd := ofNat_dig h
      refine ⟨fun c hc => ?_, ?_, fun h => by omega, fun h0 => ⟨_, _, rfl, fun e => ?_⟩, by simp⟩
      · rcases List.mem_singleton.1 hc with rfl; exact hd.1
      · simp only [List.foldl_cons, List.foldl_nil]; rw [hd.2.1]; omega
      · have := hd.2.2; rw [e] at this; have h48 : (48 : UInt8).toNat = 48 := rfl; omega
    · rw [dif_neg h]
      have hd := ofNat_dig (show u % 10 < 10 by omega)
      obtain ⟨i1, i2, i3, i4, i5⟩ := ih (u / 10) (by omega)
      obtain ⟨c, t, e, hc⟩ := i4 (by omega)
      refine ⟨fun c hc => ?_, ?_, fun _ => ⟨c, t ++ [_], by rw [e]; rfl, hc⟩, fun _ => ⟨c, t ++ [_], by rw [e]; rfl, hc⟩, by simp⟩
      · rcases List.mem_append.1 hc with hc | hc
        · exact i1 c hc
        · rcases List.mem_singleton.1 hc with rfl; exact hd.1
      · rw [List.foldl_append, i2]
        simp only [List.foldl_cons, List.foldl_nil]; rw [hd.2.1]; omega

/-- No byte of a name stands ahead. -/
def Sep (r : List UInt8) : Prop := ∀ c t, r = c :: t → kindN (c.toNat : Int) = 0
theorem dig_kind {c : UInt8} (h : isDig c = true) : kindN (c.toNat : Int) ≠ 0 := by
  unfold isDig at h
  rw [decide_eq_true_eq] at h
  unfold kindN
  repeat' split
  all_goals first | decide | omega
theorem Sep.nodig {r : List UInt8} (h : Sep r) : r.takeWhile isDig = [] := by
  cases r with
  | nil => rfl
  | cons c t =>
    have h1 := h c t rfl
    rw [List.takeWhile_cons, if_neg]
    intro hd
    exact dig_kind hd h1

theorem dg_dec (u : Nat) {r : List UInt8} (hr : Sep r) : dg (decDigits u ++ r) = (decDigits u).length := by
  unfold dg
  rw [List.takeWhile_append_of_pos (dec_facts u).1, hr.nodig, List.append_nil]
theorem vl_dec (u : Nat) (r : List UInt8) : vl (decDigits u ++ r) (decDigits u).length = u := by
  unfold vl
  rw [List.take_left']
  · exact (dec_facts u).2.1
  · rfl
theorem readR_dec (u : Nat) {r : List UInt8} (hr : Sep r) : readR (decDigits u ++ r) = if 576460752303423487 < u then (0, ((decDigits u).length : Int), 11) else ((u : Int), ((decDigits u).length : Int), 0) := by
  have hl : (decDigits u).length ≠ 0 := fun e => (dec_facts u).2.2.2.2 (List.eq_nil_of_length_eq_zero e)
  unfold readR
  rw [dg_dec u hr, if_neg hl, vl_dec]

theorem prefL_all {l : List UInt8} (h : prefL l = l.length) : ∀ c ∈ l, kindN (c.toNat : Int) ≠ 0 := by
  induction l with
  | nil => intro c hc; simp at hc
  | cons a l ih =>
    rw [prefL] at h
    by_cases ha : kindN (a.toNat : Int) = 0
    · rw [if_pos ha] at h; simp at h
    · rw [if_neg ha] at h
      intro c hc
      rcases List.mem_cons.1 hc with rfl | hc
      · exact ha
      · exact ih (by simpa using h) c hc
theorem prefL_append {l r : List UInt8} (h : ∀ c ∈ l, kindN (c.toNat : Int) ≠ 0) (hr : Sep r) : prefL (l ++ r) = l.length := by
  induction l with
  | nil =>
    cases r with
    | nil => rfl
    | cons c t => rw [List.nil_append, prefL, if_pos (hr c t rfl)]; rfl
  | cons a l ih =>
    rw [List.cons_append, prefL, if_neg (h a (by simp)), ih (fun c hc => h c (by simp [hc]))]
    rfl
theorem name_all {s : ByteArray} {k : Int} (h : nameB s k = true) : ∀ c ∈ s.data.toList, kindN (c.toNat : Int) ≠ 0 := by
  have h1 := (of_decide_eq_true h).2.2.2
  exact prefL_all (by unfold prefN at h1; rw [h1, Array.length_toList]; rfl)
/-- A name ahead of what is no part of one. -/
theorem pref_name {s : ByteArray} {k : Int} (h : nameB s k = true) {r : List UInt8} (hr : Sep r) : prefL (s.data.toList ++ r) = s.size := by
  rw [prefL_append (name_all h) hr, Array.length_toList]; rfl
end Go.Proofs.YtcallgoglnkkiaaGreatDoor
