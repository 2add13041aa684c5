/- The walk of IntsDigits: digits read as their number. -/
import Derived.Test.YthbbpcgaakbolaaWakes01
import Derived.Outline
import Derived.LoopTactic
namespace Go.Proofs.Ythbbpcgaakbolaa
open Go.RowKit

theorem len_size (b : ByteArray) : b.data.toList.length = b.size := by rw [Array.length_toList]; rfl

def num (l : List UInt8) : Nat := l.foldl (fun n c => n * 10 + (c.toNat - 48)) 0
theorem num_fold (l : List UInt8) : ∀ a, l.foldl (fun n c => n * 10 + (c.toNat - 48)) a = a * 10 ^ l.length + num l := by
  unfold num
  induction l with
  | nil => simp
  | cons c l ih =>
    intro a
    rw [List.foldl_cons, List.foldl_cons, ih, ih (0 * 10 + _), List.length_cons, Nat.pow_succ, Nat.add_mul]
    rw [Nat.mul_assoc a 10, Nat.mul_comm 10 (10 ^ l.length), Nat.zero_mul, Nat.zero_add, Nat.add_assoc]
theorem num_cons (c : UInt8) (l : List UInt8) : num (c :: l) = (c.toNat - 48) * 10 ^ l.length + num l := by
  show (c :: l).foldl _ 0 = _
  rw [List.foldl_cons, num_fold]; simp

theorem dg_app : ∀ (l r : List UInt8), (∀ c ∈ l, isDig c = true) → (∀ c, r.head? = some c → isDig c = false) → dg (l ++ r) = l.length
  | [], r, _, hr => by
    cases r with
    | nil => rfl
    | cons c r => rw [List.nil_append, dg_cons, if_neg (by rw [hr c rfl]; decide)]; rfl
  | c :: l, r, hl, hr => by
    rw [List.cons_append, dg_cons, if_pos (hl c (.head _)), dg_app l r (fun x hx => hl x (.tail _ hx)) hr]; rfl

theorem vl_app (l r : List UInt8) : vl (l ++ r) l.length = num l := by unfold vl num; simp

/-- What stands behind the loop's rounds: a text of digits and the number that is left. -/
def Part (n k : Nat) (b : ByteArray) : Prop := (∀ c ∈ b.data.toList, isDig c = true) ∧ n = k * 10 ^ b.size + num b.data.toList ∧ b.size ≤ 19

theorem part_start (n : Nat) : Part n n ⟨#[]⟩ := ⟨by simp, by show n = n * 10 ^ 0 + 0; omega, by decide⟩

theorem part_step {n k : Nat} {b : ByteArray} (h : Part n k b) (hn : n ≤ 576460752303423487) (hk : 0 < k ∨ b.size = 0) (c : UInt8) (hc : c.toNat = 48 + k % 10) : Part n (k / 10) (⟨#[c]⟩ ++ b) := by
  obtain ⟨h1, h2, h3⟩ := h
  have e : (ByteArray.mk #[c] ++ b).data.toList = c :: b.data.toList := by simp
  have es : (ByteArray.mk #[c] ++ b).size = b.size + 1 := by rw [ByteArray.size_append, show (ByteArray.mk #[c]).size = 1 from rfl]; omega
  refine ⟨?_, ?_, ?_⟩
  · rw [e]; intro x hx
    cases hx with
    | head => unfold isDig; rw [decide_eq_true_eq]; omega
    | tail _ hx => exact h1 x hx
  · rw [e, es, num_cons, h2, Nat.pow_succ, len_size, hc, show 48 + k % 10 - 48 = k % 10 from by omega]
    have := Nat.div_add_mod k 10
    generalize hp : 10 ^ b.size = p
    have h5 : k * p = (k / 10 * 10 + k % 10) * p := by rw [show k / 10 * 10 + k % 10 = k from by omega]
    rw [h5, Nat.add_mul, Nat.mul_assoc, Nat.mul_comm 10 p, ← Nat.add_assoc]
  · rw [es]
    rcases hk with hk | hk
    · by_cases h4 : b.size ≤ 18
      · omega
      · have h5 : b.size = 19 := by omega
        rw [h5] at h2
        have h6 : 1 * 10 ^ 19 ≤ k * 10 ^ 19 := Nat.mul_le_mul_right _ hk
        omega
    · omega

theorem enc_dig (k : Nat) (h : k < 10) : ∃ c : UInt8, c.toNat = 48 + k ∧ Utf8.encode (48 + (k : Int)) = ⟨#[c]⟩ := by
  refine ⟨UInt8.ofNat (48 + k), by simp; omega, ?_⟩
  match k, h with
  | 0, _ => decide +kernel
  | 1, _ => decide +kernel
  | 2, _ => decide +kernel
  | 3, _ => decide +kernel
  | 4, _ => decide +kernel
  | 5, _ => decide +kernel
  | 6, _ => decide +kernel
  | 7, _ => decide +kernel
  | 8, _ => decide +kernel
  | 9, _ => decide +kernel

/-- What Read answers at such a text. -/
theorem part_read {n : Nat} {b r : ByteArray} (h : Part n 0 b) (hn : n ≤ 576460752303423487) (hb : ¬ b.size = 0) (hr : ∀ c, r.data.toList.head? = some c → isDig c = false) :
    readR (b ++ r).data.toList = ((n : Int), (b.size : Int), 0) := by
  obtain ⟨h1, h2, h3⟩ := h
  have e : (b ++ r).data.toList = b.data.toList ++ r.data.toList := by simp
  have hd := dg_app b.data.toList r.data.toList h1 hr
  have hv := vl_app b.data.toList r.data.toList
  have hl := len_size b
  rw [e]
  unfold readR
  rw [hd, hv, hl, if_neg hb, if_neg (by omega)]
  simp at h2
  rw [← h2]

/-- One, where a text is empty. -/
def emptyOf : Value → Nat | .string b => if b.size = 0 then 1 else 0 | _ => 0
theorem emptyOf_cons (c : UInt8) (b : ByteArray) : emptyOf (.string (⟨#[c]⟩ ++ b)) = 0 := by
  show (if (ByteArray.mk #[c] ++ b).size = 0 then 1 else 0) = 0
  rw [ByteArray.size_append, show (ByteArray.mk #[c]).size = 1 from rfl, if_neg (by omega)]

theorem part_le {n k : Nat} {b : ByteArray} (h : Part n k b) : k ≤ n := by
  obtain ⟨_, h2, _⟩ := h
  have := Nat.le_mul_of_pos_right k (Nat.pow_pos (n := b.size) (show 0 < 10 by decide))
  omega

theorem Read_at (s : ByteArray) (x y z : Int) (w : World) (hs : s.size ≤ maxLen) (h : readR s.data.toList = (x, y, z)) :
    Calls Try.prog 13 #[.string s] w fun e w' => e = .returned (.tuple #[.int .i64 x, .int .i64 y, .int .i64 z]) ∧ w = w' := by
  have k := Read_any s w hs
  rw [h] at k
  exact k

set_option maxRecDepth 100000 in
set_option maxHeartbeats 2000000 in
theorem digits_ok (n : Nat) (r : ByteArray) (hn : n ≤ 576460752303423487) (hr : r.size ≤ 1000) (hh : ∀ h : 0 < r.size, (r[0].toNat : Int) < 48 ∨ 57 < (r[0].toNat : Int)) (w : World) :
    Calls Try.prog 6 #[.int .i64 n, .string r] w fun e w' => e = .returned (.bool true) ∧ Below w.heap.size w w' := by
  have hr0 : ∀ c, r.data.toList.head? = some c → isDig c = false := by
    intro c hc
    have h0 : 0 < r.size := by
      cases hs : r.data.toList with
      | nil => rw [hs] at hc; cases hc
      | cons x l => have := len_size r
                    rw [hs] at this; simp at this; omega
    have h1 : c = r[0] := by
      have h2 : r.data.toList[0]? = some c := by rw [← List.head?_eq_getElem?]; exact hc
      have h3 : r.data.toList[0]? = some r[0] := by simp [h0]; rfl
      rw [h3] at h2; exact (Option.some.inj h2).symm
    subst h1
    have := hh h0
    unfold isDig; rw [decide_eq_false_iff_not]; omega
  have HR := Lib.hid hr0
  clear hr0
  have hsz : r.size = 0 ∨ (∃ _ : 0 < r.size, (r[0].toNat : Int) < 48) ∨ (∃ _ : 0 < r.size, 57 < (r[0].toNat : Int)) := by
    by_cases h : 0 < r.size
    · rcases hh h with h1 | h1
      · exact .inr (.inl ⟨h, h1⟩)
      · exact .inr (.inr ⟨h, h1⟩)
    · exact .inl (by omega)
  clear hh
  rcases hsz with h0 | ⟨h0, h1⟩ | ⟨h0, h1⟩
  all_goals
    have HN := Lib.hid hn
    go_enter Try.func6, Try.ntmps6
    go_wp2_with fail
    go_loop [5, 6] (fun s i => ∃ (k : Nat) (b : ByteArray), s = .string b ∧ i = .int .i64 k ∧ Part n k b) (fun s i => (intOf i).toNat * 2 + emptyOf s)
    case atStart => exact ⟨n, ⟨#[]⟩, rfl, rfl, part_start n⟩
    case round =>
      try clear h1
      obtain ⟨k, b, rfl, rfl, hp⟩ := hrel
      have hkn := part_le hp
      have hsz := hp.2.2
      have HP := Lib.hid hp
      clear hp
      obtain ⟨c, hc, he⟩ := enc_dig (k % 10) (Nat.mod_lt _ (by decide))
      have HC := Lib.hid hc
      rw [show ((k % 10 : Nat) : Int) = (k : Int) % 10 from by omega] at he
      have hes : (Utf8.encode (48 + (k : Int) % 10)).size ≤ 4 := by rw [he]; show 1 ≤ 4; decide
      have HE := Lib.hid he
      clear hc he
      by_cases hk : 0 < k
      · have hemp : Hid (emptyOf (.string (⟨#[c]⟩ ++ b)) = 0) := emptyOf_cons c b
        go_wp2
        go_round
        case rel => exact ⟨k / 10, ⟨#[c]⟩ ++ b, by rw [HE.out], by go_num, part_step HP.out HN.out (.inl hk) c HC.out⟩
        case measure => rw [HE.out, hemp.out]; simp [intOf]; omega
      · obtain rfl : k = 0 := by omega
        by_cases hb : b.size = 0
        · obtain rfl : b = ⟨#[]⟩ := by
            apply WideShapes.bytes_inj
            have := len_size b
            rw [hb] at this
            show b.data.toList = []
            exact List.eq_nil_of_length_eq_zero this
          have hemp : Hid (emptyOf (.string (⟨#[c]⟩ ++ ⟨#[]⟩)) = 0) := emptyOf_cons c ⟨#[]⟩
          have he0 : Hid (Utf8.encode 48 = ⟨#[c]⟩) := by have h := HE.out; show _ = _; simpa using h
          clear hb
          go_wp2
          exact ⟨⟨0, ⟨#[c]⟩ ++ ⟨#[]⟩, by rw [he0.out], rfl, part_step HP.out HN.out (.inr rfl) c HC.out⟩, by rw [he0.out, hemp.out]; simp [intOf, emptyOf, ByteArray.size]⟩
        · have hb1 : b.toList.isEmpty = false := by
            rw [ByteArray.toList_eq]
            cases hl : b.data.toList with
            | nil => have := len_size b; rw [hl] at this; simp at this; omega
            | cons x l => rfl
          have hread := Lib.hid (part_read HP.out HN.out hb HR.out)
          go_wp2_with (first
            | (go_at_call 13; refine (Read_at _ _ _ _ _ (by unfold maxLen; rw [ByteArray.size_append]; omega) hread.out).mono ?_; rintro e w1 ⟨rfl, rfl⟩)
            | (go_at_call 8; refine (wakes_any _).mono ?_; rintro e w2 ⟨rfl, b2⟩))
          go_ret
          exact ⟨rfl, b2⟩

theorem walk_IntsDigits (a0 : Int) (a1 : ByteArray) (_w0 : (Lit.int .i64 a0).wf = true) (_w1 : a1.size ≤ maxLen) (w : World) :
    Calls Try.prog 6 #[.int .i64 a0, .string a1] w fun e w' => e = .returned (.bool true) ∧ Below w.heap.size w w' := by
  by_cases h1 : a0 < 0
  · go_enter Try.func6, Try.ntmps6
    go_wp2_with (go_at_call 8; refine (wakes_any _).mono ?_; rintro e w2 ⟨rfl, b2⟩)
    go_ret
    exact ⟨rfl, b2⟩
  by_cases h2 : 576460752303423487 < a0
  · go_enter Try.func6, Try.ntmps6
    go_wp2_with (go_at_call 8; refine (wakes_any _).mono ?_; rintro e w2 ⟨rfl, b2⟩)
    go_ret
    exact ⟨rfl, b2⟩
  by_cases h3 : 1000 < a1.size
  · go_enter Try.func6, Try.ntmps6
    go_wp2_with (go_at_call 8; refine (wakes_any _).mono ?_; rintro e w2 ⟨rfl, b2⟩)
    go_ret
    exact ⟨rfl, b2⟩
  by_cases h4 : ∃ h : 0 < a1.size, 48 ≤ (a1[0].toNat : Int) ∧ (a1[0].toNat : Int) ≤ 57
  · obtain ⟨h5, h6, h7⟩ := h4
    go_enter Try.func6, Try.ntmps6
    go_wp2_with (go_at_call 8; refine (wakes_any _).mono ?_; rintro e w2 ⟨rfl, b2⟩)
    go_ret
    exact ⟨rfl, b2⟩
  obtain ⟨n, rfl⟩ := Int.eq_ofNat_of_zero_le (show 0 ≤ a0 by omega)
  exact digits_ok n a1 (by omega) (by omega) (fun h => by
    by_cases h8 : (a1[0].toNat : Int) < 48
    · exact .inl h8
    · by_cases h9 : 57 < (a1[0].toNat : Int)
      · exact .inr h9
      · exact absurd ⟨h, by omega, by omega⟩ h4) w

end Go.Proofs.Ythbbpcgaakbolaa
