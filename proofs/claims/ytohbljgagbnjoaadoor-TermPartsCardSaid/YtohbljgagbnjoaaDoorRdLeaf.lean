/- The reader: begins, marked. -/
import Derived.Test.YtohbljgagbnjoaaDoorRd
import Derived.Test.YtohbljgagbnjoaaDoorRdNum
set_option linter.unusedVariables false
namespace Go.Proofs.YtohbljgagbnjoaaDoor
open Go.RowKit
open Go.Lib (decDigits itoa)

theorem RS.spans {w0 W : World} {rb pos bg : Nat} {s : ByteArray} (h : RS w0 rb s pos bg W) (hS : Spans w0) : Spans W := hS.below h.below hS.lt

theorem drop_one {s : ByteArray} {pos : Nat} {c : UInt8} {r : List UInt8} (h : s.data.toList.drop pos = c :: r) : ∃ hp : pos < s.size, s[pos] = c ∧ s.extract pos (pos + 1) = ⟨#[c]⟩ ∧ s.data.toList.drop (pos + 1) = r := by
  have hl : pos < s.data.toList.length := by
    rcases Nat.lt_or_ge pos s.data.toList.length with h1 | h1
    · exact h1
    · rw [List.drop_eq_nil_of_le h1] at h; cases h
  have hp : pos < s.size := by rw [Array.length_toList] at hl; exact hl
  rw [List.drop_eq_getElem_cons hl] at h
  injection h with h1 h2
  refine ⟨hp, ?_, ?_, h2⟩
  · rw [← h1]; rfl
  · apply ByteArray.ext
    apply Array.toList_inj.1
    rw [ByteArray.data_extract, Array.toList_extract]
    simp only [List.extract_eq_take_drop, Nat.add_sub_cancel_left]
    rw [List.drop_eq_getElem_cons hl, h1]
    simp
theorem drop_more {s : ByteArray} {pos : Nat} {l r : List UInt8} (h : s.data.toList.drop pos = l ++ r) : s.data.toList.drop (pos + l.length) = r ∧ (l ≠ [] → pos + l.length ≤ s.size) := by
  refine ⟨by rw [← List.drop_drop, h, List.drop_left], fun hne => ?_⟩
  have h1 := congrArg List.length h
  rw [List.length_drop, List.length_append, Array.length_toList] at h1
  have : 0 < l.length := List.length_pos_iff.2 hne
  show _ ≤ s.data.size
  omega

theorem has_append (p r : List UInt8) : Go.Lib.hasPrefix (p ++ r) p = true := by unfold Go.Lib.hasPrefix; exact List.isPrefixOf_iff_prefix.2 (List.prefix_append _ _)

/-- What a part begins with. -/
def firstB (c : UInt8) : Bool := decide (0 ≤ Lib.indexByte [123, 91, 60, 35, 45] c) || decide (kindN (c.toNat : Int) ≠ 0)

theorem pref_one (c : UInt8) : prefN ⟨#[c]⟩ = if kindN (c.toNat : Int) = 0 then 0 else 1 := by
  show prefL [c] = _
  rw [prefL]
  split <;> rfl

set_option maxHeartbeats 2000000 in
set_option maxRecDepth 100000 in
theorem begins_is {w0 W : World} {rb pos bg : Nat} {s : ByteArray} (h : RS w0 rb s pos bg W) (hS : Spans w0) (hs : s.size ≤ 1099511627776) {c : UInt8} {r : List UInt8} (hd : s.data.toList.drop pos = c :: r) (hc : firstB c = true) :
    Calls Tryd.prog 74 #[.pointer (some ⟨rb, 0, none⟩)] W fun e W' => e = .returned (.bool true) ∧ Below W.heap.size W W' := by
  obtain ⟨hp, hcp, hx, -⟩ := drop_one hd
  have c0 : W.cell? ⟨rb, 0, none⟩ = some (.string s) := cell_of_row h.rd rfl
  have c1 : W.cell? ⟨rb, 1, none⟩ = some (.int .i64 pos) := cell_of_row h.rd rfl
  have HH := Lib.hid h
  have HX := Lib.hid hx
  have HS := Lib.hid (h.spans hS)
  have HC := Lib.hid hc
  have hg : decide (s.size ≤ pos) = false := decide_eq_false (by omega)
  have hg' : decide ((s.size : Int) ≤ (pos : Int)) = false := decide_eq_false (by omega)
  have hp1 : pos + 1 ≤ s.size := hp
  clear h hd hx hcp hc
  go_enter Tryd.func74, Tryd.ntmps74
  go_wp2_with fail
  go_quiet (fail)
  have b1 : Below W.heap.size W (W.drewN nq) := ⟨rfl, rfl, rfl, Nat.le_refl _, fun _ _ => rfl⟩
  have hS1 := HS.out.below b1 HS.out.lt
  have c0 : (W.drewN nq).cell? ⟨rb, 0, none⟩ = some (.string s) := cell_of_row HH.out.rd rfl
  have c1 : (W.drewN nq).cell? ⟨rb, 1, none⟩ = some (.int .i64 pos) := cell_of_row HH.out.rd rfl
  generalize W.drewN nq = V at b1 hS1 c0 c1 ⊢
  have B1 := Lib.hid b1
  have S1 := Lib.hid hS1
  clear b1 hS1
  go_wp2_with fail
  go_quiet (fail)
  rw [HX.out]
  have b2 : Below W.heap.size W (V.drewN nq) := B1.out.trans ⟨rfl, rfl, rfl, Nat.le_refl _, fun _ _ => rfl⟩
  have hS2 := HS.out.below b2 HS.out.lt
  generalize V.drewN nq = V2 at b2 hS2 ⊢
  have B2 := Lib.hid b2
  have S2 := Lib.hid hS2
  clear b2 hS2 c0 c1
  cases hi : decide (0 ≤ Lib.indexByte [123, 91, 60, 35, 45] c)
  · have hk : prefN ⟨#[c]⟩ = 1 := by
      have := HC.out
      unfold firstB at this
      rw [hi, Bool.false_or, decide_eq_true_eq] at this
      rw [pref_one, if_neg this]
    have HP : Hid (∀ w, Spans w → Calls Tryd.prog 92 #[.string ⟨#[c]⟩] w fun e w' => e = .returned (.int .i64 1) ∧ Below w.heap.size w w') := fun w hw => (Prefix_any ⟨#[c]⟩ (by show 1 ≤ maxLen; unfold maxLen; omega) w hw).mono fun e w' h => ⟨by rw [h.1, hk]; rfl, h.2⟩
    have HN : Hid (∀ w, Calls Tryd.prog 91 #[.string ⟨#[123, 91, 60, 35, 45]⟩, .string ⟨#[c]⟩] w fun e w' => e = .returned (.bool false) ∧ w' = w) := fun w => (Tryd.strings_Contains_one _ c w).mono fun e w' h => ⟨by rw [h.1]; exact congrArg (fun b => Ending.returned (.bool b)) hi, h.2⟩
    go_wp2_with fail
    refine (HN.out _).mono ?_
    rintro e w1 ⟨rfl, rfl⟩
    go_wp2_with fail
    refine (HP.out _ S2.out).mono ?_
    rintro e w2 ⟨rfl, h2⟩
    go_wp2_with fail
    go_ret
    exact ⟨rfl, B2.out.trans (h2.mono B2.out.size)⟩
  · have HN : Hid (∀ w, Calls Tryd.prog 91 #[.string ⟨#[123, 91, 60, 35, 45]⟩, .string ⟨#[c]⟩] w fun e w' => e = .returned (.bool true) ∧ w' = w) := fun w => (Tryd.strings_Contains_one _ c w).mono fun e w' h => ⟨by rw [h.1]; exact congrArg (fun b => Ending.returned (.bool b)) hi, h.2⟩
    go_wp2_with fail
    refine (HN.out _).mono ?_
    rintro e w1 ⟨rfl, rfl⟩
    go_wp2_with fail
    go_ret
    exact ⟨rfl, B2.out⟩

set_option maxHeartbeats 2000000 in
set_option maxRecDepth 100000 in
/-- A number between a mark and a >. -/
theorem marked_is {w0 W : World} {rb pos bg : Nat} {s : ByteArray} (h : RS w0 rb s pos bg W) (hs : s.size ≤ 1099511627776) (mk : ByteArray) (hm : mk.size ≤ 1000) (n : Nat) (hn : n ≤ 576460752303423487) {r : List UInt8} (hd : s.data.toList.drop pos = mk.data.toList ++ (decDigits n ++ 62 :: r)) :
    Calls Tryd.prog 77 #[.pointer (some ⟨rb, 0, none⟩), .string mk] W fun e W' => e = .returned (.tuple #[.int .i64 n, .int .i64 0]) ∧ RS w0 rb s (pos + mk.size + (decDigits n).length + 1) bg W' ∧ Mod (fun k => k = rb) W W' := by
  have hm1 : mk.data.toList.length = mk.size := Array.length_toList
  obtain ⟨hd1, -⟩ := drop_more hd
  obtain ⟨hd2, hl2⟩ := drop_more hd1
  obtain ⟨hp2, -, -, -⟩ := drop_one hd2
  have hl2 := hl2 (dec_facts n).2.2.2.2
  rw [hm1] at hd1 hd2 hl2 hp2
  have hsep : Sep (62 :: r) := by intro c t e; injection e with e1 e2; subst e1; decide
  have hq : readR (s.data.toList.drop (pos + mk.size)) = ((n : Int), (((decDigits n).length : Nat) : Int), 0) := by rw [hd1, readR_dec n hsep, if_neg (by omega)]
  have hz : 1 < (decDigits n).length → ∀ h : pos + mk.size < s.size, s[pos + mk.size] ≠ 48 := by
    intro h1 hlt
    have h10 : 10 ≤ n := by
      rcases Nat.lt_or_ge n 10 with h9 | h9
      · rw [decDigits, dif_pos h9] at h1; simp at h1
      · exact h9
    obtain ⟨c, t, e, hc⟩ := (dec_facts n).2.2.1 h10
    rw [e] at hd1
    obtain ⟨_, e2, -, -⟩ := drop_one hd1
    rw [e2]; exact hc
  have T1 : Hid (∀ V, RS w0 rb s pos bg V → Calls Tryd.prog 93 #[.pointer (some ⟨rb, 0, none⟩), .string mk] V fun e W' => e = .returned (.bool true) ∧ RS w0 rb s (pos + mk.size) bg W' ∧ Mod (fun k => k = rb) V W') := fun V hV =>
    take_is hV (by omega) hs mk hm true (by rw [hd, has_append])
  have T2 : Hid (∀ V, RS w0 rb s (pos + mk.size) bg V → Calls Tryd.prog 96 #[.pointer (some ⟨rb, 0, none⟩)] V fun e W' => e = .returned (.tuple #[.int .i64 n, .int .i64 0]) ∧ RS w0 rb s (pos + mk.size + (decDigits n).length) bg W' ∧ Mod (fun k => k = rb) V W') := fun V hV =>
    digits_is hV hs n (decDigits n).length 0 hq hl2 hz
  have T3 : Hid (∀ V, RS w0 rb s (pos + mk.size + (decDigits n).length) bg V → Calls Tryd.prog 93 #[.pointer (some ⟨rb, 0, none⟩), .string ⟨#[62]⟩] V fun e W' => e = .returned (.bool true) ∧ RS w0 rb s (pos + mk.size + (decDigits n).length + 1) bg W' ∧ Mod (fun k => k = rb) V W') := fun V hV =>
    take_is hV (by omega) hs ⟨#[62]⟩ (by decide) true (by rw [hd2]; rfl)
  have HH := Lib.hid h
  clear h hd hd1 hd2 hq hz hsep hl2 hp2 hm1
  go_enter Tryd.func77, Tryd.ntmps77
  go_wp2_with fail
  refine (T1.out _ HH.out).mono ?_
  rintro e w1 ⟨rfl, h1, m1⟩
  have H1 := Lib.hid h1
  have M1 := Lib.hid m1
  clear h1 m1
  go_wp2_with fail
  refine (T2.out _ H1.out).mono ?_
  rintro e w2 ⟨rfl, h2, m2⟩
  have H2 := Lib.hid h2
  have M2 := Lib.hid (M1.out.trans m2 (fun _ _ h => h))
  clear h2 m2
  go_wp2_with fail
  refine (T3.out _ H2.out).mono ?_
  rintro e w3 ⟨rfl, h3, m3⟩
  have H3 := Lib.hid h3
  have M3 := Lib.hid (M2.out.trans m3 (fun _ _ h => h))
  clear h3 m3
  go_wp2_with fail
  go_ret2
  exact ⟨rfl, H3.out, M3.out⟩
end Go.Proofs.YtohbljgagbnjoaaDoor
