/- The reader reads every term's text: part. part reads every term's text. part reads the text of every term that may be. -/
import Derived.Test.YtohbljgagbnjoaaDoorRdMark
set_option linter.unusedVariables false
namespace Go.Proofs.YtohbljgagbnjoaaDoor
open Go.RowKit
open Go.Lib (decDigits itoa)

theorem empty_text {s : ByteArray} (h : s.toList.isEmpty = true) : s = ⟨#[]⟩ := by
  rw [Go.Lib.toList_data] at h
  apply ByteArray.ext
  apply Array.toList_inj.1
  exact List.isEmpty_iff.1 h
theorem no_parts {l : List Tm} (h : ((l.length : Int) == 0) = true) : l = [] := by
  rw [beq_iff_eq] at h
  exact List.eq_nil_of_length_eq_zero (by omega)

theorem leaf_at (P : Nat → Prop) (w : World) {k n : Int} {s t : ByteArray} (hk : -128 ≤ k ∧ k ≤ 127) (hn : -9223372036854775808 ≤ n ∧ n ≤ 9223372036854775807) (hs : s.size ≤ maxLen) (ht : t.size ≤ maxLen) :
    TmAt P w (.mk k n s t []) (.agg #[.int .i8 k, .int .i64 n, .string s, .string t, .slice none 0 0]) := TmAt.of_row (l := []) (TRow.nil P w none 0) hk hn hs ht

/-- Every cons that may be is heads rolled onto a tail that is none. -/
theorem cons_rolled (N : Nat) : ∀ x : Tm, x.nodes ≤ N → Valid x → x.k = 7 → ∃ hs z, hs ≠ [] ∧ x = rollT hs z ∧ z.k ≠ 7 ∧ Valid z ∧ (∀ y ∈ hs, Valid y ∧ y.nodes < x.nodes) ∧ z.nodes < x.nodes ∧ (Tm.pres hs).length + z.nodes + hs.length = x.nodes ∧ Chain x hs z := by
  induction N with
  | zero => intro x hx; have := Tm.pre_ne x; unfold Tm.nodes at hx; omega
  | succ N ih =>
    intro x hx hV hk
    obtain ⟨k, n, s, t, l⟩ := x
    have hk : k = 7 := hk
    subst hk
    obtain ⟨a, b, rfl⟩ := cons_two hV.own
    have hok := (show ok_cons n s t 2 = true from hV.own)
    simp [ok_cons] at hok
    obtain ⟨⟨hn, hs⟩, ht⟩ := hok
    have hs := empty_text (by simpa using hs)
    have ht := empty_text (by simpa using ht)
    subst hn hs ht
    have ha := hV.part (y := a) (by simp)
    have hb := hV.part (y := b) (by simp)
    have hna := nodes_part (k := 7) (n := 0) (s := ⟨#[]⟩) (t := ⟨#[]⟩) (l := [a, b]) (y := a) (by simp)
    have hnb := nodes_part (k := 7) (n := 0) (s := ⟨#[]⟩) (t := ⟨#[]⟩) (l := [a, b]) (y := b) (by simp)
    have hsum : (Tm.mk 7 0 ⟨#[]⟩ ⟨#[]⟩ [a, b]).nodes = 1 + a.nodes + b.nodes := by
      unfold Tm.nodes; simp [Tm.pre, Tm.pres]; omega
    by_cases hb7 : b.k = 7
    · obtain ⟨hs, z, h1, h2, h3, h4, h5, h6, h7, h8⟩ := ih b (by omega) hb hb7
      refine ⟨a :: hs, z, by simp, by rw [rollT, ← h2], h3, h4, fun y hy => ?_, by omega, ?_, ?_⟩
      · rcases List.mem_cons.1 hy with rfl | hy
        · exact ⟨ha, hna⟩
        · exact ⟨(h5 y hy).1, by have := (h5 y hy).2; omega⟩
      · rw [hsum, Tm.pres, List.length_append, List.length_cons]; unfold Tm.nodes at h7 ⊢; omega
      · have : ∀ {u : Tm} {hs : List Tm} {z : Tm}, Chain b hs z → Chain (.mk 7 0 ⟨#[]⟩ ⟨#[]⟩ [a, b]) (a :: hs) z := by
          intro u hs z hc
          induction hc with
          | nil => exact Chain.snoc (hs := []) (Chain.nil)
          | snoc _ ih2 => exact Chain.snoc ih2
        exact this (u := b) h8
    · refine ⟨[a], b, by simp, rfl, hb7, hb, fun y hy => ?_, hnb, ?_, Chain.snoc (hs := []) Chain.nil⟩
      · rw [List.mem_singleton] at hy; subst hy; exact ⟨ha, hna⟩
      · rw [hsum, Tm.pres, List.length_append]; unfold Tm.nodes; simp [Tm.pres]; omega
theorem nil_shape {z : Tm} (hV : Valid z) (hk : z.k = 6) : z = nilT := by
  obtain ⟨k, n, s, t, l⟩ := z
  have hk : k = 6 := hk
  subst hk
  have hok := (show ok_empty n s t l.length = true from hV.own)
  unfold ok_empty at hok
  simp only [Bool.and_eq_true, beq_iff_eq] at hok
  obtain ⟨⟨⟨hn, hs⟩, ht⟩, hl⟩ := hok
  rw [hn, empty_text hs, empty_text ht, no_parts (l := l) (by rw [beq_iff_eq]; exact hl)]
  rfl
end Go.Proofs.YtohbljgagbnjoaaDoor
set_option linter.unusedVariables false
namespace Go.Proofs.YtohbljgagbnjoaaDoor
open Go.RowKit
open Go.Lib (decDigits itoa)

theorem pres_node {l : List Tm} {y : Tm} (hy : y ∈ l) : y.nodes ≤ (Tm.pres l).length := by
  have := nodes_part (k := 5) (n := 0) (s := ⟨#[]⟩) (t := ⟨#[]⟩) hy
  unfold Tm.nodes at this ⊢
  rw [Tm.pre, List.length_cons] at this
  omega
theorem len_pres (l : List Tm) : l.length ≤ (Tm.pres l).length := by
  induction l with
  | nil => simp
  | cons a l ih => rw [Tm.pres, List.length_append, List.length_cons]; have := Tm.pre_ne a; omega

theorem RS.at {w0 W : World} {rb p q bg : Nat} {s : ByteArray} (h : RS w0 rb s p bg W) (e : p = q) : RS w0 rb s q bg W := by subst e; exact h

theorem read_int {w0 : World} {s : ByteArray} (hS : Spans w0) (hp : PowTab w0) (hsz : s.size ≤ 1099511627776) (n : Int) (hn : mayB n = true) : ReadOf w0 s (.mk 0 n ⟨#[]⟩ ⟨#[]⟩ []) := by
  intro rb pos bg W r h hd hr hb
  have hbd := may_bd hn
  have hnod := Tm.pre_ne (.mk 0 n ⟨#[]⟩ ⟨#[]⟩ [])
  unfold Tm.nodes at hb ⊢
  have hleaf : ∀ P w, TmAt P w (.mk 0 n ⟨#[]⟩ ⟨#[]⟩ []) (.agg #[.int .i8 0, .int .i64 n, .string ⟨#[]⟩, .string ⟨#[]⟩, .slice none 0 0]) := fun P w => leaf_at P w (by omega) (by omega) (by show 0 ≤ maxLen; omega) (by show 0 ≤ maxLen; omega)
  have ht : txt (.mk 0 n ⟨#[]⟩ ⟨#[]⟩ []) = itoa n := rfl
  rw [ht] at hd ⊢
  by_cases h0 : n < 0
  · have hi : itoa n = 45 :: decDigits n.natAbs := by unfold itoa; rw [if_pos h0]
    rw [hi] at hd ⊢
    have hd' : s.data.toList.drop pos = 45 :: (decDigits n.natAbs ++ r) := hd
    refine part_minus (x := .mk 0 n ⟨#[]⟩ ⟨#[]⟩ []) h hS hsz (by omega) hd' (by decide) rfl (fun V hV => ?_)
    by_cases hm : n = -576460752303423488
    · subst hm
      have e : (-576460752303423488 : Int).natAbs = 576460752303423488 := rfl
      refine (int_min hV hp hsz _ e hr.1 hd').mono ?_
      rintro e W' ⟨rfl, h1, h2⟩
      exact ⟨_, _, rfl, hleaf _ _, h1.at (by rw [List.length_cons]; omega), by omega, h2⟩
    · refine (int_neg hV hsz n.natAbs (by omega) (by omega) hr.1 hd').mono ?_
      rintro e W' ⟨rfl, h1, h2⟩
      have en : -(n.natAbs : Int) = n := by omega
      rw [en]
      exact ⟨_, _, rfl, hleaf _ _, h1.at (by rw [List.length_cons]; omega), by omega, h2⟩
  · have hi : itoa n = decDigits n.toNat := by unfold itoa; rw [if_neg h0]
    rw [hi] at hd ⊢
    obtain ⟨c, t, ec, hc⟩ := dec_first n.toNat
    have hcd := hc
    unfold isDig at hcd
    rw [decide_eq_true_eq] at hcd
    have hd' : s.data.toList.drop pos = c :: (t ++ r) := by rw [hd, ec]; rfl
    refine part_digit (x := .mk 0 n ⟨#[]⟩ ⟨#[]⟩ []) h hS hsz (by omega) hd' (firstB_kind (dig_kind hc)) (by omega) (fun V hV => ?_)
    refine (int_nat hV hsz n.toNat (by omega) hr.1 hd).mono ?_
    rintro e W' ⟨rfl, h1, h2⟩
    have en : (n.toNat : Int) = n := by omega
    rw [en]
    exact ⟨_, _, rfl, hleaf _ _, h1, by omega, h2⟩

theorem read_atom {w0 : World} {s : ByteArray} (hS : Spans w0) (hsz : s.size ≤ 1099511627776) (nm : ByteArray) (hn : nameB nm 2 = true) : ReadOf w0 s (.mk 1 0 nm ⟨#[]⟩ []) := by
  intro rb pos bg W r h hd hr hb
  have hnod := Tm.pre_ne (.mk 1 0 nm ⟨#[]⟩ [])
  unfold Tm.nodes at hb ⊢
  have hnl := name_len hn
  have hleaf : ∀ P w, TmAt P w (.mk 1 0 nm ⟨#[]⟩ []) (.agg #[.int .i8 1, .int .i64 0, .string nm, .string ⟨#[]⟩, .slice none 0 0]) := fun P w => leaf_at P w (by omega) (by omega) (by unfold maxLen; omega) (by show 0 ≤ maxLen; omega)
  have ht : txt (.mk 1 0 nm ⟨#[]⟩ []) = nm.data.toList := rfl
  rw [ht] at hd ⊢
  have hl : nm.data.toList.length = nm.size := Array.length_toList
  cases e : nm.data.toList with
  | nil => rw [e] at hl; simp at hl; omega
  | cons c t =>
    have hk := name_all hn c (by rw [e]; simp)
    have hk2 : kindN (c.toNat : Int) = 2 := by
      have h0 := (of_decide_eq_true hn).2.2.1
      unfold kd at h0
      simpa [e] using h0
    have hc : 97 ≤ c.toNat ∧ c.toNat ≤ 122 := by
      unfold kindN at hk2
      split at hk2
      · omega
      · split at hk2
        · cases hk2
        · split at hk2
          · cases hk2
          · split at hk2 <;> cases hk2
    have hd' : s.data.toList.drop pos = c :: (t ++ r) := by rw [hd, e]; rfl
    rw [← e]
    refine part_name (x := .mk 1 0 nm ⟨#[]⟩ []) h hS hsz (by omega) hd' (firstB_kind hk) (by omega) (fun V hV => ?_)
    refine (name_atom hV hS hsz nm hn hr.1 hr.2 hd).mono ?_
    rintro e W' ⟨rfl, h1, h2⟩
    exact ⟨_, _, rfl, hleaf _ _, h1.at (by rw [hl]), by omega, h2⟩

theorem itoa_nat {n : Int} (h : 0 ≤ n) : itoa n = decDigits n.toNat := by unfold itoa; rw [if_neg (by omega)]

theorem read_pid {w0 : World} {s : ByteArray} (hS : Spans w0) (hsz : s.size ≤ 1099511627776) (n : Int) (hn : pidB n = true) : ReadOf w0 s (.mk 4 n ⟨#[]⟩ ⟨#[]⟩ []) := by
  intro rb pos bg W r h hd hr hb
  have hnod := Tm.pre_ne (.mk 4 n ⟨#[]⟩ ⟨#[]⟩ [])
  unfold Tm.nodes at hb ⊢
  have hbd := of_decide_eq_true hn
  have ht : txt (.mk 4 n ⟨#[]⟩ ⟨#[]⟩ []) = [60] ++ itoa n ++ [62] := rfl
  rw [ht, itoa_nat hbd.1] at hd ⊢
  refine (part_pid h hS hsz (by omega) n.toNat (by omega) (r := r) (by rw [hd]; simp)).mono ?_
  rintro e W' ⟨bg', rfl, h1, h2, h3⟩
  have en : (n.toNat : Int) = n := by omega
  rw [en]
  exact ⟨_, bg', rfl, leaf_at _ _ (by omega) (by omega) (by show 0 ≤ maxLen; omega) (by show 0 ≤ maxLen; omega), h1.at (by simp; omega), by omega, h3⟩

theorem read_ref {w0 : World} {s : ByteArray} (hS : Spans w0) (hsz : s.size ≤ 1099511627776) (n : Int) (hn : pidB n = true) : ReadOf w0 s (.mk 2 n ⟨#[]⟩ ⟨#[]⟩ []) := by
  intro rb pos bg W r h hd hr hb
  have hnod := Tm.pre_ne (.mk 2 n ⟨#[]⟩ ⟨#[]⟩ [])
  unfold Tm.nodes at hb ⊢
  have hbd := of_decide_eq_true hn
  have ht : txt (.mk 2 n ⟨#[]⟩ ⟨#[]⟩ []) = [35, 82, 101, 102, 60] ++ itoa n ++ [62] := rfl
  rw [ht, itoa_nat hbd.1] at hd ⊢
  refine (part_ref h hS hsz (by omega) n.toNat (by omega) (r := r) (by rw [hd]; simp)).mono ?_
  rintro e W' ⟨bg', rfl, h1, h2, h3⟩
  have en : (n.toNat : Int) = n := by omega
  rw [en]
  exact ⟨_, bg', rfl, leaf_at _ _ (by omega) (by omega) (by show 0 ≤ maxLen; omega) (by show 0 ≤ maxLen; omega), h1.at (by simp; omega), by omega, h3⟩

theorem read_fun {w0 : World} {s : ByteArray} (hS : Spans w0) (hsz : s.size ≤ 1099511627776) (n : Int) (a b : ByteArray) (ha : nameB a 2 = true) (hb' : nameB b 2 = true) (hn : arB n = true) : ReadOf w0 s (.mk 3 n a b []) := by
  intro rb pos bg W r h hd hr hb
  have hnod := Tm.pre_ne (.mk 3 n a b [])
  unfold Tm.nodes at hb ⊢
  have hbd := of_decide_eq_true hn
  have h1 := name_len ha
  have h2 := name_len hb'
  have hla : a.data.toList.length = a.size := Array.length_toList
  have hlb : b.data.toList.length = b.size := Array.length_toList
  have ht : txt (.mk 3 n a b []) = [102, 117, 110, 32] ++ a.data.toList ++ [58] ++ b.data.toList ++ [47] ++ itoa n := rfl
  rw [ht, itoa_nat hbd.1] at hd ⊢
  have hd' : s.data.toList.drop pos = funW.data.toList ++ 32 :: (a.data.toList ++ 58 :: (b.data.toList ++ 47 :: (decDigits n.toNat ++ r))) := by rw [hd]; simp [funW]
  have hd2 : s.data.toList.drop pos = 102 :: _ := hd'
  refine part_name (x := .mk 3 n a b []) h hS hsz (by omega) hd2 (by decide) (by decide) (fun V hV => ?_)
  refine (name_fun hV hS hsz a b n.toNat ha hb' (by omega) hr.1 hd').mono ?_
  rintro e W' ⟨rfl, h1, h2⟩
  have en : (n.toNat : Int) = n := by omega
  rw [en]
  exact ⟨_, _, rfl, leaf_at _ _ (by omega) (by omega) (by unfold maxLen; omega) (by unfold maxLen; omega), h1.at (by simp; omega), by omega, h2⟩
end Go.Proofs.YtohbljgagbnjoaaDoor
set_option linter.unusedVariables false
namespace Go.Proofs.YtohbljgagbnjoaaDoor
open Go.RowKit
open Go.Lib (decDigits itoa)

theorem read_tuple {w0 : World} {s : ByteArray} (hS : Spans w0) (hsz : s.size ≤ 1099511627776) (l : List Tm) (hV : ∀ y ∈ l, Valid y) (hO : ∀ y ∈ l, ReadOf w0 s y) : ReadOf w0 s (.mk 5 0 ⟨#[]⟩ ⟨#[]⟩ l) := by
  intro rb pos bg W r h hd hr hb
  have hnod : (Tm.mk 5 0 ⟨#[]⟩ ⟨#[]⟩ l).nodes = (Tm.pres l).length + 1 := by unfold Tm.nodes; rw [Tm.pre, List.length_cons]
  rw [hnod] at hb ⊢
  have hll := len_pres l
  rw [txt_tuple] at hd ⊢
  have hd' : s.data.toList.drop pos = 123 :: (joinC (l.map txt) ++ 125 :: r) := by rw [hd]; simp
  refine part_tuple (x := .mk 5 0 ⟨#[]⟩ ⟨#[]⟩ l) h hS hsz (by omega) hd' (by decide) rfl (fun V hV' => ?_)
  by_cases hne : l = []
  · subst hne
    refine (tuple_nil hV' hsz (r := r) hd').mono ?_
    rintro e W' ⟨rfl, h1, h2⟩
    exact ⟨_, _, rfl, leaf_at _ _ (by omega) (by omega) (by show 0 ≤ maxLen; omega) (by show 0 ≤ maxLen; omega), h1.at (by simp [joinC]), by omega, h2⟩
  · refine (tuple_is l hne hV hO hV' hsz (r := r) hd' (by omega) (by omega)).mono ?_
    rintro e W' ⟨A, cap, bg', rfl, hT, h1, h2, h3⟩
    exact ⟨_, bg', rfl, TmAt.of_row hT (by omega) (by omega) (by show 0 ≤ maxLen; omega) (by show 0 ≤ maxLen; omega), h1.at (by simp; omega), by omega, h3⟩

theorem read_nil {w0 : World} {s : ByteArray} (hS : Spans w0) (hsz : s.size ≤ 1099511627776) : ReadOf w0 s nilT := by
  intro rb pos bg W r h hd hr hb
  have hnod : nilT.nodes = 1 := rfl
  rw [hnod] at hb ⊢
  have hd' : s.data.toList.drop pos = 91 :: 93 :: r := hd
  refine part_list (x := nilT) h hS hsz (by omega) hd' (by decide) rfl (fun V hV' => ?_)
  refine (list_nil hV' hsz hd').mono ?_
  rintro e W' ⟨rfl, h1, h2⟩
  exact ⟨_, _, rfl, nilT_at _ _, h1.at rfl, by omega, h2⟩

theorem read_cons {w0 : World} {s : ByteArray} (hS : Spans w0) (hsz : s.size ≤ 1099511627776) (x : Tm) (hk : x.k = 7) (hs : List Tm) (z : Tm) (hne : hs ≠ []) (hx : x = rollT hs z) (hz7 : z.k ≠ 7) (hVz : Valid z) (hVs : ∀ y ∈ hs, Valid y) (hO : ∀ y ∈ hs, ReadOf w0 s y) (hOz : ReadOf w0 s z) (hn : (Tm.pres hs).length + z.nodes + hs.length = x.nodes) (ht : txt x = [91] ++ joinC (hs.map txt) ++ tailT z ++ [93]) : ReadOf w0 s x := by
  intro rb pos bg W r h hd hr hb
  rw [ht] at hd ⊢
  have hlp : 1 ≤ hs.length := List.length_pos_iff.2 hne
  by_cases h6 : z.k = 6
  · have hzn := nil_shape hVz h6
    subst hzn
    have hd' : s.data.toList.drop pos = 91 :: (joinC (hs.map txt) ++ 93 :: r) := by rw [hd]; simp [tailT, h6]
    refine part_list (x := x) h hS hsz (by omega) hd' (by decide) rfl (fun V hV' => ?_)
    rw [hx] at hn hb ⊢
    refine (list_end hs hne hVs hO hV' hsz hd' (by omega) (by omega)).mono ?_
    rintro e W' ⟨tv, bg', rfl, hT, h1, h2, h3⟩
    exact ⟨tv, bg', rfl, hT, h1.at (by simp [tailT, h6]; omega), by omega, h3⟩
  · have htt : tailT z = 124 :: txt z := by unfold tailT; rw [if_neg h6]
    have hd' : s.data.toList.drop pos = 91 :: (joinC (hs.map txt) ++ 124 :: (txt z ++ 93 :: r)) := by rw [hd, htt]; simp
    refine part_list (x := x) h hS hsz (by omega) hd' (by decide) rfl (fun V hV' => ?_)
    rw [hx] at hn hb ⊢
    refine (list_tail hs hne hVs hO z hOz ⟨h6, hz7⟩ hV' hsz hd' (by omega) (by omega)).mono ?_
    rintro e W' ⟨tv, bg', rfl, hT, h1, h2, h3⟩
    exact ⟨tv, bg', rfl, hT, h1.at (by rw [htt]; simp; omega), by omega, h3⟩

/-- part reads the text of every term that may be. -/
theorem read_of {w0 : World} {s : ByteArray} (hS : Spans w0) (hp : PowTab w0) (hsz : s.size ≤ 1099511627776) (N : Nat) : ∀ x : Tm, x.nodes ≤ N → Valid x → ReadOf w0 s x := by
  induction N with
  | zero => intro x hx; have := Tm.pre_ne x; unfold Tm.nodes at hx; omega
  | succ N ih =>
    intro x hx hV
    obtain ⟨k, n, st, t, l⟩ := x
    have hok := hV.own
    have hmem : ∀ y ∈ l, ReadOf w0 s y := fun y hy => ih y (by have := nodes_part (k := k) (n := n) (s := st) (t := t) hy; omega) (hV.part hy)
    by_cases h : k < 0 ∨ 7 < k
    · rw [show okB (.mk k n st t l) = okN k n st t l.length from rfl, okN_no h] at hok
      cases hok
    · have h8 : k = 0 ∨ k = 1 ∨ k = 2 ∨ k = 3 ∨ k = 4 ∨ k = 5 ∨ k = 6 ∨ k = 7 := by omega
      rcases h8 with rfl | rfl | rfl | rfl | rfl | rfl | rfl | rfl
      · have h := (show ok_integer n st t l.length = true from hok)
        unfold ok_integer at h
        simp only [Bool.and_eq_true] at h
        rw [empty_text h.1.1.2, empty_text h.1.2, no_parts h.2]
        exact read_int hS hp hsz n h.1.1.1
      · have h := (show ok_atom n st t l.length = true from hok)
        unfold ok_atom at h
        simp only [Bool.and_eq_true] at h
        rw [empty_text h.1.2, no_parts h.2, beq_iff_eq.1 h.1.1.2]
        exact read_atom hS hsz st h.1.1.1
      · have h := (show ok_ref n st t l.length = true from hok)
        unfold ok_ref at h
        simp only [Bool.and_eq_true] at h
        rw [empty_text h.1.1.2, empty_text h.1.2, no_parts h.2]
        exact read_ref hS hsz n h.1.1.1
      · have h := (show ok_fun n st t l.length = true from hok)
        unfold ok_fun at h
        simp only [Bool.and_eq_true] at h
        rw [no_parts h.2]
        exact read_fun hS hsz n st t h.1.1.1 h.1.1.2 h.1.2
      · have h := (show ok_pid n st t l.length = true from hok)
        unfold ok_pid at h
        simp only [Bool.and_eq_true] at h
        rw [empty_text h.1.1.2, empty_text h.1.2, no_parts h.2]
        exact read_pid hS hsz n h.1.1.1
      · have h := (show ok_tuple n st t l.length = true from hok)
        unfold ok_tuple at h
        simp only [Bool.and_eq_true] at h
        rw [empty_text h.1.2, empty_text h.2, beq_iff_eq.1 h.1.1]
        exact read_tuple hS hsz l (fun y hy => hV.part hy) hmem
      · rw [nil_shape hV rfl]
        exact read_nil hS hsz
      · obtain ⟨hs, z, h1, h2, h3, h4, h5, h6, h7, h8⟩ := cons_rolled _ _ (Nat.le_refl _) hV rfl
        obtain ⟨a, b, rfl⟩ := cons_two hok
        exact read_cons hS hsz _ rfl hs z h1 h2 h3 h4 (fun y hy => (h5 y hy).1) (fun y hy => ih y (by have := (h5 y hy).2; omega) (h5 y hy).1) (ih z (by omega) h4) h7 (chain_text h8 h3)
end Go.Proofs.YtohbljgagbnjoaaDoor
