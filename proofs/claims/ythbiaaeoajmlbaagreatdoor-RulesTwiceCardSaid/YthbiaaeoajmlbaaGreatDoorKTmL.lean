/- Rows of terms, in a later world. -/
import Derived.Test.YthbiaaeoajmlbaaGreatDoorKFOnce9
import Derived.Test.YthbiaaeoajmlbaaGreatDoorKBuilt9
import Derived.Test.YthbiaaeoajmlbaaGreatDoorKIs9
import Derived.Test.YthbiaaeoajmlbaaGreatDoorKCla9
import Derived.Test.YthbiaaeoajmlbaaGreatDoorKTm
import Derived.LoopTactic
import Derived.LoopNIn
section
set_option linter.unusedVariables false
set_option linter.unusedSimpArgs false
namespace Go.Proofs.YthbiaaeoajmlbaaGreatDoor
open Go.RowKit

set_option maxRecDepth 100000 in
theorem there_any (CB LB lc fm : Nat) (fv : Value) (x : Tm) (fl : List (Int × Nat)) (V : World) (m s : ByteArray) (n : Int) (h : Chk CB LB lc fm fv x fl V) (hf : FnOk (m, s, n)) :
    Calls Tryz.prog 233 #[.pointer (some ⟨CB, 0, none⟩), .string m, .string s, .int .i64 n] V fun e V' => e = .returned (.int .i64 (if (m, s, n) ∈ fnsW x.l then 0 else 92)) ∧ Below V.heap.size V V' := by
  obtain ⟨es, c, h1, h2⟩ := h.fns
  have ql := h2.look V fm c h1 hf
  have hv : fnV (m, s, n) = .agg #[.string m, .string s, .int .i64 n, .int .i64 0, .int .i64 0] := rfl
  rw [hv] at ql
  have c1 := cell_of_row (i := 1) h.box rfl
  clear h1 h2 hv h hf
  cases hd : decide ((m, s, n) ∈ fnsW x.l)
  · rw [hd] at ql
    have HD := Lib.hid (of_decide_eq_false hd)
    clear hd
    rw [if_neg HD.out]
    clear HD
    go_enter Tryz.func233, Tryz.ntmps233
    go_wp2_with fail
    go_ret
    exact ⟨rfl, (Below.refl _ _).alloc (Nat.le_refl _) _⟩
  · rw [hd] at ql
    have HD := Lib.hid (of_decide_eq_true hd)
    clear hd
    rw [if_pos HD.out]
    clear HD
    go_enter Tryz.func233, Tryz.ntmps233
    go_wp2_with fail
    go_ret
    exact ⟨rfl, (Below.refl _ _).alloc (Nat.le_refl _) _⟩
set_option maxRecDepth 100000 in
theorem modulesOnce_any (CB LB lc fm : Nat) (fv : Value) (x : Tm) (fl : List (Int × Nat)) (V : World) (h : Chk CB LB lc fm fv x fl V) (hok : ∀ z ∈ x.l, TmOk z) :
    Calls Tryz.prog 182 #[.pointer (some ⟨CB, 0, none⟩)] V (RuleTo ((onceW [] 1 x.l).map fun q => (91, q)) V) := by
  have HC := Lib.hid (once_any CB LB lc fm fv x fl V 0 x h ⟨[], by simp⟩ hok)
  clear h hok
  go_enter Tryz.func182, Tryz.ntmps182
  go_wp2_with fail
  refine HC.out.mono ?_
  rintro e w2 ⟨v, rfl, h1, h2⟩
  have H1 := Lib.hid h1
  have H2 := Lib.hid h2
  clear h1 h2
  go_wp2_with fail
  go_ret
  exact ⟨_, rfl, H1.out, H2.out⟩
theorem mk_k (k n : Int) (s t : ByteArray) (l : List Tm) : (Tm.mk k n s t l).k = k := rfl
theorem mk_n (k n : Int) (s t : ByteArray) (l : List Tm) : (Tm.mk k n s t l).n = n := rfl
theorem mk_s (k n : Int) (s t : ByteArray) (l : List Tm) : (Tm.mk k n s t l).s = s := rfl
theorem mk_t (k n : Int) (s t : ByteArray) (l : List Tm) : (Tm.mk k n s t l).t = t := rfl
theorem mk_l (k n : Int) (s t : ByteArray) (l : List Tm) : (Tm.mk k n s t l).l = l := rfl
theorem thereW_drop {F : List Fn9} {m : ByteArray} {P : List Tm} {i : Nat} {z : Tm} (hz : P[i]? = some z) :
    thereW F m i (P.drop i) = if thereE F (if z.k = 1 then z.s else m) z = 0 then thereW F (if z.k = 1 then z.s else m) (i + 1) (P.drop (i + 1)) else some (thereE F (if z.k = 1 then z.s else m) z, i) := by
  obtain ⟨hi, e⟩ := List.getElem?_eq_some_iff.1 hz
  rw [List.drop_eq_getElem_cons hi, e, thereW]

set_option maxHeartbeats 16000000 in
set_option maxRecDepth 100000 in
theorem functionsThere_any (CB LB lc fm : Nat) (fv : Value) (x : Tm) (fl : List (Int × Nat)) (V : World) (h : Chk CB LB lc fm fv x fl V) (hok : ∀ z ∈ x.pre, TmOk z ∧ z.l.length ≤ 100000) :
    Calls Tryz.prog 185 #[.pointer (some ⟨CB, 0, none⟩)] V (RuleTo (thereW (fnsW x.l) ⟨#[]⟩ 0 x.pre) V) := by
  have c0 := cell_of_row (i := 0) h.box rfl
  have hlen := h.lay.len
  have H := Lib.hid h
  have HOK := Lib.hid hok
  have hl4 : (x.pre.length : Int) ≤ 4096 := by omega
  clear h hok hlen
  go_enter Tryz.func185, Tryz.ntmps185
  go_wp2_with fail
  clear c0
  go_loopw [3, 12] (fun mv iv wr => ∃ (i : Nat) (m : ByteArray), i ≤ x.pre.length ∧ mv = .string m ∧ iv = .int .i64 (i : Int) ∧ thereW (fnsW x.l) ⟨#[]⟩ 0 x.pre = thereW (fnsW x.l) m i (x.pre.drop i) ∧ m.size ≤ maxLen ∧ Below V.heap.size V wr) (fun _ iv _ => x.pre.length - (intOf iv).toNat)
  case atStart => exact ⟨0, ⟨#[]⟩, Nat.zero_le _, rfl, rfl, by rw [List.drop_zero], Nat.zero_le _, Below.refl _ _⟩
  case round =>
    obtain ⟨i, m, hi, rfl, rfl, hw, hms, hb⟩ := hrel
    have HW := Lib.hid hw
    have HMS := Lib.hid hms
    have HB := Lib.hid hb
    clear hw hms hb
    by_cases hlt : i < x.pre.length
    · obtain ⟨z, hz⟩ : ∃ z, x.pre[i]? = some z := ⟨x.pre[i], List.getElem?_eq_getElem hlt⟩
      have hch := H.out.under HB.out
      obtain ⟨A4, cap4, s0, s1, s2, s3, s4, s5⟩ := hch.lay.spot hz
      obtain ⟨b5, hb5⟩ : ∃ b5 : Nat, b5 = i + z.nodes := ⟨_, rfl⟩
      rw [← hb5] at s5
      obtain ⟨hzo, hzl⟩ := HOK.out z (List.mem_of_getElem? hz)
      obtain ⟨k, n, s, t, l⟩ := z
      simp only [mk_k, mk_n, mk_s, mk_t, mk_l] at s0 s1 s2 s3 s4 hzl
      have HDR := Lib.hid (thereW_drop (F := fnsW x.l) (m := m) hz)
      have had := add6 LB i
      have hi1 : (i : Int) < (x.pre.length : Int) := by omega
      have hi0 : (0 : Int) ≤ (i : Int) := by omega
      have g6 := block_alloc wr (.cells #[.int .i8 k, .int .i64 n, .string s, .string t, .slice A4 l.length cap4, .int .i64 (b5 : Int)] 173)
      have b6 : Below wr.heap.size wr (wr.alloc (.cells #[.int .i8 k, .int .i64 n, .string s, .string t, .slice A4 l.length cap4, .int .i64 (b5 : Int)] 173)) := (Below.refl _ _).alloc (Nat.le_refl _) _
      have d0 := cell_of_row (i := 0) g6 rfl
      have d1 := cell_of_row (i := 1) g6 rfl
      have d2 := cell_of_row (i := 2) g6 rfl
      have d3 := cell_of_row (i := 3) g6 rfl
      have d4 := cell_of_row (i := 4) g6 rfl
      have HB6 := Lib.hid (HB.out.trans (b6.mono HB.out.size))
      have HZOK := Lib.hid hzo
      have HCH := Lib.hid (hch.under b6)
      have HG6 := Lib.hid g6
      have HLT := Lib.hid hlt
      have HB5 := Lib.hid hb5
      have hzl0 : (0 : Int) ≤ (l.length : Int) := by omega
      have HLN2 : Hid (-9223372036854775808 ≤ (l.length : Int) ∧ (l.length : Int) ≤ 9223372036854775807) := by show _ ∧ _; omega
      clear hch hzo g6 b6 hlt hz hb5
      by_cases h1 : k = 1
      · subst h1
        have HN : Hid (thereW (fnsW x.l) m i (x.pre.drop i) = thereW (fnsW x.l) s (i + 1) (x.pre.drop (i + 1))) := by show _ = _; rw [HDR.out]; simp [thereE, mk_k, mk_n, mk_s, mk_t, mk_l]
        go_wp2_with fail
        go_roundw
        case rel => exact ⟨i + 1, s, HLT.out, rfl, by go_num, by rw [HW.out, HN.out], HZOK.out.1, HB6.out⟩
        case measure => simp [intOf]; have := HLT.out; omega
      by_cases h2 : k = 2
      · subst h2
        go_wp2_with fail
        refine (built_any _ _ _).mono ?_
        rintro e w7 ⟨rfl, rfl⟩
        cases hb : builtB s n
        · have HBU := Lib.hid hb
          clear hb
          have HN : Hid (thereW (fnsW x.l) m i (x.pre.drop i) = thereW (fnsW x.l) m (i + 1) (x.pre.drop (i + 1))) := by show _ = _; rw [HDR.out]; simp [thereE, mk_k, mk_n, mk_s, mk_t, mk_l, HBU.out]
          go_wp2_with fail
          go_roundw
          case rel => exact ⟨i + 1, m, HLT.out, rfl, by go_num, by rw [HW.out, HN.out], HMS.out, HB6.out⟩
          case measure => simp [intOf]; have := HLT.out; omega
        · have HBU := Lib.hid hb
          clear hb
          generalize wr.alloc (.cells #[.int .i8 2, .int .i64 n, .string s, .string t, .slice A4 l.length cap4, .int .i64 (b5 : Int)] 173) = W6 at HB6 ⊢
          have HN : Hid (thereW (fnsW x.l) m i (x.pre.drop i) = some (91, i)) := by show _ = _; rw [HDR.out]; simp [thereE, mk_k, mk_n, mk_s, mk_t, mk_l, HBU.out]
          go_wp2_with fail
          refine (refused_any _ _ _).mono ?_
          rintro e w9 ⟨rfl, rfl⟩
          have g9 := Lib.hid (block_alloc W6 (.cells #[.int .i64 9, .int .i64 91, .int .i64 (i : Int)] 87))
          have b9 := Lib.hid ((HB6.out).alloc (by have := (HB6.out).size; omega) (.cells #[.int .i64 9, .int .i64 91, .int .i64 (i : Int)] 87))
          go_wp2_with fail
          go_ret
          exact ⟨_, rfl, by rw [HW.out, HN.out]; exact ⟨_, rfl, g9.out⟩, b9.out⟩
      by_cases h14 : k = 14
      · subst h14
        go_wp2_with fail
        refine (built_any _ _ _).mono ?_
        rintro e w7 ⟨rfl, rfl⟩
        cases hb : builtB s l.length
        · have HBU := Lib.hid hb
          clear hb
          go_wp2_with fail
          refine (there_any CB LB lc fm fv x fl _ m s (l.length : Int) HCH.out ⟨HMS.out, HZOK.out.1, HLN2.out⟩).mono ?_
          rintro e w8 ⟨rfl, hb8⟩
          have HB8 := Lib.hid ((HB6.out).trans (hb8.mono (HB6.out).size))
          clear hb8
          by_cases hF : (m, s, (l.length : Int)) ∈ fnsW x.l
          · rw [if_pos hF]
            have HF := Lib.hid hF
            clear hF
            have HN : Hid (thereW (fnsW x.l) m i (x.pre.drop i) = thereW (fnsW x.l) m (i + 1) (x.pre.drop (i + 1))) := by show _ = _; rw [HDR.out]; simp [thereE, mk_k, mk_n, mk_s, mk_t, mk_l, HBU.out, HF.out]
            go_wp2_with fail
            go_roundw
            case rel => exact ⟨i + 1, m, HLT.out, rfl, by go_num, by rw [HW.out, HN.out], HMS.out, HB8.out⟩
            case measure => simp [intOf]; have := HLT.out; omega
          · rw [if_neg hF]
            have HF := Lib.hid hF
            clear hF
            have HN : Hid (thereW (fnsW x.l) m i (x.pre.drop i) = some (92, i)) := by show _ = _; rw [HDR.out]; simp [thereE, mk_k, mk_n, mk_s, mk_t, mk_l, HBU.out, HF.out]
            go_wp2_with fail
            refine (refused_any _ _ _).mono ?_
            rintro e w9 ⟨rfl, rfl⟩
            have g9 := Lib.hid (block_alloc w8 (.cells #[.int .i64 9, .int .i64 92, .int .i64 (i : Int)] 87))
            have b9 := Lib.hid ((HB8.out).alloc (by have := (HB8.out).size; omega) (.cells #[.int .i64 9, .int .i64 92, .int .i64 (i : Int)] 87))
            go_wp2_with fail
            go_ret
            exact ⟨_, rfl, by rw [HW.out, HN.out]; exact ⟨_, rfl, g9.out⟩, b9.out⟩
        · have HBU := Lib.hid hb
          clear hb
          have HN : Hid (thereW (fnsW x.l) m i (x.pre.drop i) = thereW (fnsW x.l) m (i + 1) (x.pre.drop (i + 1))) := by show _ = _; rw [HDR.out]; simp [thereE, mk_k, mk_n, mk_s, mk_t, mk_l, HBU.out]
          go_wp2_with fail
          go_roundw
          case rel => exact ⟨i + 1, m, HLT.out, rfl, by go_num, by rw [HW.out, HN.out], HMS.out, HB6.out⟩
          case measure => simp [intOf]; have := HLT.out; omega
      by_cases h15 : k = 15
      · subst h15
        go_wp2_with fail
        refine (there_any CB LB lc fm fv x fl _ s t (l.length : Int) HCH.out ⟨HZOK.out.1, HZOK.out.2.1, HLN2.out⟩).mono ?_
        rintro e w8 ⟨rfl, hb8⟩
        have HB8 := Lib.hid ((HB6.out).trans (hb8.mono (HB6.out).size))
        clear hb8
        by_cases hF : (s, t, (l.length : Int)) ∈ fnsW x.l
        · rw [if_pos hF]
          have HF := Lib.hid hF
          clear hF
          have HN : Hid (thereW (fnsW x.l) m i (x.pre.drop i) = thereW (fnsW x.l) m (i + 1) (x.pre.drop (i + 1))) := by show _ = _; rw [HDR.out]; simp [thereE, mk_k, mk_n, mk_s, mk_t, mk_l, HF.out]
          go_wp2_with fail
          go_roundw
          case rel => exact ⟨i + 1, m, HLT.out, rfl, by go_num, by rw [HW.out, HN.out], HMS.out, HB8.out⟩
          case measure => simp [intOf]; have := HLT.out; omega
        · rw [if_neg hF]
          have HF := Lib.hid hF
          clear hF
          have HN : Hid (thereW (fnsW x.l) m i (x.pre.drop i) = some (92, i)) := by show _ = _; rw [HDR.out]; simp [thereE, mk_k, mk_n, mk_s, mk_t, mk_l, HF.out]
          go_wp2_with fail
          refine (refused_any _ _ _).mono ?_
          rintro e w9 ⟨rfl, rfl⟩
          have g9 := Lib.hid (block_alloc w8 (.cells #[.int .i64 9, .int .i64 92, .int .i64 (i : Int)] 87))
          have b9 := Lib.hid ((HB8.out).alloc (by have := (HB8.out).size; omega) (.cells #[.int .i64 9, .int .i64 92, .int .i64 (i : Int)] 87))
          go_wp2_with fail
          go_ret
          exact ⟨_, rfl, by rw [HW.out, HN.out]; exact ⟨_, rfl, g9.out⟩, b9.out⟩
      by_cases h17 : k = 17
      · subst h17
        go_wp2_with fail
        refine (there_any CB LB lc fm fv x fl _ s t n HCH.out ⟨HZOK.out.1, HZOK.out.2.1, HZOK.out.2.2⟩).mono ?_
        rintro e w8 ⟨rfl, hb8⟩
        have HB8 := Lib.hid ((HB6.out).trans (hb8.mono (HB6.out).size))
        clear hb8
        by_cases hF : (s, t, n) ∈ fnsW x.l
        · rw [if_pos hF]
          have HF := Lib.hid hF
          clear hF
          have HN : Hid (thereW (fnsW x.l) m i (x.pre.drop i) = thereW (fnsW x.l) m (i + 1) (x.pre.drop (i + 1))) := by show _ = _; rw [HDR.out]; simp [thereE, mk_k, mk_n, mk_s, mk_t, mk_l, HF.out]
          go_wp2_with fail
          go_roundw
          case rel => exact ⟨i + 1, m, HLT.out, rfl, by go_num, by rw [HW.out, HN.out], HMS.out, HB8.out⟩
          case measure => simp [intOf]; have := HLT.out; omega
        · rw [if_neg hF]
          have HF := Lib.hid hF
          clear hF
          have HN : Hid (thereW (fnsW x.l) m i (x.pre.drop i) = some (92, i)) := by show _ = _; rw [HDR.out]; simp [thereE, mk_k, mk_n, mk_s, mk_t, mk_l, HF.out]
          go_wp2_with fail
          refine (refused_any _ _ _).mono ?_
          rintro e w9 ⟨rfl, rfl⟩
          have g9 := Lib.hid (block_alloc w8 (.cells #[.int .i64 9, .int .i64 92, .int .i64 (i : Int)] 87))
          have b9 := Lib.hid ((HB8.out).alloc (by have := (HB8.out).size; omega) (.cells #[.int .i64 9, .int .i64 92, .int .i64 (i : Int)] 87))
          go_wp2_with fail
          go_ret
          exact ⟨_, rfl, by rw [HW.out, HN.out]; exact ⟨_, rfl, g9.out⟩, b9.out⟩
      have HN : Hid (thereW (fnsW x.l) m i (x.pre.drop i) = thereW (fnsW x.l) m (i + 1) (x.pre.drop (i + 1))) := by show _ = _; rw [HDR.out]; simp [thereE, mk_k, mk_n, mk_s, mk_t, mk_l, h1, h2, h14, h15, h17]
      go_wp2_with fail
      go_roundw
      case rel => exact ⟨i + 1, m, HLT.out, rfl, by go_num, by rw [HW.out, HN.out], HMS.out, HB6.out⟩
      case measure => simp [intOf]; have := HLT.out; omega
    · obtain rfl : i = x.pre.length := by omega
      go_wp2_with fail
      go_ret
      exact ⟨_, rfl, by rw [HW.out, List.drop_length]; rfl, HB.out⟩
end Go.Proofs.YthbiaaeoajmlbaaGreatDoor
end
section
set_option linter.unusedVariables false
set_option linter.unusedSimpArgs false
namespace Go.Proofs.YthbiaaeoajmlbaaGreatDoor
open Go.RowKit

theorem addo (g o i : Nat) : (⟨g, o, none⟩ : Addr).add i = ⟨g, o + i, none⟩ := by unfold Addr.add; split <;> simp_all
theorem findF_drop {e : Int} {fl : List (Int × Nat)} {i : Nat} {z : Int × Nat} (hz : fl[i]? = some z) : findF e (fl.drop i) = if z.1 = e then some z else findF e (fl.drop (i + 1)) := by
  obtain ⟨hi, e'⟩ := List.getElem?_eq_some_iff.1 hz
  rw [List.drop_eq_getElem_cons hi, e', findF]
set_option maxHeartbeats 8000000 in
set_option maxRecDepth 100000 in
theorem first_any (CB LB lc fm : Nat) (fv : Value) (x : Tm) (fl : List (Int × Nat)) (V : World) (e : Int) (h : Chk CB LB lc fm fv x fl V) (hlen : fl.length ≤ 2000000) :
    Calls Tryz.prog 232 #[.pointer (some ⟨CB, 0, none⟩), .int .i64 e] V (RuleTo (findF e fl) V) := by
  have c2 := cell_of_row (i := 2) h.box rfl
  obtain ⟨A, c, rfl, hc, hel⟩ := h.faults
  have HE := Lib.hid hel
  have HL := Lib.hid hlen
  have HH := Lib.hid h
  clear hel h hlen
  go_enter Tryz.func232, Tryz.ntmps232
  go_wp2_with fail
  clear c2
  go_loopw [12] (fun q w' => ∃ i : Nat, i ≤ fl.length ∧ q = .int .i64 (i : Int) ∧ findF e fl = findF e (fl.drop i) ∧ w' = V) (fun q _ => fl.length - (intOf q).toNat)
  case atStart => exact ⟨0, Nat.zero_le _, rfl, rfl, rfl⟩
  case round =>
    obtain ⟨i, hi, rfl, hW, rfl⟩ := hrel
    have HW := Lib.hid hW
    clear hW
    by_cases hlt : i < fl.length
    · obtain ⟨⟨e', p⟩, hz⟩ : ∃ z, fl[i]? = some z := ⟨fl[i], List.getElem?_eq_getElem hlt⟩
      obtain ⟨g, o, v, rfl, hg, hcell, r, rfl, hr⟩ := HE.out i e' p hz
      have HZ := Lib.hid (findF_drop (e := e) hz)
      have HLT := Lib.hid hlt
      have HR := Lib.hid hr
      have HIS := Lib.hid (is_any r e' e p wr hr)
      have had := addo g o i
      have hl9 := HL.out
      clear hz hr hi
      by_cases hee : e' = e
      · subst hee
        rw [beq_self_eq_true] at HIS
        have HN : Hid (findF e' fl = some (e', p)) := by show _ = _; rw [HW.out, HZ.out, if_pos rfl]
        go_wp2_with fail
        refine HIS.out.mono ?_
        rintro e9 w9 ⟨rfl, rfl⟩
        go_wp2_with fail
        go_ret
        exact ⟨_, rfl, by rw [HN.out]; exact ⟨r, rfl, HR.out⟩, Below.refl _ _⟩
      · rw [beq_eq_false_iff_ne.2 hee] at HIS
        have HN : Hid (findF e fl = findF e (fl.drop (i + 1))) := by show _ = _; rw [HW.out, HZ.out, if_neg hee]
        clear hee
        go_wp2_with fail
        refine HIS.out.mono ?_
        rintro e9 w9 ⟨rfl, rfl⟩
        go_wp2_with fail
        go_roundw
        case rel => exact ⟨i + 1, HLT.out, by go_num, HN.out, trivial⟩
        case measure => simp [intOf]; have := HLT.out; omega
    · obtain rfl : i = fl.length := by omega
      have HN : Hid (findF e fl = none) := by show _ = _; rw [HW.out, List.drop_length]; rfl
      go_wp2_with fail
      go_ret
      exact ⟨_, rfl, by rw [HN.out]; rfl, Below.refl _ _⟩
set_option maxRecDepth 100000 in
theorem namesBound_any (CB LB lc fm : Nat) (fv : Value) (x : Tm) (fl : List (Int × Nat)) (V : World) (h : Chk CB LB lc fm fv x fl V) (hlen : fl.length ≤ 2000000) :
    Calls Tryz.prog 184 #[.pointer (some ⟨CB, 0, none⟩)] V (RuleTo (findF 90 fl) V) := by
  have HC := Lib.hid (first_any CB LB lc fm fv x fl V 90 h hlen)
  clear h hlen
  go_enter Tryz.func184, Tryz.ntmps184
  go_wp2_with fail
  refine HC.out.mono ?_
  rintro e w2 ⟨v, rfl, h1, h2⟩
  have H1 := Lib.hid h1
  have H2 := Lib.hid h2
  clear h1 h2
  go_wp2_with fail
  go_ret
  exact ⟨_, rfl, H1.out, H2.out⟩
set_option maxRecDepth 100000 in
theorem slotsEnough_any (CB LB lc fm : Nat) (fv : Value) (x : Tm) (fl : List (Int × Nat)) (V : World) (h : Chk CB LB lc fm fv x fl V) (hlen : fl.length ≤ 2000000) :
    Calls Tryz.prog 186 #[.pointer (some ⟨CB, 0, none⟩)] V (RuleTo (findF 11 fl) V) := by
  have HC := Lib.hid (first_any CB LB lc fm fv x fl V 11 h hlen)
  clear h hlen
  go_enter Tryz.func186, Tryz.ntmps186
  go_wp2_with fail
  refine HC.out.mono ?_
  rintro e w2 ⟨v, rfl, h1, h2⟩
  have H1 := Lib.hid h1
  have H2 := Lib.hid h2
  clear h1 h2
  go_wp2_with fail
  go_ret
  exact ⟨_, rfl, H1.out, H2.out⟩
end Go.Proofs.YthbiaaeoajmlbaaGreatDoor
end
section
set_option linter.unusedVariables false
set_option linter.unusedSimpArgs false
namespace Go.Proofs.YthbiaaeoajmlbaaGreatDoor
open Go.RowKit

def anyB (y : Tm) : Prop := patB y = true ∨ guaB y = true ∨ testB y = true ∨ guardB y = true ∨ exprB y = true ∨ (∃ m, m ≤ 8 ∧ clB m y = true) ∨ afterB y = true
theorem patsB_mem : ∀ {l : List Tm} {y : Tm}, patsB l = true → y ∈ l → anyB y
  | x :: l, y, h, hy => by
    rw [patsB, Bool.and_eq_true] at h
    rcases List.mem_cons.1 hy with rfl | hy
    · exact .inl h.1
    · exact patsB_mem h.2 hy
theorem guasB_mem : ∀ {l : List Tm} {y : Tm}, guasB l = true → y ∈ l → anyB y
  | x :: l, y, h, hy => by
    rw [guasB, Bool.and_eq_true] at h
    rcases List.mem_cons.1 hy with rfl | hy
    · exact .inr (.inl h.1)
    · exact guasB_mem h.2 hy
theorem exprsB_mem : ∀ {l : List Tm} {y : Tm}, exprsB l = true → y ∈ l → anyB y
  | x :: l, y, h, hy => by
    rw [exprsB, Bool.and_eq_true] at h
    rcases List.mem_cons.1 hy with rfl | hy
    · exact .inr (.inr (.inr (.inr (.inl h.1))))
    · exact exprsB_mem h.2 hy
theorem patFirst_mem : ∀ {l : List Tm} {y : Tm}, patFirst l = true → y ∈ l → anyB y
  | x :: l, y, h, hy => by
    rw [patFirst, Bool.and_eq_true] at h
    rcases List.mem_cons.1 hy with rfl | hy
    · exact .inl h.1
    · exact exprsB_mem h.2 hy
theorem clsB_mem {m : Nat} (hm : m ≤ 8) : ∀ {l : List Tm} {y : Tm}, clsB m l = true → y ∈ l → clB m y = true
  | x :: l, y, h, hy => by
    rw [clsB, Bool.and_eq_true] at h
    rcases List.mem_cons.1 hy with rfl | hy
    · exact h.1
    · exact clsB_mem hm h.2 hy
theorem cl_any {m : Nat} (hm : m ≤ 8) {y : Tm} (h : clB m y = true) : anyB y := .inr (.inr (.inr (.inr (.inr (.inl ⟨m, hm, h⟩)))))
theorem caseB_mem {m : Nat} (hm : m ≤ 8) : ∀ {l : List Tm} {y : Tm}, caseB m l = true → y ∈ l → anyB y
  | x :: l, y, h, hy => by
    rw [caseB, Bool.and_eq_true] at h
    rcases List.mem_cons.1 hy with rfl | hy
    · exact .inr (.inr (.inr (.inr (.inl h.1))))
    · exact cl_any hm (clsB_mem hm h.2 hy)
theorem recvB_mem : ∀ {l : List Tm} {y : Tm}, recvB l = true → y ∈ l → anyB y
  | x :: l, y, h, hy => by
    rw [recvB] at h
    by_cases he : l.isEmpty = true
    · rw [if_pos he] at h
      rcases List.mem_cons.1 hy with rfl | hy
      · exact .inr (.inr (.inr (.inr (.inr (.inr h)))))
      · rw [List.isEmpty_iff.1 he] at hy; cases hy
    · rw [if_neg he, Bool.and_eq_true] at h
      rcases List.mem_cons.1 hy with rfl | hy
      · exact cl_any (by decide) h.1
      · exact recvB_mem h.2 hy
theorem partsB_mem : ∀ {m : Nat} {l : List Tm} {y : Tm}, partsB m l = true → y ∈ l → anyB y
  | 0, g :: l, y, h, hy => by
    rw [partsB, Bool.and_eq_true, Bool.and_eq_true] at h
    rcases List.mem_cons.1 hy with rfl | hy
    · exact .inr (.inr (.inr (.inl h.1.1)))
    · exact exprsB_mem h.2 hy
  | m + 1, p :: l, y, h, hy => by
    rw [partsB, Bool.and_eq_true] at h
    rcases List.mem_cons.1 hy with rfl | hy
    · exact .inl h.1
    · exact partsB_mem h.2 hy
theorem partsB_len : ∀ {m : Nat} {l : List Tm}, partsB m l = true → m ≤ l.length
  | 0, g :: l, h => Nat.zero_le _
  | 0, [], h => Nat.zero_le _
  | m + 1, p :: l, h => by
    rw [partsB, Bool.and_eq_true] at h
    have := partsB_len h.2
    rw [List.length_cons]; omega
theorem okN_of {k n : Int} {s t : ByteArray} {l : List Tm} (h1 : k ≠ 13) (h2 : k ≠ 3) (h3 : k ≠ 19) : okN (.mk k n s t l) := ⟨fun h => absurd h h1, fun h => absurd h h2, fun h => absurd h h3⟩
theorem leaf9 {k n : Int} {s t : ByteArray} {l : List Tm} (h : leafB k n s t l = true) : okN (.mk k n s t l) ∧ k ≠ 2 ∧ ∀ y ∈ l, anyB y := by
  unfold leafB at h
  simp only [Bool.and_eq_true, Bool.or_eq_true, beq_iff_eq] at h
  obtain ⟨⟨hl, -⟩, h⟩ := h
  rw [List.isEmpty_iff.1 hl]
  have hk : k = 5 ∨ k = 6 ∨ k = 7 ∨ k = 8 := by
    rcases h with ((h | h) | h) | h
    · exact .inl h.1.1
    · exact .inr (.inl h.1.1)
    · exact .inr (.inr (.inl h.1.1))
    · exact .inr (.inr (.inr h.1.1))
  exact ⟨okN_of (by omega) (by omega) (by omega), by omega, fun y hy => by cases hy⟩
theorem step9 {k n : Int} {s t : ByteArray} {l : List Tm} (h : anyB (.mk k n s t l)) : okN (.mk k n s t l) ∧ k ≠ 2 ∧ ∀ y ∈ l, anyB y := by
  rcases h with h | h | h | h | h | ⟨m, hm, h⟩ | h
  · rw [patB, Bool.or_eq_true] at h
    rcases h with h | h
    · exact leaf9 h
    · simp only [Bool.and_eq_true, Bool.or_eq_true, beq_iff_eq] at h
      have hk : k = 10 ∨ k = 9 := by rcases h.1.1.1.1 with h | h; exact .inl h; exact .inr h.1
      exact ⟨okN_of (by omega) (by omega) (by omega), by omega, fun y hy => patsB_mem h.2 hy⟩
  · rw [guaB, Bool.or_eq_true] at h
    rcases h with h | h
    · exact leaf9 h
    · simp only [Bool.and_eq_true, Bool.or_eq_true, beq_iff_eq] at h
      have hk : k = 10 ∨ k = 9 ∨ k = 11 := by
        rcases h.1.1.1 with (h | h) | h
        · exact .inl h.1
        · exact .inr (.inl h.1.1)
        · exact .inr (.inr h.1.1)
      exact ⟨okN_of (by omega) (by omega) (by omega), by omega, fun y hy => guasB_mem h.2 hy⟩
  · rw [testB] at h
    simp only [Bool.and_eq_true, Bool.or_eq_true, beq_iff_eq] at h
    have hk : k = 11 ∨ k = 12 := by
      rcases h.1.1.1 with h | h
      · exact .inl h.1.1
      · exact .inr h.1.1
    exact ⟨okN_of (by omega) (by omega) (by omega), by omega, fun y hy => guasB_mem h.2 hy⟩
  · rw [guardB] at h
    simp only [Bool.and_eq_true, beq_iff_eq, List.all_eq_true] at h
    exact ⟨okN_of (by omega) (by omega) (by omega), by omega, fun y hy => .inr (.inr (.inl (h.2 y hy)))⟩
  · rw [exprB] at h
    simp only [Bool.or_eq_true, or_assoc] at h
    rcases h with h | h | h | h | h | h | h | h | h | h | h | h
    · exact leaf9 h
    · simp only [Bool.and_eq_true, beq_iff_eq] at h
      exact ⟨okN_of (by omega) (by omega) (by omega), by omega, fun y hy => exprsB_mem h.2 hy⟩
    · simp only [Bool.and_eq_true, beq_iff_eq] at h
      exact ⟨okN_of (by omega) (by omega) (by omega), by omega, fun y hy => exprsB_mem h.2 hy⟩
    · simp only [Bool.and_eq_true, beq_iff_eq] at h
      exact ⟨okN_of (by omega) (by omega) (by omega), by omega, fun y hy => exprsB_mem h.2 hy⟩
    · simp only [Bool.and_eq_true, beq_iff_eq] at h
      exact ⟨⟨fun _ => h.1.2, fun e => by have e' : k = 3 := e; omega, fun e => by have e' : k = 19 := e; omega⟩, by omega, fun y hy => patFirst_mem h.2 hy⟩
    · simp only [Bool.and_eq_true, beq_iff_eq] at h
      exact ⟨okN_of (by omega) (by omega) (by omega), by omega, fun y hy => exprsB_mem h.2 hy⟩
    · simp only [Bool.and_eq_true, beq_iff_eq] at h
      exact ⟨okN_of (by omega) (by omega) (by omega), by omega, fun y hy => exprsB_mem h.2 hy⟩
    · simp only [Bool.and_eq_true, beq_iff_eq] at h
      exact ⟨okN_of (by omega) (by omega) (by omega), by omega, fun y hy => exprsB_mem h.2 hy⟩
    · simp only [Bool.and_eq_true, beq_iff_eq] at h
      rw [List.isEmpty_iff.1 h.2]
      exact ⟨okN_of (by omega) (by omega) (by omega), by omega, fun y hy => by cases hy⟩
    · simp only [Bool.and_eq_true, beq_iff_eq] at h
      exact ⟨okN_of (by omega) (by omega) (by omega), by omega, fun y hy => caseB_mem (by decide) h.2 hy⟩
    · simp only [Bool.and_eq_true, beq_iff_eq, decide_eq_true_eq] at h
      exact ⟨⟨fun e => by have e' : k = 13 := e; omega, fun e => by have e' : k = 3 := e; omega, fun _ => by have := h.1.1.2; show 1 ≤ l.length; omega⟩, by omega, fun y hy => caseB_mem (m := 2) (by decide) h.1.2 hy⟩
    · simp only [Bool.and_eq_true, Bool.or_eq_true, beq_iff_eq] at h
      refine ⟨okN_of (by omega) (by omega) (by omega), by omega, fun y hy => ?_⟩
      rcases h.2 with h | h
      · exact cl_any (by decide) (clsB_mem (m := 1) (by decide) h.2 hy)
      · exact recvB_mem h.2 hy
  · rw [clB] at h
    simp only [Bool.and_eq_true, beq_iff_eq] at h
    have hlen := partsB_len h.2
    exact ⟨⟨fun e => by have e' : k = 13 := e; omega, fun _ => ⟨m, h.1.1.1.2, hm, hlen⟩, fun e => by have e' : k = 19 := e; omega⟩, by omega, fun y hy => partsB_mem h.2 hy⟩
  · rw [afterB] at h
    simp only [Bool.and_eq_true, beq_iff_eq] at h
    exact ⟨okN_of (by omega) (by omega) (by omega), by omega, fun y hy => exprsB_mem h.2 hy⟩
theorem mem_presX : ∀ {l : List Tm} {z : Tm}, z ∈ Tm.pres l → ∃ y ∈ l, z ∈ y.pre
  | y :: l, z, h => by
    rw [Tm.pres, List.mem_append] at h
    rcases h with h | h
    · exact ⟨y, List.mem_cons_self, h⟩
    · obtain ⟨y', h1, h2⟩ := mem_presX h
      exact ⟨y', List.mem_cons_of_mem _ h1, h2⟩
theorem any_pre (x : Tm) : anyB x → ∀ z ∈ x.pre, okN z ∧ z.k ≠ 2 := by
  induction x using Tm.ind with
  | h k n s t l ih =>
  intro h z hz
  obtain ⟨h1, h2, h3⟩ := step9 h
  rw [Tm.pre] at hz
  rcases List.mem_cons.1 hz with rfl | hz
  · exact ⟨h1, h2⟩
  · obtain ⟨y, hy, hzy⟩ := mem_presX hz
    exact ih y hy (h3 y hy) z hzy
structure FunOk (f : Tm) : Prop where
  kind : f.k = 2
  arity : 0 ≤ f.n ∧ f.n ≤ 8
  cls : ∀ c ∈ f.l, (c.n = f.n) ∧ ∀ z ∈ c.pre, okN z ∧ z.k ≠ 2
theorem funB_ok {f : Tm} (h : funB f = true) : FunOk f := by
  obtain ⟨k, n, s, t, l⟩ := f
  rw [funB] at h
  simp only [Bool.and_eq_true, beq_iff_eq, decide_eq_true_eq] at h
  refine ⟨h.1.1.1.1.1, h.1.1.2, fun c hc => ?_⟩
  have h8 : n.toNat ≤ 8 := by omega
  have h2 := clsB_mem h8 h.2 hc
  refine ⟨?_, any_pre c (cl_any h8 h2)⟩
  obtain ⟨k', n', s', t', l'⟩ := c
  rw [clB] at h2
  simp only [Bool.and_eq_true, beq_iff_eq] at h2
  show n' = n
  have := h2.1.1.1.2
  omega
theorem modB_ok {m : Tm} (h : modB m = true) : m.k = 1 ∧ ∀ f ∈ m.l, FunOk f := by
  obtain ⟨k, n, s, t, l⟩ := m
  rw [modB] at h
  simp only [Bool.and_eq_true, beq_iff_eq, List.all_eq_true] at h
  exact ⟨h.1.1.1.1, fun f hf => funB_ok (h.2 f hf)⟩
theorem modsB_ok {x : Tm} (h : modsB x = true) : x.k = 0 ∧ ∀ m ∈ x.l, m.k = 1 ∧ ∀ f ∈ m.l, FunOk f := by
  obtain ⟨k, n, s, t, l⟩ := x
  rw [modsB] at h
  simp only [Bool.and_eq_true, beq_iff_eq, List.all_eq_true] at h
  exact ⟨h.1.1.1.1, fun m hm => modB_ok (h.2 m hm)⟩
def fltP (p : Nat) : List Tm → List (Int × Nat)
  | [] => []
  | z :: l => (if z.k = 2 then clsF (p + 1) z.l else []) ++ fltP (p + 1) l
theorem fltP_append : ∀ (a b : List Tm) (p : Nat), fltP p (a ++ b) = fltP p a ++ fltP (p + a.length) b
  | [], b, p => rfl
  | z :: a, b, p => by
    rw [List.cons_append, fltP, fltP, fltP_append a b, List.append_assoc, List.length_cons, show p + 1 + a.length = p + (a.length + 1) by omega]
theorem fltP_none : ∀ (a : List Tm) (p : Nat), (∀ z ∈ a, z.k ≠ 2) → fltP p a = []
  | [], _, _ => rfl
  | z :: a, p, h => by rw [fltP, if_neg (h z List.mem_cons_self), fltP_none a _ (fun y hy => h y (List.mem_cons_of_mem _ hy))]; rfl
theorem fltP_take {a : List Tm} {i : Nat} {z : Tm} (h : a[i]? = some z) : fltP 0 (a.take (i + 1)) = fltP 0 (a.take i) ++ (if z.k = 2 then clsF (i + 1) z.l else []) := by
  have hi := (List.getElem?_eq_some_iff.1 h).1
  rw [List.take_add_one, h, Option.toList, fltP_append, fltP, fltP, List.append_nil, List.length_take, Nat.min_eq_left (Nat.le_of_lt hi), Nat.zero_add]
theorem fltP_fun {f : Tm} (h : FunOk f) (p : Nat) : fltP p f.pre = clsF (p + 1) f.l := by
  obtain ⟨k, n, s, t, l⟩ := f
  rw [Tm.pre, fltP, if_pos h.kind, fltP_none (Tm.pres l) _ (fun z hz => by
    obtain ⟨y, hy, hzy⟩ := mem_presX hz
    exact ((h.cls y hy).2 z hzy).2), List.append_nil]

theorem fltP_funs : ∀ (l : List Tm) (p : Nat), (∀ f ∈ l, FunOk f) → fltP p (Tm.pres l) = funsF p l
  | [], _, _ => rfl
  | f :: l, p, h => by
    rw [Tm.pres, fltP_append, fltP_fun (h f List.mem_cons_self), fltP_funs l _ (fun g hg => h g (List.mem_cons_of_mem _ hg)), funsF]
    rfl
theorem fltP_mods : ∀ (l : List Tm) (p : Nat), (∀ m ∈ l, m.k = 1 ∧ ∀ f ∈ m.l, FunOk f) → fltP p (Tm.pres l) = modsF p l
  | [], _, _ => rfl
  | m :: l, p, h => by
    obtain ⟨h1, h2⟩ := h m List.mem_cons_self
    have e : fltP p m.pre = funsF (p + 1) m.l := by
      obtain ⟨k, n, s, t, q⟩ := m
      have hk : k = 1 := h1
      rw [Tm.pre, fltP, if_neg (by show ¬ k = 2; omega), fltP_funs q _ h2]
      rfl
    rw [Tm.pres, fltP_append, e, fltP_mods l _ (fun g hg => h g (List.mem_cons_of_mem _ hg)), modsF]
    rfl
theorem fltP_eq {x : Tm} (h : modsB x = true) : fltP 0 x.pre = modsF 1 x.l := by
  obtain ⟨h1, h2⟩ := modsB_ok h
  obtain ⟨k, n, s, t, l⟩ := x
  have hk : k = 0 := h1
  rw [Tm.pre, fltP, if_neg (by show ¬ k = 2; omega), fltP_mods l _ h2]
  rfl
theorem mem_pre_mods {x y : Tm} (h : modsB x = true) (hy : y ∈ x.pre) (h2 : y.k = 2) : FunOk y := by
  obtain ⟨h1, hm⟩ := modsB_ok h
  obtain ⟨k, n, s, t, l⟩ := x
  have hk : k = 0 := h1
  rw [Tm.pre] at hy
  rcases List.mem_cons.1 hy with rfl | hy
  · exact absurd h2 (by show ¬ k = 2; omega)
  obtain ⟨m, hml, hy⟩ := mem_presX hy
  obtain ⟨hm1, hmf⟩ := hm m hml
  obtain ⟨k', n', s', t', l'⟩ := m
  rw [Tm.pre] at hy
  rcases List.mem_cons.1 hy with rfl | hy
  · have hk' : k' = 1 := hm1
    exact absurd h2 (by show ¬ k' = 2; omega)
  obtain ⟨f, hf, hy⟩ := mem_presX hy
  have hfo := hmf f hf
  obtain ⟨k2, n2, s2, t2, l2⟩ := f
  rw [Tm.pre] at hy
  rcases List.mem_cons.1 hy with rfl | hy
  · exact hfo
  obtain ⟨c, hc, hy⟩ := mem_presX hy
  exact absurd h2 (((hfo.cls c hc).2 y hy).2)
end Go.Proofs.YthbiaaeoajmlbaaGreatDoor
end
section
set_option linter.unusedVariables false
set_option linter.unusedSimpArgs false
namespace Go.Proofs.YthbiaaeoajmlbaaGreatDoor
open Go.RowKit

theorem run_own_row {T E : TypeId} {z : Value} {size : Nat} (hT : ElT T E z size) (w : World) (ty : TypeId) {base : Nat} {v : Value} {n : Nat} {xs : List Value} (hown : w.ownsRow base E size v n xs) (hbase : base ≤ w.heap.size)
    {base2 : Nat} {v2 : Value} {m : Nat} {ys : List Value} (h2 : w.ownsRow base2 E size v2 m ys) (h1 : ∀ u ∈ ys, u.oneCell' = true) (hlen : n + m ≤ 2000000) :
    ∃ v' w', (Builtin.append_ #[T, T] ty #[v, v2]).run Tryz.prog w = .ok v' w' ∧ w'.ownsRow base E size v' (n + m) (xs ++ ys) ∧ w.grownBy w' v.ownBlock ∧ (v'.ownBlock = v.ownBlock ∨ v'.ownBlock = some w.heap.size) := by
  obtain ⟨i, hi, hz, hsz, hby⟩ := hT.info
  rcases h2.2 with ⟨rfl, rfl⟩ | ⟨g, cap, cur, rfl, hg0, hg, _, _, _, _⟩
  · have hys : ys = [] := List.eq_nil_of_length_eq_zero (by rw [h2.1]; omega)
    subst hys
    obtain ⟨A, c, rfl, hc⟩ := own_slice hown
    refine ⟨.slice A n c, w, ?_, by rw [List.append_nil]; exact hown, World.grownBy.refl _ _, .inl rfl⟩
    cases A <;> simp [Builtin.append_, run_underlying hT.sl, sizeOf, typeInfo, hi, hc, Builtin.lenOf, Builtin.firstCells, storeCells]
  · have hnews : ∀ j u, ys[j]? = some u → w.cell? ((⟨g, 0, none⟩ : Addr).add j) = some u := by
      intro j u hj
      have e : (⟨g, 0, none⟩ : Addr).add j = ⟨g, j, none⟩ := by unfold Addr.add; split <;> simp_all
      have hlt := (List.getElem?_eq_some_iff.1 hj).1
      rw [e, h2.cellAt j (by rw [← h2.1]; exact hlt)]
      exact hj
    obtain ⟨v', w', hr, h2', h3, _, h5⟩ := run_append_own_at (P := Tryz.prog) w base T ty E i z size i.bytes hT.sl hi hz hsz rfl hT.zs hT.pos v n xs hown ⟨g, 0, none⟩ m cap ys h2.1 hnews h1 (by unfold maxLen; omega)
      (by have h9 : (n + m) * i.bytes ≤ 2000000 * 200 := Nat.mul_le_mul hlen hby
          omega) hbase
    exact ⟨v', w', hr, h2', h3, h5⟩
theorem wp_own_row {T E : TypeId} {z : Value} {size : Nat} (hT : ElT T E z size) {o : Oper} {a : Act} {w : World} {K : Act → World → Prop} {Q : Exit → Act → World → Prop} (sl x : Operand)
    (ho : o.op = .call { callee := .builtin .append, args := #[sl, x], argTypes := #[T, T] })
    {base : Nat} {v : Value} {n : Nat} {xs : List Value} (hown : w.ownsRow base E size v n xs) (hbase : base ≤ w.heap.size) (he : a.eval sl = v)
    {base2 : Nat} {v2 : Value} {m : Nat} {ys : List Value} (h2 : w.ownsRow base2 E size v2 m ys) (hx : a.eval x = v2) (h1 : ∀ u ∈ ys, u.oneCell' = true) (hlen : n + m ≤ 2000000)
    (h : ∀ v' w', w'.ownsRow base E size v' (n + m) (xs ++ ys) → w.grownBy w' v.ownBlock → (v'.ownBlock = v.ownBlock ∨ v'.ownBlock = some w.heap.size) → K (a.put o.dst v') w') : o.wp Tryz.prog a w K Q := by
  obtain ⟨v', w', hr, h3, h4, h5⟩ := run_own_row hT w o.type hown hbase h2 h1 hlen
  unfold Oper.wp execOp
  simp only [ho, resolve, invoke, builtin, Sem.run_bind, Sem.run_pure, Result.andThen_ok, List.map_toArray, List.map_cons, List.map_nil, he, hx, hr]
  exact h _ _ h3 h4 h5
theorem pres_place : ∀ {l : List Tm} (h : ∀ y ∈ l, ∀ (i : Nat) (z : Tm), y.pre[i]? = some z → ∃ r, y.pre.drop i = z.pre ++ r) (i : Nat) (z : Tm), (Tm.pres l)[i]? = some z → ∃ r, (Tm.pres l).drop i = z.pre ++ r
  | [], _, i, z, hz => by simp [Tm.pres] at hz
  | y :: l, h, i, z, hz => by
    rw [Tm.pres] at hz ⊢
    by_cases hi : i < y.pre.length
    · rw [List.getElem?_append_left hi] at hz
      obtain ⟨r, hr⟩ := h y List.mem_cons_self i z hz
      exact ⟨r ++ Tm.pres l, by rw [List.drop_append_of_le_length (Nat.le_of_lt hi), hr, List.append_assoc]⟩
    · rw [List.getElem?_append_right (by omega)] at hz
      obtain ⟨r, hr⟩ := pres_place (fun y' hy' => h y' (List.mem_cons_of_mem _ hy')) _ z hz
      refine ⟨r, ?_⟩
      rw [List.drop_append, List.drop_eq_nil_of_le (by omega), List.nil_append, hr]
theorem pre_place (x : Tm) : ∀ (i : Nat) (z : Tm), x.pre[i]? = some z → PlaceAt x.pre i z := by
  induction x using Tm.ind with
  | h k n s t l ih =>
  intro i z hz
  rw [Tm.pre] at hz
  unfold PlaceAt
  match i, hz with
  | 0, hz =>
    simp at hz; subst hz
    exact ⟨[], by rw [List.append_nil]; rfl⟩
  | i + 1, hz =>
    obtain ⟨r, hr⟩ := pres_place (fun y hy i z h => ih y hy i z h) i z (by simpa using hz)
    refine ⟨r, ?_⟩
    rw [Tm.pre, List.drop_succ_cons]
    exact hr
end Go.Proofs.YthbiaaeoajmlbaaGreatDoor
end
section
set_option linter.unusedVariables false
set_option linter.unusedSimpArgs false
namespace Go.Proofs.YthbiaaeoajmlbaaGreatDoor
open Go.RowKit Go.Shelf
attribute [local go_sem] Oper.semAt_some

structure KeepB (V V' : World) : Prop where
  size : V.heap.size ≤ V'.heap.size
  cells : ∀ (k : Nat) (c : Array Value) (t : TypeId) (z : Nat × Nat), V.heap[k]? = some (.cells c t z) → t = 173 ∨ t = 101 ∨ t = 3 → V'.heap[k]? = some (.cells c t z)
theorem KeepB.refl (V : World) : KeepB V V := ⟨Nat.le_refl _, fun _ _ _ _ h _ => h⟩
theorem KeepB.trans {A B C : World} (h : KeepB A B) (g : KeepB B C) : KeepB A C := ⟨Nat.le_trans h.size g.size, fun k c t z hk h1 => g.cells k c t z (h.cells k c t z hk h1) h1⟩
theorem KeepB.put {W : World} {l : Nat} {o o' : Obj} (h : W.heap[l]? = some o) (ho : o.isCells = false) : KeepB W (W.putObj l o') :=
  ⟨by rw [World.putObj_size]; exact Nat.le_refl _, fun k c t z hk _ => (World.putObj_heap_other (fun e => by subst e; rw [h] at hk; cases hk; cases ho)).trans hk⟩
theorem KeepB.of_below {A B : World} (h : Below A.heap.size A B) : KeepB A B := ⟨h.size, fun k c t z hk _ => (h.block k (heap_lt hk)).trans hk⟩
theorem Bet.keepB {LB lc bf bt bl : Nat} {P : List Tm} {p E : Nat} {W W' : World} (h : Bet LB lc bf bt bl P p E W) (k : KeepB W W') : Bet LB lc bf bt bl P p E W' := by
  obtain ⟨cs, h1, h2⟩ := h.row.row
  have h3 := k.cells _ _ _ _ h1 (.inl rfl)
  exact ⟨k.cells _ _ _ _ h.from_ (.inr (.inr rfl)), k.cells _ _ _ _ h.to_ (.inr (.inr rfl)), k.cells _ _ _ _ h.lay (.inr (.inl rfl)), h.row.len, h.row.cap, cs, h3, h2⟩
set_option maxHeartbeats 4000000 in
set_option maxRecDepth 100000 in
theorem between1_stopsB (LB lc bf bt bl : Nat) (P : List Tm) (p E : Nat) (L : List Tm) (n : Nat) (hn : 1 ≤ n) (w : World) (hB : Bet LB lc bf bt bl P p E w) (hP : PlacesAt P p L) (hp : p ≤ P.length) (hE : E = p + (Tm.pres L).length) :
    SeqE n Tryz.prog 255 #[.pointer (some ⟨bf, 0, none⟩), .pointer (some ⟨bt, 0, none⟩), .pointer (some ⟨bl, 0, none⟩)] encP KeepB (fun pre q => ∃ j, pre = (placesL p L).take j ∧ (placesL p L)[j]? = some q) (fun ys => ys = placesL p L) (fun pre => ∃ k, pre = (placesL p L).take k) w := by
  intro l J Jx W hW _ _ hY h0
  have hBW : Bet LB lc bf bt bl P p E W := hB.keep ⟨hW.size, fun k c t z hk _ _ _ => (hW.block k (heap_lt hk)).trans hk⟩
  have hlen := hB.row.len
  have hle := hP.le hp
  have c1 : W.cell? ⟨bf, 0, none⟩ = some (.int .i64 (p : Int)) := cell_of_row hBW.from_ rfl
  have HB := Lib.hid hBW
  have HE := Lib.hid hE
  have HP := Lib.hid hP
  have HY := Lib.hid hY
  have H0 := Lib.hid h0
  have HN := Lib.hid hn
  have HEP : Hid (E ≤ P.length) := by show _ ≤ _; omega
  have HPL := Lib.hid hlen
  clear hB hW hY h0 hBW hlen hle hE hP hp hn
  refine callsIn_of_wp Tryz.func255 rfl trivial ?_ rfl
  simp only [Tryz.ntmps255, List.size_toArray, List.length_cons, List.length_nil, Nat.reduceAdd, Nat.reduceSub, Array.replicate_succ, Array.replicate_zero, List.push_toArray, List.append_toArray, List.nil_append, List.cons_append]
  gi_wp2_with fail
  clear c1
  gi_loopw [5] (fun q wr => ∃ j : Nat, j ≤ L.length ∧ (∃ r : Nat, q = .int .i64 (r : Int) ∧ r = p + (Tm.pres (L.take j)).length) ∧ J ((placesL p L).take j) wr ∧ Bet LB lc bf bt bl P p E wr) (fun q _ => E - (intOf q).toNat)
  case atStart => exact ⟨0, Nat.zero_le _, ⟨p, rfl, by simp [Tm.pres]⟩, by rw [List.take_zero]; exact H0.out, HB.out⟩
  case round =>
    obtain ⟨j, hj, ⟨r, rfl, hr⟩, hJr, hBr⟩ := hrel
    have c2 : wr.cell? ⟨bt, 0, none⟩ = some (.int .i64 (E : Int)) := cell_of_row hBr.to_ rfl
    have HJ := Lib.hid hJr
    have HBr := Lib.hid hBr
    have HR := Lib.hid hr
    clear hJr hBr hr
    by_cases hlt : j < L.length
    · obtain ⟨x, hx⟩ : ∃ x, L[j]? = some x := ⟨L[j], List.getElem?_eq_getElem hlt⟩
      have hpl := HP.out.at_ hx
      have hpn := Tm.pre_ne x
      have hsx : (Tm.pres (L.take (j + 1))).length = (Tm.pres (L.take j)).length + x.nodes := by rw [Tm.pres_take_succ hx, List.length_append]; rfl
      have htl := pres_take_le L (j + 1)
      have hr1 : (r : Int) < (E : Int) := by have := HR.out; have := HE.out; unfold Tm.nodes at hsx; omega
      have hrP : P[r]? = some x := by rw [HR.out]; exact hpl.get
      have hgl := placesL_get L p j hlt
      have htk : (placesL p L).take (j + 1) = (placesL p L).take j ++ [r] := by rw [List.take_add_one, hgl, ← HR.out]; rfl
      obtain ⟨fn, tmps, assign, body, hy, hRound⟩ := HY.out ((placesL p L).take j) r wr HJ.out ⟨j, rfl, by rw [hgl, HR.out]⟩
      unfold encP at hy
      have hr9 : r + x.nodes = p + (Tm.pres (L.take (j + 1))).length := by rw [HR.out, hsx]; omega
      have HX := Lib.hid hrP
      have HTK := Lib.hid htk
      have HR9 := Lib.hid hr9
      have HLT := Lib.hid hlt
      have HPN : Hid (1 ≤ x.nodes) := hpn
      clear hx hpl hpn hsx htl hrP hgl htk hr9 hlt
      gi_wp2_with fail
      refine ⟨fun h => (by cases h), ?_⟩
      refine hRound.mono ?_
      clear hRound hy c2
      rintro e W3 (⟨rfl, hJ3, hK3⟩ | ⟨rfl, hx3⟩)
      · have hB3 := HBr.out.keepB hK3
        have c3 : W3.cell? ⟨bl, 0, none⟩ = some (.slice (some ⟨LB, 0, none⟩) P.length lc) := cell_of_row hB3.lay rfl
        obtain ⟨A, cap, -, -, -, -, -, s5⟩ := hB3.row.spot HX.out
        have had := add6 LB r
        have hr2 : (r : Int) < (P.length : Int) := by have := HEP.out; omega
        have hr0 : (0 : Int) ≤ (r : Int) := by omega
        have HJ3 := Lib.hid hJ3
        have HB3 := Lib.hid hB3
        obtain ⟨r2, hr2e⟩ : ∃ r2 : Nat, r2 = r + x.nodes := ⟨_, rfl⟩
        rw [← hr2e] at s5
        have HR2 := Lib.hid hr2e
        clear hJ3 hB3 hK3 hr2e
        gi_wp2_with fail
        go_roundw
        case rel => exact ⟨j + 1, HLT.out, ⟨r2, rfl, by rw [HR2.out, HR9.out]⟩, by rw [HTK.out]; exact HJ3.out, HB3.out⟩
        case measure => simp [intOf]; have := HR2.out; have := HPN.out; omega
      · gi_wp2_with fail
        go_end0
        exact ⟨⟨_, rfl⟩, .inr ⟨_, ⟨j + 1, HTK.out.symm⟩, hx3⟩⟩
    · obtain rfl : j = L.length := by omega
      have hr1 : ¬ (r : Int) < (E : Int) := by have h1 := HR.out; rw [List.take_length] at h1; have := HE.out; omega
      gi_wp2_with fail
      refine ⟨fun f h => (by cases h), ?_⟩
      gi_wp2_with fail
      go_end0
      refine ⟨⟨_, rfl⟩, .inl ⟨_, rfl, ?_⟩⟩
      have h1 := HJ.out
      rw [List.take_of_length_le (by rw [placesL_len]; exact Nat.le_refl _)] at h1
      exact h1
end Go.Proofs.YthbiaaeoajmlbaaGreatDoor
end
section
set_option linter.unusedVariables false
namespace Go.Proofs.YthbiaaeoajmlbaaGreatDoor
open Go.RowKit

theorem TRow.later {w V : World} {A : Option Addr} {n cap : Nat} {l : List Tm} (h : TRow (· < w.heap.size) w A n cap l) (hb : Below w.heap.size w V) : TRow (· < V.heap.size) V A n cap l :=
  h.keep (fun b hb' => hb.block b hb') (fun b hb' => Nat.lt_of_lt_of_le hb' hb.size)
end Go.Proofs.YthbiaaeoajmlbaaGreatDoor
end
