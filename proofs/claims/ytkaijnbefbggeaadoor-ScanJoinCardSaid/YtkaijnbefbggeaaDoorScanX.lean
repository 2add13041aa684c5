/- The program's own scan.flawed, first: contracts. -/
import Derived.Test.YtkaijnbefbggeaaDoorScanN
set_option linter.unusedVariables false
namespace Go.Proofs.YtkaijnbefbggeaaDoor
open Go.RowKit

set_option maxHeartbeats 4000000 in
set_option maxRecDepth 100000 in
theorem sflawed_any (e a : Int) (w : World) : Calls Tryd.prog 12 #[.int .i64 e, .int .i64 a] w fun r w' => r = .returned (NR.v ⟨tk0, a, e, a⟩) ∧ Below w.heap.size w w' := by
  obtain ⟨w2, hw2⟩ : ∃ w2, w2 = (w.alloc (.cells #[.int .i8 0, .int .i64 0, .string ⟨#[]⟩, .int .i64 0] 25)).alloc (.cells #[.int .i64 0, .int .i64 0] 28) := ⟨_, rfl⟩
  have hb2 := box42 w w2 hw2
  obtain ⟨g4, g6, b2⟩ := hb2
  have HB2 := Lib.hid b2
  clear b2
  have x0 : w2.cell? ⟨w.heap.size, 0, none⟩ = some (.int .i8 0) := cell_of_row g4 rfl
  have fx0 : w2.frozen? ⟨w.heap.size, 0, none⟩ = false := free_of_row g4
  have x1 : w2.cell? ⟨w.heap.size, 1, none⟩ = some (.int .i64 0) := cell_of_row g4 rfl
  have fx1 : w2.frozen? ⟨w.heap.size, 1, none⟩ = false := free_of_row g4
  have x2 : w2.cell? ⟨w.heap.size, 2, none⟩ = some (.string ⟨#[]⟩) := cell_of_row g4 rfl
  have fx2 : w2.frozen? ⟨w.heap.size, 2, none⟩ = false := free_of_row g4
  have x3 : w2.cell? ⟨w.heap.size, 3, none⟩ = some (.int .i64 0) := cell_of_row g4 rfl
  have fx3 : w2.frozen? ⟨w.heap.size, 3, none⟩ = false := free_of_row g4
  have y0 : w2.cell? ⟨(w.heap.size + 1), 0, none⟩ = some (.int .i64 0) := cell_of_row g6 rfl
  have fy0 : w2.frozen? ⟨(w.heap.size + 1), 0, none⟩ = false := free_of_row g6
  have y1 : w2.cell? ⟨(w.heap.size + 1), 1, none⟩ = some (.int .i64 0) := cell_of_row g6 rfl
  have fy1 : w2.frozen? ⟨(w.heap.size + 1), 1, none⟩ = false := free_of_row g6
  clear g4 g6
  subst hw2
  go_enter Tryd.func12, Tryd.ntmps12
  go_wp2_with fail
  refine bodyPost_ret (v := .tuple #[.agg #[.int .i8 0, .int .i64 0, .string ⟨#[]⟩, .int .i64 0], .int .i64 a, .agg #[.int .i64 e, .int .i64 a]]) (by simp [results, Tryd.f12, go_sem]) rfl ⟨rfl, ((Below.refl _ w).alloc (Nat.le_refl _) _).alloc (by simp) _⟩

theorem head_cons (s : ByteArray) (h : 0 < s.size) : s.data.toList = s[0] :: s.data.toList.drop 1 := by
  have := drop_cons (l := s.data.toList) (k := 0) (by rw [size_list]; exact h)
  rw [List.drop_zero] at this
  exact this
theorem tok_dig {c : UInt8} {t : List UInt8} (h : isDig c = true) : tokL (c :: t) = intR (c :: t) := by
  show (if isDig c = true then _ else _) = _
  rw [if_pos h]; rfl
theorem tok_name {c : UInt8} {t : List UInt8} (h : isDig c = false) (hk : kindN (c.toNat : Int) ≠ 0) :
    (tokL (c :: t)).tup (c :: t) = (nameR ((c :: t).take (prefL (c :: t)))).tup ((c :: t).take (prefL (c :: t))) := by
  have hl : ((c :: t).take (prefL (c :: t))).length = prefL (c :: t) := by rw [List.length_take, Nat.min_eq_left (prefL_le _)]
  have hp : 1 ≤ prefL (c :: t) := by rw [prefL, if_neg hk]; omega
  have hd : ((c :: t).take (prefL (c :: t))).headD 0 = c := by
    obtain ⟨k, e⟩ : ∃ k, prefL (c :: t) = k + 1 := ⟨prefL (c :: t) - 1, by omega⟩
    rw [e]; rfl
  have e1 : tokL (c :: t) = (if 32 < prefL (c :: t) then SR.bad 11 else SR.tok (if wordL ((c :: t).take (prefL (c :: t))) = true then 3 else if kindN (c.toNat : Int) = 2 then 0 else 1) 0 (prefL (c :: t)) (prefL (c :: t))) := by
    show (if isDig c = true then _ else _) = _
    rw [if_neg (by rw [h]; decide), if_pos hk]
  rw [e1]
  unfold nameR
  rw [hl, hd]
  split
  · rfl
  · show Value.tuple _ = Value.tuple _
    rw [List.take_take, Nat.min_self]
theorem tok_dot {c : UInt8} {t : List UInt8} (h : isDig c = false) (hk : kindN (c.toNat : Int) = 0) (hd : c.toNat = 46) : tokL (c :: t) = .tok 4 0 1 0 := by
  show (if isDig c = true then _ else _) = _
  rw [if_neg (by rw [h]; decide), if_neg (by rw [hk]; decide), if_pos hd]
theorem tok_mark {c : UInt8} {t : List UInt8} (h : isDig c = false) (hk : kindN (c.toNat : Int) = 0) (hd : ¬ c.toNat = 46) : tokL (c :: t) = markR (c :: t) := by
  show (if isDig c = true then _ else _) = _
  rw [if_neg (by rw [h]; decide), if_neg (by rw [hk]; decide), if_neg hd]
  rfl
theorem kind_dig {c : UInt8} (h : isDig c = false) (hk : kindN (c.toNat : Int) ≠ 0) : kindN (c.toNat : Int) = 2 ∨ kindN (c.toNat : Int) = 3 := by
  have hn : ¬ (48 ≤ c.toNat ∧ c.toNat ≤ 57) := of_decide_eq_false h
  unfold kindN at hk ⊢
  by_cases h1 : 97 ≤ (c.toNat : Int) ∧ (c.toNat : Int) ≤ 122
  · rw [if_pos h1]; exact .inl rfl
  · rw [if_neg h1] at hk ⊢
    by_cases h2 : 65 ≤ (c.toNat : Int) ∧ (c.toNat : Int) ≤ 90
    · rw [if_pos h2]; exact .inr rfl
    · rw [if_neg h2] at hk ⊢
      by_cases h3 : (c.toNat : Int) = 95
      · rw [if_pos h3]; exact .inr rfl
      · rw [if_neg h3] at hk ⊢
        by_cases h4 : 48 ≤ (c.toNat : Int) ∧ (c.toNat : Int) ≤ 57
        · exact (hn (by omega)).elim
        · rw [if_neg h4] at hk; exact (hk rfl).elim

set_option maxRecDepth 100000 in
set_option maxHeartbeats 4000000 in
theorem sfirst_any (s : ByteArray) (w : World) (hs : s.size ≤ 1000000) (h0 : 0 < s.size) (hE : ScanE w) :
    Calls Tryd.prog 13 #[.string s] w fun e w' => e = .returned ((tokL s.data.toList).tup s.data.toList) ∧ Below w.heap.size w w' := by
  have hc := head_cons s h0
  obtain ⟨L, hL⟩ : ∃ L, L = s.data.toList := ⟨_, rfl⟩
  obtain ⟨T, hT⟩ : ∃ T, T = (tokL s.data.toList).tup s.data.toList := ⟨_, rfl⟩
  rw [← hT]
  obtain ⟨g2, b2⟩ := box4 w
  have HB2 := Lib.hid b2
  have HG2 := Lib.hid g2
  have HE2 := Lib.hid (hE.under b2)
  clear g2 b2
  have h0' : (0 : Int) < s.size := by omega
  have hcast : ∀ b : Bool, isDig s[0] = b → decide ((48 : Int) ≤ ((s[0]'h0).toNat : Int) ∧ ((s[0]'h0).toNat : Int) ≤ (57 : Int)) = b := fun b h => by
    rw [← h]; unfold isDig; rw [decide_eq_decide]; omega
  cases hdg : isDig (s[0]'h0)
  · have hd := hcast _ hdg
    have hpn : prefN s = prefL (s[0] :: s.data.toList.drop 1) := by unfold prefN; rw [← hc]
    have HMX : Hid (s.size ≤ maxLen) := by show _ ≤ _; unfold maxLen; omega
    have HDG := Lib.hid hdg
    have HCO := Lib.hid hc
    have HPN := Lib.hid hpn
    have HTT := Lib.hid hT
    have hple := prefN_le s
    by_cases hk : kindN (((s[0]'h0).toNat : Nat) : Int) = 0
    · have hz : prefN s = 0 := by rw [hpn, prefL, if_pos hk]
      have HK := Lib.hid hk
      clear hpn hT hc hk hcast hdg hple
      by_cases h46 : (s[0]'h0).toNat = 46
      · have HR : Hid (T = (SR.tok 4 0 1 0).tup s.data.toList) := by show _ = _; rw [HTT.out]; congr 1; rw [HCO.out]; exact tok_dot HDG.out HK.out h46
        have h46' : (((s[0]'h0).toNat : Int) == (46 : Int)) = true := by rw [h46]; rfl
        clear h46
        go_enter Tryd.func13, Tryd.ntmps13
        go_wp2_with fail
        generalize w.alloc (.cells #[.int .i8 0, .int .i64 0, .string ⟨#[]⟩, .int .i64 0] 25) = w2 at HB2 HG2 HE2 ⊢
        refine (sdigit_any _ w2).mono ?_
        rintro e w3 ⟨rfl, hq⟩
        subst w3
        rw [hd]
        go_wp2_with fail
        refine (Prefix_any s HMX.out w2 HE2.out.sp).mono ?_
        rintro e w4 ⟨rfl, b4⟩
        rw [hz]
        have HB4 := Lib.hid (HB2.out.trans (b4.mono HB2.out.size))
        have HG4 := Lib.hid ((b4.block _ (heap_lt HG2.out)).trans HG2.out)
        have HE4 := Lib.hid (HE2.out.under b4)
        clear b4
        have x0 : w4.cell? ⟨w.heap.size, 0, none⟩ = some (.int .i8 0) := cell_of_row HG4.out rfl
        have x1 : w4.cell? ⟨w.heap.size, 1, none⟩ = some (.int .i64 0) := cell_of_row HG4.out rfl
        have x2 : w4.cell? ⟨w.heap.size, 2, none⟩ = some (.string ⟨#[]⟩) := cell_of_row HG4.out rfl
        have x3 : w4.cell? ⟨w.heap.size, 3, none⟩ = some (.int .i64 0) := cell_of_row HG4.out rfl
        have fx0 : w4.frozen? ⟨w.heap.size, 0, none⟩ = false := free_of_row HG4.out
        have fx1 : w4.frozen? ⟨w.heap.size, 1, none⟩ = false := free_of_row HG4.out
        have fx2 : w4.frozen? ⟨w.heap.size, 2, none⟩ = false := free_of_row HG4.out
        have fx3 : w4.frozen? ⟨w.heap.size, 3, none⟩ = false := free_of_row HG4.out
        go_wp2_with fail
        obtain ⟨s4, m7⟩ := fin4 (.int .i8 4) (.int .i64 0) (.string ⟨#[]⟩) (.int .i64 0) HG4.out HB4.out
        generalize ((((w4.setCell ⟨w.heap.size, 0, none⟩ (.int .i8 4)).setCell ⟨w.heap.size, 1, none⟩ (.int .i64 0)).setCell ⟨w.heap.size, 2, none⟩ (.string ⟨#[]⟩)).setCell ⟨w.heap.size, 3, none⟩ (.int .i64 0)) = w9 at s4 m7 ⊢
        clear x0 x1 x2 x3 fx0 fx1 fx2 fx3
        have x0 : w9.cell? ⟨w.heap.size, 0, none⟩ = some (.int .i8 4) := cell_of_row s4 rfl
        have x1 : w9.cell? ⟨w.heap.size, 1, none⟩ = some (.int .i64 0) := cell_of_row s4 rfl
        have x2 : w9.cell? ⟨w.heap.size, 2, none⟩ = some (.string ⟨#[]⟩) := cell_of_row s4 rfl
        have x3 : w9.cell? ⟨w.heap.size, 3, none⟩ = some (.int .i64 0) := cell_of_row s4 rfl
        have HM7 := Lib.hid m7
        clear s4 m7
        refine bodyPost_ret (v := SR.tup s.data.toList (.tok 4 0 1 0)) (by simp [results, Tryd.f13, go_sem, x0, x1, x2, x3, SR.tup, Tk.v]) rfl ⟨by rw [HR.out], HM7.out⟩
      · have HR : Hid (T = (markR s.data.toList).tup s.data.toList) := by show _ = _; rw [HTT.out]; congr 1; rw [HCO.out]; exact tok_mark HDG.out HK.out h46
        have h46' : (((s[0]'h0).toNat : Int) == (46 : Int)) = false := by rw [beq_eq_false_iff_ne]; omega
        go_enter Tryd.func13, Tryd.ntmps13
        go_wp2_with fail
        generalize w.alloc (.cells #[.int .i8 0, .int .i64 0, .string ⟨#[]⟩, .int .i64 0] 25) = w2 at HB2 HG2 HE2 ⊢
        refine (sdigit_any _ w2).mono ?_
        rintro e w3 ⟨rfl, hq⟩
        subst w3
        rw [hd]
        go_wp2_with fail
        refine (Prefix_any s HMX.out w2 HE2.out.sp).mono ?_
        rintro e w4 ⟨rfl, b4⟩
        rw [hz]
        have HB4 := Lib.hid (HB2.out.trans (b4.mono HB2.out.size))
        have HG4 := Lib.hid ((b4.block _ (heap_lt HG2.out)).trans HG2.out)
        have HE4 := Lib.hid (HE2.out.under b4)
        clear b4
        go_wp2_with fail
        obtain ⟨k, n, b, a, len, er, hR⟩ := SR.tup_is s.data.toList (markR s.data.toList)
        have HRR := Lib.hid hR
        refine (smark_any s w4 (by omega) HE4.out.mt).mono ?_
        rintro e w5 ⟨rfl, b5⟩
        rw [hR]
        clear hR
        have HB5 := Lib.hid (HB4.out.trans (b5.mono HB4.out.size))
        have HG5 := Lib.hid ((b5.block _ (heap_lt HG4.out)).trans HG4.out)
        have HE5 := Lib.hid (HE4.out.under b5)
        clear b5
        have x0 : w5.cell? ⟨w.heap.size, 0, none⟩ = some (.int .i8 0) := cell_of_row HG5.out rfl
        have x1 : w5.cell? ⟨w.heap.size, 1, none⟩ = some (.int .i64 0) := cell_of_row HG5.out rfl
        have x2 : w5.cell? ⟨w.heap.size, 2, none⟩ = some (.string ⟨#[]⟩) := cell_of_row HG5.out rfl
        have x3 : w5.cell? ⟨w.heap.size, 3, none⟩ = some (.int .i64 0) := cell_of_row HG5.out rfl
        have fx0 : w5.frozen? ⟨w.heap.size, 0, none⟩ = false := free_of_row HG5.out
        have fx1 : w5.frozen? ⟨w.heap.size, 1, none⟩ = false := free_of_row HG5.out
        have fx2 : w5.frozen? ⟨w.heap.size, 2, none⟩ = false := free_of_row HG5.out
        have fx3 : w5.frozen? ⟨w.heap.size, 3, none⟩ = false := free_of_row HG5.out
        go_wp2_with fail
        obtain ⟨s4, m7⟩ := fin4 (.int .i8 k) (.int .i64 n) (.string b) (.int .i64 a) HG5.out HB5.out
        generalize ((((w5.setCell ⟨w.heap.size, 0, none⟩ (.int .i8 k)).setCell ⟨w.heap.size, 1, none⟩ (.int .i64 n)).setCell ⟨w.heap.size, 2, none⟩ (.string b)).setCell ⟨w.heap.size, 3, none⟩ (.int .i64 a)) = w9 at s4 m7 ⊢
        clear x0 x1 x2 x3 fx0 fx1 fx2 fx3
        have x0 : w9.cell? ⟨w.heap.size, 0, none⟩ = some (.int .i8 k) := cell_of_row s4 rfl
        have x1 : w9.cell? ⟨w.heap.size, 1, none⟩ = some (.int .i64 n) := cell_of_row s4 rfl
        have x2 : w9.cell? ⟨w.heap.size, 2, none⟩ = some (.string b) := cell_of_row s4 rfl
        have x3 : w9.cell? ⟨w.heap.size, 3, none⟩ = some (.int .i64 a) := cell_of_row s4 rfl
        have HM7 := Lib.hid m7
        clear s4 m7
        refine bodyPost_ret (v := .tuple #[.agg #[.int .i8 k, .int .i64 n, .string b, .int .i64 a], .int .i64 len, .int .i64 er]) (by simp [results, Tryd.f13, go_sem, x0, x1, x2, x3]) rfl ⟨by rw [HR.out, HRR.out], HM7.out⟩
    · have hz : 1 ≤ prefN s := by rw [hpn, prefL, if_neg hk]; omega
      obtain ⟨n0, hn0⟩ : ∃ n0, n0 = prefN s := ⟨_, rfl⟩
      rw [← hn0] at hz hple hpn
      obtain ⟨p, hp⟩ : ∃ p, p = s.extract 0 n0 := ⟨_, rfl⟩
      have hpl : p.data.toList = s.data.toList.take n0 := by rw [hp, ext_list, List.drop_zero]
      have hpz : p.size = n0 := by rw [← size_list, hpl, List.length_take, size_list]; omega
      have hpp : prefN p = p.size := by
        rw [hpz]
        show prefL p.data.toList = n0
        rw [hpl, hn0]
        exact prefL_take _
      have hkd : kd p 0 = 2 ∨ kd p 0 = 3 := by
        rw [kd_head p (by omega), hpl, hc]
        obtain ⟨m, e⟩ : ∃ m, n0 = m + 1 := ⟨n0 - 1, by omega⟩
        rw [e]
        exact kind_dig hdg hk
      have HR : Hid (T = (nameR p.data.toList).tup p.data.toList) := by
        show _ = _
        rw [hT, hpl, hpn, hc]
        exact tok_name hdg hk
      have HNA : Hid (∀ V, ScanE V → Calls Tryd.prog 23 #[.string p] V fun e w' => e = .returned ((nameR p.data.toList).tup p.data.toList) ∧ Below V.heap.size V w') := fun V hV => sname_any p V (by omega) (by omega) hpp hkd hV
      have HN0 := Lib.hid hn0
      clear hpn hT hc hk hcast hdg hpl hpp hkd hpz hn0
      go_enter Tryd.func13, Tryd.ntmps13
      go_wp2_with fail
      generalize w.alloc (.cells #[.int .i8 0, .int .i64 0, .string ⟨#[]⟩, .int .i64 0] 25) = w2 at HB2 HG2 HE2 ⊢
      refine (sdigit_any _ w2).mono ?_
      rintro e w3 ⟨rfl, hq⟩
      subst w3
      rw [hd]
      go_wp2_with fail
      refine (Prefix_any s HMX.out w2 HE2.out.sp).mono ?_
      rintro e w4 ⟨rfl, b4⟩
      rw [← HN0.out]
      have HB4 := Lib.hid (HB2.out.trans (b4.mono HB2.out.size))
      have HG4 := Lib.hid ((b4.block _ (heap_lt HG2.out)).trans HG2.out)
      have HE4 := Lib.hid (HE2.out.under b4)
      clear b4
      go_wp2_with fail
      rw [← hp]
      obtain ⟨k, n, b, a, len, er, hR⟩ := SR.tup_is p.data.toList (nameR p.data.toList)
      have HRR := Lib.hid hR
      refine (HNA.out w4 HE4.out).mono ?_
      rintro e w5 ⟨rfl, b5⟩
      rw [hR]
      clear hR
      have HB5 := Lib.hid (HB4.out.trans (b5.mono HB4.out.size))
      have HG5 := Lib.hid ((b5.block _ (heap_lt HG4.out)).trans HG4.out)
      have HE5 := Lib.hid (HE4.out.under b5)
      clear b5
      have x0 : w5.cell? ⟨w.heap.size, 0, none⟩ = some (.int .i8 0) := cell_of_row HG5.out rfl
      have x1 : w5.cell? ⟨w.heap.size, 1, none⟩ = some (.int .i64 0) := cell_of_row HG5.out rfl
      have x2 : w5.cell? ⟨w.heap.size, 2, none⟩ = some (.string ⟨#[]⟩) := cell_of_row HG5.out rfl
      have x3 : w5.cell? ⟨w.heap.size, 3, none⟩ = some (.int .i64 0) := cell_of_row HG5.out rfl
      have fx0 : w5.frozen? ⟨w.heap.size, 0, none⟩ = false := free_of_row HG5.out
      have fx1 : w5.frozen? ⟨w.heap.size, 1, none⟩ = false := free_of_row HG5.out
      have fx2 : w5.frozen? ⟨w.heap.size, 2, none⟩ = false := free_of_row HG5.out
      have fx3 : w5.frozen? ⟨w.heap.size, 3, none⟩ = false := free_of_row HG5.out
      go_wp2_with fail
      obtain ⟨s4, m7⟩ := fin4 (.int .i8 k) (.int .i64 n) (.string b) (.int .i64 a) HG5.out HB5.out
      generalize ((((w5.setCell ⟨w.heap.size, 0, none⟩ (.int .i8 k)).setCell ⟨w.heap.size, 1, none⟩ (.int .i64 n)).setCell ⟨w.heap.size, 2, none⟩ (.string b)).setCell ⟨w.heap.size, 3, none⟩ (.int .i64 a)) = w9 at s4 m7 ⊢
      clear x0 x1 x2 x3 fx0 fx1 fx2 fx3
      have x0 : w9.cell? ⟨w.heap.size, 0, none⟩ = some (.int .i8 k) := cell_of_row s4 rfl
      have x1 : w9.cell? ⟨w.heap.size, 1, none⟩ = some (.int .i64 n) := cell_of_row s4 rfl
      have x2 : w9.cell? ⟨w.heap.size, 2, none⟩ = some (.string b) := cell_of_row s4 rfl
      have x3 : w9.cell? ⟨w.heap.size, 3, none⟩ = some (.int .i64 a) := cell_of_row s4 rfl
      have HM7 := Lib.hid m7
      clear s4 m7
      refine bodyPost_ret (v := .tuple #[.agg #[.int .i8 k, .int .i64 n, .string b, .int .i64 a], .int .i64 len, .int .i64 er]) (by simp [results, Tryd.f13, go_sem, x0, x1, x2, x3]) rfl ⟨by rw [HR.out, HRR.out], HM7.out⟩
  · have hd := hcast _ hdg
    have HR : Hid (T = (intR s.data.toList).tup s.data.toList) := by show _ = _; rw [hT]; congr 1; rw [hc]; exact tok_dig hdg
    clear hT hc hcast hdg
    go_enter Tryd.func13, Tryd.ntmps13
    go_wp2_with fail
    generalize w.alloc (.cells #[.int .i8 0, .int .i64 0, .string ⟨#[]⟩, .int .i64 0] 25) = w2 at HB2 HG2 HE2 ⊢
    refine (sdigit_any _ w2).mono ?_
    rintro e w3 ⟨rfl, hq⟩
    subst w3
    rw [hd]
    go_wp2_with fail
    obtain ⟨k, n, b, a, len, er, hR⟩ := SR.tup_is s.data.toList (intR s.data.toList)
    have HRR := Lib.hid hR
    refine (sinteger_any s w2 (by omega)).mono ?_
    rintro e w5 ⟨rfl, b5⟩
    rw [hR]
    clear hR
    have HB5 := Lib.hid (HB2.out.trans (b5.mono HB2.out.size))
    have HG5 := Lib.hid ((b5.block _ (heap_lt HG2.out)).trans HG2.out)
    have HE5 := Lib.hid (HE2.out.under b5)
    clear b5
    have x0 : w5.cell? ⟨w.heap.size, 0, none⟩ = some (.int .i8 0) := cell_of_row HG5.out rfl
    have x1 : w5.cell? ⟨w.heap.size, 1, none⟩ = some (.int .i64 0) := cell_of_row HG5.out rfl
    have x2 : w5.cell? ⟨w.heap.size, 2, none⟩ = some (.string ⟨#[]⟩) := cell_of_row HG5.out rfl
    have x3 : w5.cell? ⟨w.heap.size, 3, none⟩ = some (.int .i64 0) := cell_of_row HG5.out rfl
    have fx0 : w5.frozen? ⟨w.heap.size, 0, none⟩ = false := free_of_row HG5.out
    have fx1 : w5.frozen? ⟨w.heap.size, 1, none⟩ = false := free_of_row HG5.out
    have fx2 : w5.frozen? ⟨w.heap.size, 2, none⟩ = false := free_of_row HG5.out
    have fx3 : w5.frozen? ⟨w.heap.size, 3, none⟩ = false := free_of_row HG5.out
    go_wp2_with fail
    obtain ⟨s4, m7⟩ := fin4 (.int .i8 k) (.int .i64 n) (.string b) (.int .i64 a) HG5.out HB5.out
    generalize ((((w5.setCell ⟨w.heap.size, 0, none⟩ (.int .i8 k)).setCell ⟨w.heap.size, 1, none⟩ (.int .i64 n)).setCell ⟨w.heap.size, 2, none⟩ (.string b)).setCell ⟨w.heap.size, 3, none⟩ (.int .i64 a)) = w9 at s4 m7 ⊢
    clear x0 x1 x2 x3 fx0 fx1 fx2 fx3
    have x0 : w9.cell? ⟨w.heap.size, 0, none⟩ = some (.int .i8 k) := cell_of_row s4 rfl
    have x1 : w9.cell? ⟨w.heap.size, 1, none⟩ = some (.int .i64 n) := cell_of_row s4 rfl
    have x2 : w9.cell? ⟨w.heap.size, 2, none⟩ = some (.string b) := cell_of_row s4 rfl
    have x3 : w9.cell? ⟨w.heap.size, 3, none⟩ = some (.int .i64 a) := cell_of_row s4 rfl
    have HM7 := Lib.hid m7
    clear s4 m7
    refine bodyPost_ret (v := .tuple #[.agg #[.int .i8 k, .int .i64 n, .string b, .int .i64 a], .int .i64 len, .int .i64 er]) (by simp [results, Tryd.f13, go_sem, x0, x1, x2, x3]) rfl ⟨by rw [HR.out, HRR.out], HM7.out⟩
end Go.Proofs.YtkaijnbefbggeaaDoor
