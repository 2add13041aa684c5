/- The program's own scan.digit, Blank: contracts. -/
import Derived.Test.YtkaijnbefbggeaaDoorScanP
import Derived.Test.YtkaijnbefbggeaaDoorMod
import Derived.LoopTactic
import Derived.LoopNIn
set_option linter.unusedVariables false
namespace Go.Proofs.YtkaijnbefbggeaaDoor
open Go.RowKit

theorem sdigit_any (b : Int) (w : World) : Calls Tryd.prog 20 #[.int .u8 b] w fun e w' => e = .returned (.bool (decide (48 ≤ b ∧ b ≤ 57))) ∧ w = w' := by
  by_cases h1 : 48 ≤ b
  · by_cases h2 : b ≤ 57
    · go_enter Tryd.func20, Tryd.ntmps20
      go_wp2
      go_ret
      exact ⟨ret_bool (by simp [h1, h2]), rfl⟩
    · go_enter Tryd.func20, Tryd.ntmps20
      go_wp2
      go_ret
      exact ⟨ret_bool (by simp [h2]), rfl⟩
  · go_enter Tryd.func20, Tryd.ntmps20
    go_wp2
    go_ret
    exact ⟨ret_bool (by simp; omega), rfl⟩

theorem blk_lf (s : ByteArray) (k : Nat) (h : k < s.size) (c : Bool) (e : (s[k]'h).toNat = 10) : blk c (s.data.toList.drop k) = blk false (s.data.toList.drop (k + 1)) + 1 := by
  rw [drop_cons (l := s.data.toList) (k := k) (by rw [size_list]; exact h)]
  have e' : (s.data[k]'h).toNat = 10 := e
  cases c <;> simp [blk, e']
theorem blk_in (s : ByteArray) (k : Nat) (h : k < s.size) (e : ¬ (s[k]'h).toNat = 10) : blk true (s.data.toList.drop k) = blk true (s.data.toList.drop (k + 1)) + 1 := by
  rw [drop_cons (l := s.data.toList) (k := k) (by rw [size_list]; exact h)]
  have e' : ¬ (s.data[k]'h).toNat = 10 := e
  simp [blk, e']
theorem blk_sp (s : ByteArray) (k : Nat) (h : k < s.size) (e : (s[k]'h).toNat = 32 ∨ (s[k]'h).toNat = 9 ∨ (s[k]'h).toNat = 13) : blk false (s.data.toList.drop k) = blk false (s.data.toList.drop (k + 1)) + 1 := by
  rw [drop_cons (l := s.data.toList) (k := k) (by rw [size_list]; exact h)]
  have e' : (s.data[k]'h).toNat = 32 ∨ (s.data[k]'h).toNat = 9 ∨ (s.data[k]'h).toNat = 13 := e
  rcases e' with e' | e' | e' <;> simp [blk, e']
theorem blk_pc (s : ByteArray) (k : Nat) (h : k < s.size) (e : (s[k]'h).toNat = 37) : blk false (s.data.toList.drop k) = blk true (s.data.toList.drop (k + 1)) + 1 := by
  rw [drop_cons (l := s.data.toList) (k := k) (by rw [size_list]; exact h)]
  have e' : (s.data[k]'h).toNat = 37 := e
  simp [blk, e']
theorem blk_no (s : ByteArray) (k : Nat) (h : k < s.size) (e : ¬ (s[k]'h).toNat = 10 ∧ ¬ (s[k]'h).toNat = 32 ∧ ¬ (s[k]'h).toNat = 9 ∧ ¬ (s[k]'h).toNat = 13 ∧ ¬ (s[k]'h).toNat = 37) : blk false (s.data.toList.drop k) = 0 := by
  rw [drop_cons (l := s.data.toList) (k := k) (by rw [size_list]; exact h)]
  have e' : ¬ (s.data[k]'h).toNat = 10 ∧ ¬ (s.data[k]'h).toNat = 32 ∧ ¬ (s.data[k]'h).toNat = 9 ∧ ¬ (s.data[k]'h).toNat = 13 ∧ ¬ (s.data[k]'h).toNat = 37 := e
  obtain ⟨a, b, c, d, f⟩ := e'
  simp [blk, a, b, c, d, f]
theorem blk_end (s : ByteArray) (k : Nat) (h : s.size ≤ k) (c : Bool) : blk c (s.data.toList.drop k) = 0 := by
  rw [List.drop_eq_nil_of_le (by rw [size_list]; exact h)]
  cases c <;> rfl

set_option maxHeartbeats 4000000 in
theorem sBlank_any (s : ByteArray) (a : Int) (w : World) (hs : s.size ≤ 1000000) : Calls Tryd.prog 9 #[.string s, .int .i64 a] w fun e w' => e = .returned (.int .i64 (blankR s a)) ∧ w = w' := by
  by_cases hn : a < 0
  · have HV : Hid (blankR s a = a) := by show _ = _; unfold blankR; rw [if_pos (.inl hn)]
    go_enter Tryd.func9, Tryd.ntmps9
    go_wp2
    go_ret
    exact ⟨ret_int (by rw [HV.out]), rfl⟩
  obtain ⟨k, rfl⟩ : ∃ k : Nat, a = k := ⟨a.toNat, by omega⟩
  by_cases hgt : s.size < k
  · have HV : Hid (blankR s k = k) := by show _ = _; unfold blankR; rw [if_pos (.inr (by omega))]
    go_enter Tryd.func9, Tryd.ntmps9
    go_wp2
    go_ret
    exact ⟨ret_int (by rw [HV.out]), rfl⟩
  obtain ⟨R, hR⟩ : ∃ R, R = k + blk false (s.data.toList.drop k) := ⟨_, rfl⟩
  have HV : Hid (blankR s k = (R : Int)) := by show _ = _; unfold blankR; rw [if_neg (by omega), Int.toNat_natCast, hR]
  have H0 : Hid (k + blk false (s.data.toList.drop k) = R) := hR.symm
  clear hR
  go_enter Tryd.func9, Tryd.ntmps9
  go_wp2
  go_loop [5, 21] (fun c i => ∃ (b : Bool) (j : Nat), c = .bool b ∧ i = .int .i64 j ∧ k + j ≤ s.size ∧ Hid (k + j + blk b (s.data.toList.drop (k + j)) = R)) (fun _ i => s.size - (intOf i).toNat)
  case atStart => exact ⟨false, 0, rfl, rfl, by omega, H0⟩
  case round =>
    obtain ⟨b, j, rfl, rfl, hj, HR⟩ := hrel
    by_cases hlt : k + j < s.size
    · cases b10 : (((s[k + j]'hlt).toNat : Int) == 10)
      case true =>
        have HN : Hid (k + (j + 1) + blk false (s.data.toList.drop (k + (j + 1))) = R) := by
          show _ = _
          rw [← HR.out, blk_lf s (k + j) hlt b (by have h5 := eq_of_beq b10; omega)]
          show k + (j + 1) + blk false (s.data.toList.drop (k + j + 1)) = _
          omega
        clear HR
        go_wp2
        go_round
        case rel => exact ⟨false, j + 1, rfl, by go_num, by omega, HN⟩
        case measure => simp [intOf]; omega
      case false =>
        have n10 : ¬ (s[k + j]'hlt).toNat = 10 := by have h5 := beq_eq_false_iff_ne.1 b10; omega
        have N10 := Lib.hid n10
        clear n10
        cases b
        case true =>
          have HN : Hid (k + (j + 1) + blk true (s.data.toList.drop (k + (j + 1))) = R) := by
            show _ = _
            rw [← HR.out, blk_in s (k + j) hlt N10.out]
            show k + (j + 1) + blk true (s.data.toList.drop (k + j + 1)) = _
            omega
          clear HR
          go_wp2
          go_round
          case rel => exact ⟨true, j + 1, rfl, by go_num, by omega, HN⟩
          case measure => simp [intOf]; omega
        case false =>
          cases b32 : (((s[k + j]'hlt).toNat : Int) == 32)
          case true =>
            have E : Hid ((s[k + j]'hlt).toNat = 32) := by have h5 := eq_of_beq b32; show _ = _; omega
            have HN : Hid (k + (j + 1) + blk false (s.data.toList.drop (k + (j + 1))) = R) := by
              show _ = _
              rw [← HR.out, blk_sp s (k + j) hlt (.inl E.out)]
              show k + (j + 1) + blk false (s.data.toList.drop (k + j + 1)) = _
              omega
            clear HR
            go_wp2
            go_round
            case rel => exact ⟨false, j + 1, rfl, by go_num, by omega, HN⟩
            case measure => simp [intOf]; omega
          case false =>
            have N32 : Hid (¬ (s[k + j]'hlt).toNat = 32) := by have h5 := beq_eq_false_iff_ne.1 b32; show ¬ _; omega
            cases b9 : (((s[k + j]'hlt).toNat : Int) == 9)
            case true =>
              have E : Hid ((s[k + j]'hlt).toNat = 9) := by have h5 := eq_of_beq b9; show _ = _; omega
              have HN : Hid (k + (j + 1) + blk false (s.data.toList.drop (k + (j + 1))) = R) := by
                show _ = _
                rw [← HR.out, blk_sp s (k + j) hlt (.inr (.inl E.out))]
                show k + (j + 1) + blk false (s.data.toList.drop (k + j + 1)) = _
                omega
              clear HR
              go_wp2
              go_round
              case rel => exact ⟨false, j + 1, rfl, by go_num, by omega, HN⟩
              case measure => simp [intOf]; omega
            case false =>
              have N9 : Hid (¬ (s[k + j]'hlt).toNat = 9) := by have h5 := beq_eq_false_iff_ne.1 b9; show ¬ _; omega
              cases b13 : (((s[k + j]'hlt).toNat : Int) == 13)
              case true =>
                have E : Hid ((s[k + j]'hlt).toNat = 13) := by have h5 := eq_of_beq b13; show _ = _; omega
                have HN : Hid (k + (j + 1) + blk false (s.data.toList.drop (k + (j + 1))) = R) := by
                  show _ = _
                  rw [← HR.out, blk_sp s (k + j) hlt (.inr (.inr E.out))]
                  show k + (j + 1) + blk false (s.data.toList.drop (k + j + 1)) = _
                  omega
                clear HR
                go_wp2
                go_round
                case rel => exact ⟨false, j + 1, rfl, by go_num, by omega, HN⟩
                case measure => simp [intOf]; omega
              case false =>
                have N13 : Hid (¬ (s[k + j]'hlt).toNat = 13) := by have h5 := beq_eq_false_iff_ne.1 b13; show ¬ _; omega
                cases b37 : (((s[k + j]'hlt).toNat : Int) == 37)
                case true =>
                  have E : Hid ((s[k + j]'hlt).toNat = 37) := by have h5 := eq_of_beq b37; show _ = _; omega
                  have HN : Hid (k + (j + 1) + blk true (s.data.toList.drop (k + (j + 1))) = R) := by
                    show _ = _
                    rw [← HR.out, blk_pc s (k + j) hlt E.out]
                    show k + (j + 1) + blk true (s.data.toList.drop (k + j + 1)) = _
                    omega
                  clear HR
                  go_wp2
                  go_round
                  case rel => exact ⟨true, j + 1, rfl, by go_num, by omega, HN⟩
                  case measure => simp [intOf]; omega
                case false =>
                  have N37 : Hid (¬ (s[k + j]'hlt).toNat = 37) := by have h5 := beq_eq_false_iff_ne.1 b37; show ¬ _; omega
                  have HZ : Hid (k + j = R) := by
                    show _ = _
                    rw [← HR.out, blk_no s (k + j) hlt ⟨N10.out, N32.out, N9.out, N13.out, N37.out⟩]
                    rfl
                  clear HR
                  go_wp2
                  go_ret
                  exact ⟨ret_int (by rw [HV.out, ← HZ.out]; omega), rfl⟩
    · have HZ : Hid (k + j = R) := by
        show _ = _
        rw [← HR.out, blk_end s (k + j) (by omega)]
        rfl
      clear HR
      go_wp2
      go_ret
      exact ⟨ret_int (by rw [HV.out, ← HZ.out]; omega), rfl⟩

/-- A token's box, stored into. -/
theorem fin4 {w V : World} {T : TypeId} {a0 a1 a2 a3 : Value} (c0 c1 c2 c3 : Value) (h : V.heap[w.heap.size]? = some (.cells #[a0, a1, a2, a3] T (0, 0))) (b : Below w.heap.size w V) :
    ((((V.setCell ⟨w.heap.size, 0, none⟩ c0).setCell ⟨w.heap.size, 1, none⟩ c1).setCell ⟨w.heap.size, 2, none⟩ c2).setCell ⟨w.heap.size, 3, none⟩ c3).heap[w.heap.size]? = some (.cells #[c0, c1, c2, c3] T (0, 0)) ∧
    Below w.heap.size w ((((V.setCell ⟨w.heap.size, 0, none⟩ c0).setCell ⟨w.heap.size, 1, none⟩ c1).setCell ⟨w.heap.size, 2, none⟩ c2).setCell ⟨w.heap.size, 3, none⟩ c3) := by
  have m : ∀ (W : World) (i : Nat) (c : Value), Mod (fun k => k = w.heap.size) W (W.setCell ⟨w.heap.size, i, none⟩ c) := fun W i c => Mod.setCell _ _ _ (.inl rfl)
  exact ⟨set_row c3 (i := 3) (set_row c2 (i := 2) (set_row c1 (i := 1) (set_row c0 (i := 0) h))), b.trans (((((m _ 0 _).trans (m _ 1 _) (fun _ _ h => h)).trans (m _ 2 _) (fun _ _ h => h)).trans (m _ 3 _) (fun _ _ h => h)).below b.size (fun k e => Nat.le_of_eq e.symm))⟩

/-- What the landed functions answer of a token ahead: its kind, number, bytes; how many bytes; the flaw. -/
def SR.tup (l : List UInt8) : SR → Value
  | .bad e => .tuple #[tk0.v, .int .i64 0, .int .i64 e]
  | .tok k n len sl => .tuple #[Tk.v ⟨k, n, ⟨(l.take sl).toArray⟩, 0⟩, .int .i64 len, .int .i64 0]
def intR (l : List UInt8) : SR := if 576460752303423488 < vl l (dg l) then .bad 11 else .tok 2 (vl l (dg l)) (dg l) 0
theorem vl_le_step (l : List UInt8) (k : Nat) (h : k < l.length) : vl l k ≤ vl l (k + 1) := by rw [vl_succ l k h]; omega
theorem vl_mono (l : List UInt8) : ∀ (d k : Nat), k + d ≤ l.length → vl l k ≤ vl l (k + d)
  | 0, _, _ => Nat.le_refl _
  | d + 1, k, h => Nat.le_trans (vl_mono l d k (by omega)) (vl_le_step l (k + d) (by omega))
theorem intR_big {l : List UInt8} {k : Nat} (hk : k ≤ dg l) (hb : 576460752303423488 < vl l k) : intR l = .bad 11 := by
  have h := vl_mono l (dg l - k) k (by have := dg_le l; omega)
  rw [show k + (dg l - k) = dg l by omega] at h
  unfold intR; rw [if_pos (by omega)]
theorem intR_ok {l : List UInt8} (hb : ¬ 576460752303423488 < vl l (dg l)) : intR l = .tok 2 (vl l (dg l)) (dg l) 0 := by unfold intR; rw [if_neg hb]

set_option maxHeartbeats 4000000 in
theorem sinteger_any (s : ByteArray) (w : World) (hs : s.size ≤ 1000000) : Calls Tryd.prog 21 #[.string s] w fun e w' => e = .returned ((intR s.data.toList).tup s.data.toList) ∧ Below w.heap.size w w' := by
  have hdl : dg s.data.toList ≤ s.size := by rw [← size_list]; exact dg_le _
  obtain ⟨w2, hw2⟩ : ∃ w2, w2 = w.alloc (.cells #[.int .i8 0, .int .i64 0, .string ⟨#[]⟩, .int .i64 0] 25) := ⟨_, rfl⟩
  have b2 : Below w.heap.size w w2 := by rw [hw2]; exact (Below.refl _ _).alloc (Nat.le_refl _) _
  have g2 : w2.heap[w.heap.size]? = some (.cells #[.int .i8 0, .int .i64 0, .string ⟨#[]⟩, .int .i64 0] 25 (0, 0)) := by rw [hw2]; exact block_alloc _ _
  have HB2 := Lib.hid b2
  have HG2 := Lib.hid g2
  go_enter Tryd.func21, Tryd.ntmps21
  go_wp2_with fail
  rw [← hw2]
  clear hw2 b2 g2
  go_loopw [5, 9] (fun nv kv wr => ∃ j q : Nat, nv = .int .i64 q ∧ kv = .int .i64 j ∧ j ≤ dg s.data.toList ∧ Hid (q = vl s.data.toList j) ∧ q ≤ 576460752303423488 ∧ wr = w2) (fun _ kv _ => s.size - (intOf kv).toNat)
  case atStart => exact ⟨0, 0, rfl, rfl, Nat.zero_le _, rfl, by omega, rfl⟩
  case round =>
    obtain ⟨j, q, rfl, rfl, hj, HQ, hqb, hwr⟩ := hrel
    subst wr
    have x0 : w2.cell? ⟨w.heap.size, 0, none⟩ = some (.int .i8 0) := cell_of_row HG2.out rfl
    have x1 : w2.cell? ⟨w.heap.size, 1, none⟩ = some (.int .i64 0) := cell_of_row HG2.out rfl
    have x2 : w2.cell? ⟨w.heap.size, 2, none⟩ = some (.string ⟨#[]⟩) := cell_of_row HG2.out rfl
    have x3 : w2.cell? ⟨w.heap.size, 3, none⟩ = some (.int .i64 0) := cell_of_row HG2.out rfl
    have fx0 : w2.frozen? ⟨w.heap.size, 0, none⟩ = false := free_of_row HG2.out
    have fx1 : w2.frozen? ⟨w.heap.size, 1, none⟩ = false := free_of_row HG2.out
    have fx2 : w2.frozen? ⟨w.heap.size, 2, none⟩ = false := free_of_row HG2.out
    have fx3 : w2.frozen? ⟨w.heap.size, 3, none⟩ = false := free_of_row HG2.out
    by_cases hlt : j < s.size
    · cases hd : decide (48 ≤ ((s[j]'hlt).toNat : Int) ∧ ((s[j]'hlt).toNat : Int) ≤ 57)
      case true =>
        have hdd : 48 ≤ (s[j]'hlt).toNat ∧ (s[j]'hlt).toNat ≤ 57 := by have h5 := of_decide_eq_true hd; omega
        have hjd : j + 1 ≤ dg s.data.toList := dg_at s.data.toList j (by rw [size_list]; exact hlt) hj (by show decide _ = true; exact decide_eq_true hdd)
        have hvs := vl_succ s.data.toList j (by rw [size_list]; exact hlt)
        have hx : (s.data.toList[j]'(by rw [size_list]; exact hlt)).toNat = (s[j]'hlt).toNat := rfl
        rw [hx, ← HQ.out] at hvs
        have HV := Lib.hid hvs
        have HDD := Lib.hid hdd
        have HJD := Lib.hid hjd
        clear hvs hx hdd hjd
        go_wp2_with fail
        refine (sdigit_any _ _).mono ?_
        rintro e w3 ⟨rfl, rfl⟩
        rw [hd]
        go_wp2_with fail
        · have hbig : 576460752303423488 < vl s.data.toList (j + 1) := by have h1 := HV.out; have h2 := HDD.out; omega
          obtain ⟨s4, m7⟩ := fin4 (.int .i8 0) (.int .i64 0) (.string ⟨#[]⟩) (.int .i64 0) HG2.out HB2.out
          generalize ((((w2.setCell ⟨w.heap.size, 0, none⟩ (.int .i8 0)).setCell ⟨w.heap.size, 1, none⟩ (.int .i64 0)).setCell ⟨w.heap.size, 2, none⟩ (.string ⟨#[]⟩)).setCell ⟨w.heap.size, 3, none⟩ (.int .i64 0)) = w7 at s4 m7 ⊢
          clear x0 x1 x2 x3 fx0 fx1 fx2 fx3
          have x0 : w7.cell? ⟨w.heap.size, 0, none⟩ = some (.int .i8 0) := cell_of_row s4 rfl
          have x1 : w7.cell? ⟨w.heap.size, 1, none⟩ = some (.int .i64 0) := cell_of_row s4 rfl
          have x2 : w7.cell? ⟨w.heap.size, 2, none⟩ = some (.string ⟨#[]⟩) := cell_of_row s4 rfl
          have x3 : w7.cell? ⟨w.heap.size, 3, none⟩ = some (.int .i64 0) := cell_of_row s4 rfl
          have HM7 := Lib.hid m7
          clear s4 m7
          refine bodyPost_ret (v := SR.tup s.data.toList (.bad 11)) (by simp [results, Tryd.f21, go_sem, x0, x1, x2, x3, SR.tup, Tk.v, tk0]) rfl ⟨by rw [intR_big HJD.out hbig], HM7.out⟩
        · go_roundw
          case rel => exact ⟨j + 1, q * 10 + ((s[j]'hlt).toNat - 48), by congr 1; have h2 := HDD.out; omega, by go_num, HJD.out, HV.out.symm, by have h1 := HDD.out; omega, trivial⟩
          case measure => simp [intOf]; omega
      case false =>
        have hdd : ¬ (48 ≤ (s[j]'hlt).toNat ∧ (s[j]'hlt).toNat ≤ 57) := fun h => by have h5 := of_decide_eq_false hd; omega
        have hst := dg_stop s.data.toList j (by rw [size_list]; exact hlt) hj (by show decide _ = false; exact decide_eq_false hdd)
        have HE : Hid (j = dg s.data.toList) := hst.symm
        clear hst hdd
        go_wp2_with fail
        refine (sdigit_any _ _).mono ?_
        rintro e w3 ⟨rfl, rfl⟩
        rw [hd]
        go_wp2_with fail
        obtain ⟨s4, m7⟩ := fin4 (.int .i8 2) (.int .i64 q) (.string ⟨#[]⟩) (.int .i64 0) HG2.out HB2.out
        generalize ((((w2.setCell ⟨w.heap.size, 0, none⟩ (.int .i8 2)).setCell ⟨w.heap.size, 1, none⟩ (.int .i64 q)).setCell ⟨w.heap.size, 2, none⟩ (.string ⟨#[]⟩)).setCell ⟨w.heap.size, 3, none⟩ (.int .i64 0)) = w7 at s4 m7 ⊢
        clear x0 x1 x2 x3 fx0 fx1 fx2 fx3
        have x0 : w7.cell? ⟨w.heap.size, 0, none⟩ = some (.int .i8 2) := cell_of_row s4 rfl
        have x1 : w7.cell? ⟨w.heap.size, 1, none⟩ = some (.int .i64 q) := cell_of_row s4 rfl
        have x2 : w7.cell? ⟨w.heap.size, 2, none⟩ = some (.string ⟨#[]⟩) := cell_of_row s4 rfl
        have x3 : w7.cell? ⟨w.heap.size, 3, none⟩ = some (.int .i64 0) := cell_of_row s4 rfl
        have HM7 := Lib.hid m7
        clear s4 m7
        refine bodyPost_ret (v := SR.tup s.data.toList (.tok 2 q j 0)) (by simp [results, Tryd.f21, go_sem, x0, x1, x2, x3, SR.tup, Tk.v]) rfl ⟨by rw [intR_ok (by rw [← HE.out, ← HQ.out]; omega), ← HE.out, ← HQ.out], HM7.out⟩
    · have HE : Hid (j = dg s.data.toList) := by show _ = _; omega
      have HS : Hid (j = s.size) := by show _ = _; omega
      go_wp2_with fail
      obtain ⟨s4, m7⟩ := fin4 (.int .i8 2) (.int .i64 q) (.string ⟨#[]⟩) (.int .i64 0) HG2.out HB2.out
      generalize ((((w2.setCell ⟨w.heap.size, 0, none⟩ (.int .i8 2)).setCell ⟨w.heap.size, 1, none⟩ (.int .i64 q)).setCell ⟨w.heap.size, 2, none⟩ (.string ⟨#[]⟩)).setCell ⟨w.heap.size, 3, none⟩ (.int .i64 0)) = w7 at s4 m7 ⊢
      clear x0 x1 x2 x3 fx0 fx1 fx2 fx3
      have x0 : w7.cell? ⟨w.heap.size, 0, none⟩ = some (.int .i8 2) := cell_of_row s4 rfl
      have x1 : w7.cell? ⟨w.heap.size, 1, none⟩ = some (.int .i64 q) := cell_of_row s4 rfl
      have x2 : w7.cell? ⟨w.heap.size, 2, none⟩ = some (.string ⟨#[]⟩) := cell_of_row s4 rfl
      have x3 : w7.cell? ⟨w.heap.size, 3, none⟩ = some (.int .i64 0) := cell_of_row s4 rfl
      have HM7 := Lib.hid m7
      clear s4 m7
      refine bodyPost_ret (v := SR.tup s.data.toList (.tok 2 q s.size 0)) (by simp [results, Tryd.f21, go_sem, x0, x1, x2, x3, SR.tup, Tk.v]) rfl ⟨by rw [intR_ok (by rw [← HE.out, ← HQ.out]; omega), ← HE.out, ← HQ.out, HS.out], HM7.out⟩
end Go.Proofs.YtkaijnbefbggeaaDoor
