/- Layer 7: the program's same, Same: contracts. -/
import Derived.Test.YtcallgoglnkkiaaGreatDoorPub7
import Derived.Test.YtcallgoglnkkiaaGreatDoorAstS
import Derived.Test.YtcallgoglnkkiaaGreatDoorWakes07
set_option linter.unusedVariables false
namespace Go.Proofs.YtcallgoglnkkiaaGreatDoor
open Go.RowKit

theorem eqTs_len : ∀ {l m : List Tm}, ¬ l.length = m.length → eqTs l m = false
  | [], [], h => (h rfl).elim
  | [], y :: m, _ => rfl
  | x :: l, [], _ => rfl
  | x :: l, y :: m, h => by rw [eqTs, eqTs_len (l := l) (m := m) (fun e => h (by simp [e]))]; simp
theorem eqTs_no : ∀ {l m : List Tm} {j : Nat} {x y : Tm}, l[j]? = some x → m[j]? = some y → eqT x y = false → eqTs l m = false
  | [], _, _, _, _, h, _, _ => by simp at h
  | _ :: _, [], _, _, _, _, h, _ => by simp at h
  | a :: l, b :: m, 0, x, y, h1, h2, h => by
    simp at h1 h2
    subst h1 h2
    rw [eqTs, h]; rfl
  | a :: l, b :: m, j + 1, x, y, h1, h2, h => by
    rw [eqTs, eqTs_no (l := l) (m := m) (j := j) (by simpa using h1) (by simpa using h2) h]; simp
theorem eqTs_snoc : ∀ {l m : List Tm} {j : Nat} {x y : Tm}, l[j]? = some x → m[j]? = some y → eqTs (l.take j) (m.take j) = true → eqT x y = true → eqTs (l.take (j + 1)) (m.take (j + 1)) = true
  | [], _, _, _, _, h, _, _, _ => by simp at h
  | _ :: _, [], _, _, _, _, h, _, _ => by simp at h
  | a :: l, b :: m, 0, x, y, h1, h2, _, h => by
    simp at h1 h2
    subst h1 h2
    simp [eqTs, h]
  | a :: l, b :: m, j + 1, x, y, h1, h2, h3, h => by
    rw [List.take_succ_cons, List.take_succ_cons, eqTs, Bool.and_eq_true] at h3 ⊢
    exact ⟨h3.1, eqTs_snoc (by simpa using h1) (by simpa using h2) h3.2 h⟩
/-- Two boxes of trees. -/
structure NB2 (w V : World) (c d : Array Value) : Prop where
  below : Below w.heap.size w V
  bx : V.heap[w.heap.size]? = some (.cells c 25 (0, 0))
  by_ : V.heap[w.heap.size + 1]? = some (.cells d 25 (0, 0))
theorem NB2.under {w V V' : World} {c d : Array Value} (h : NB2 w V c d) (b : Below V.heap.size V V') : NB2 w V' c d :=
  ⟨h.below.trans (b.mono h.below.size), (b.block _ (heap_lt h.bx)).trans h.bx, (b.block _ (heap_lt h.by_)).trans h.by_⟩
theorem nb2_of (w : World) (c d : Array Value) : NB2 w ((w.alloc (.cells c 25)).alloc (.cells d 25)) c d := by
  obtain ⟨a1, z1⟩ := here_of (.cells c 25) (rfl : w.heap.size = w.heap.size)
  obtain ⟨a2, z2⟩ := here_of (.cells d 25) z1
  exact ⟨((Below.refl _ _).alloc (Nat.le_refl _) _).alloc (by simp) _, there_of _ a1, a2⟩

set_option maxHeartbeats 8000000 in
set_option maxRecDepth 100000 in
theorem same_any7 (x : Tm) : ∀ (y : Tm) (u v : Value) (w : World), TmAt (· < w.heap.size) w x u → TmAt (· < w.heap.size) w y v →
    Calls Tryz.prog 27 #[u, v] w fun e w' => e = .returned (.bool (eqT x y)) ∧ Below w.heap.size w w' := by
  induction x using Tm.ind with
  | h k n s t l ih =>
    intro y u v w hT hU
    obtain ⟨k', n', s', t', l'⟩ := y
    obtain ⟨A, cap, rfl, hR, hk, hn, hs, ht⟩ := hT.parts
    obtain ⟨A', cap', rfl, hR', hk', hn', hs', ht'⟩ := hU.parts
    have hlen := hR.max
    have hlen' := hR'.max
    unfold maxLen at hlen hlen'
    obtain ⟨R, hRR⟩ : ∃ R, R = eqT (.mk k n s t l) (.mk k' n' s' t' l') := ⟨_, rfl⟩
    have hR0 := hRR
    rw [eqT] at hRR
    have HR := Lib.hid hRR
    rw [← hR0]
    have HIH := Lib.hid ih
    have HA := Lib.hid hR
    have HA' := Lib.hid hR'
    clear hRR hR0 ih hR hR' hT hU
    by_cases h0 : k = k'
    rotate_left
    · skip
      have HB := Lib.hid (nb2_of w #[.int .i8 k, .int .i64 n, .string s, .string t, .slice A l.length cap] #[.int .i8 k', .int .i64 n', .string s', .string t', .slice A' l'.length cap'])
      go_enter Tryz.func27, Tryz.ntmps27
      go_upto_region 1 with fail
      generalize (w.alloc (.cells #[.int .i8 k, .int .i64 n, .string s, .string t, .slice A l.length cap] 25)).alloc (.cells #[.int .i8 k', .int .i64 n', .string s', .string t', .slice A' l'.length cap'] 25) = w1 at HB ⊢
      have x0 : w1.cell? ⟨w.heap.size, 0, none⟩ = some (.int .i8 k) := cell_of_row HB.out.bx rfl
      have x1 : w1.cell? ⟨w.heap.size, 1, none⟩ = some (.int .i64 n) := cell_of_row HB.out.bx rfl
      have x2 : w1.cell? ⟨w.heap.size, 2, none⟩ = some (.string s) := cell_of_row HB.out.bx rfl
      have x3 : w1.cell? ⟨w.heap.size, 3, none⟩ = some (.string t) := cell_of_row HB.out.bx rfl
      have x4 : w1.cell? ⟨w.heap.size, 4, none⟩ = some (.slice A l.length cap) := cell_of_row HB.out.bx rfl
      have y0 : w1.cell? ⟨w.heap.size + 1, 0, none⟩ = some (.int .i8 k') := cell_of_row HB.out.by_ rfl
      have y1 : w1.cell? ⟨w.heap.size + 1, 1, none⟩ = some (.int .i64 n') := cell_of_row HB.out.by_ rfl
      have y2 : w1.cell? ⟨w.heap.size + 1, 2, none⟩ = some (.string s') := cell_of_row HB.out.by_ rfl
      have y3 : w1.cell? ⟨w.heap.size + 1, 3, none⟩ = some (.string t') := cell_of_row HB.out.by_ rfl
      have y4 : w1.cell? ⟨w.heap.size + 1, 4, none⟩ = some (.slice A' l'.length cap') := cell_of_row HB.out.by_ rfl
      go_wp2_with fail
      go_ret
      exact ⟨ret_bool (by rw [HR.out]; rw [show (k == k') = false by simpa using h0]; rfl), HB.out.below⟩
    subst h0
    by_cases h1 : n = n'
    rotate_left
    · skip
      have HB := Lib.hid (nb2_of w #[.int .i8 k, .int .i64 n, .string s, .string t, .slice A l.length cap] #[.int .i8 k, .int .i64 n', .string s', .string t', .slice A' l'.length cap'])
      go_enter Tryz.func27, Tryz.ntmps27
      go_upto_region 1 with fail
      generalize (w.alloc (.cells #[.int .i8 k, .int .i64 n, .string s, .string t, .slice A l.length cap] 25)).alloc (.cells #[.int .i8 k, .int .i64 n', .string s', .string t', .slice A' l'.length cap'] 25) = w1 at HB ⊢
      have x0 : w1.cell? ⟨w.heap.size, 0, none⟩ = some (.int .i8 k) := cell_of_row HB.out.bx rfl
      have x1 : w1.cell? ⟨w.heap.size, 1, none⟩ = some (.int .i64 n) := cell_of_row HB.out.bx rfl
      have x2 : w1.cell? ⟨w.heap.size, 2, none⟩ = some (.string s) := cell_of_row HB.out.bx rfl
      have x3 : w1.cell? ⟨w.heap.size, 3, none⟩ = some (.string t) := cell_of_row HB.out.bx rfl
      have x4 : w1.cell? ⟨w.heap.size, 4, none⟩ = some (.slice A l.length cap) := cell_of_row HB.out.bx rfl
      have y0 : w1.cell? ⟨w.heap.size + 1, 0, none⟩ = some (.int .i8 k) := cell_of_row HB.out.by_ rfl
      have y1 : w1.cell? ⟨w.heap.size + 1, 1, none⟩ = some (.int .i64 n') := cell_of_row HB.out.by_ rfl
      have y2 : w1.cell? ⟨w.heap.size + 1, 2, none⟩ = some (.string s') := cell_of_row HB.out.by_ rfl
      have y3 : w1.cell? ⟨w.heap.size + 1, 3, none⟩ = some (.string t') := cell_of_row HB.out.by_ rfl
      have y4 : w1.cell? ⟨w.heap.size + 1, 4, none⟩ = some (.slice A' l'.length cap') := cell_of_row HB.out.by_ rfl
      go_wp2_with fail
      go_ret
      exact ⟨ret_bool (by rw [HR.out]; rw [show (n == n') = false by simpa using h1]; simp), HB.out.below⟩
    subst h1
    by_cases h2 : s = s'
    rotate_left
    · have h2p : ¬ s.toList = s'.toList := fun h => h2 (bytes_ext.1 (by rw [Go.Lib.toList_data, Go.Lib.toList_data] at h; exact h))
      have HB := Lib.hid (nb2_of w #[.int .i8 k, .int .i64 n, .string s, .string t, .slice A l.length cap] #[.int .i8 k, .int .i64 n, .string s', .string t', .slice A' l'.length cap'])
      go_enter Tryz.func27, Tryz.ntmps27
      go_upto_region 1 with fail
      generalize (w.alloc (.cells #[.int .i8 k, .int .i64 n, .string s, .string t, .slice A l.length cap] 25)).alloc (.cells #[.int .i8 k, .int .i64 n, .string s', .string t', .slice A' l'.length cap'] 25) = w1 at HB ⊢
      have x0 : w1.cell? ⟨w.heap.size, 0, none⟩ = some (.int .i8 k) := cell_of_row HB.out.bx rfl
      have x1 : w1.cell? ⟨w.heap.size, 1, none⟩ = some (.int .i64 n) := cell_of_row HB.out.bx rfl
      have x2 : w1.cell? ⟨w.heap.size, 2, none⟩ = some (.string s) := cell_of_row HB.out.bx rfl
      have x3 : w1.cell? ⟨w.heap.size, 3, none⟩ = some (.string t) := cell_of_row HB.out.bx rfl
      have x4 : w1.cell? ⟨w.heap.size, 4, none⟩ = some (.slice A l.length cap) := cell_of_row HB.out.bx rfl
      have y0 : w1.cell? ⟨w.heap.size + 1, 0, none⟩ = some (.int .i8 k) := cell_of_row HB.out.by_ rfl
      have y1 : w1.cell? ⟨w.heap.size + 1, 1, none⟩ = some (.int .i64 n) := cell_of_row HB.out.by_ rfl
      have y2 : w1.cell? ⟨w.heap.size + 1, 2, none⟩ = some (.string s') := cell_of_row HB.out.by_ rfl
      have y3 : w1.cell? ⟨w.heap.size + 1, 3, none⟩ = some (.string t') := cell_of_row HB.out.by_ rfl
      have y4 : w1.cell? ⟨w.heap.size + 1, 4, none⟩ = some (.slice A' l'.length cap') := cell_of_row HB.out.by_ rfl
      go_wp2_with fail
      go_ret
      exact ⟨ret_bool (by rw [HR.out]; rw [show (s.data.toList == s'.data.toList) = false from beq_eq_false_iff_ne.2 (fun h => h2 (bytes_ext.1 h))]; simp), HB.out.below⟩
    subst h2
    by_cases h3 : t = t'
    rotate_left
    · have h3p : ¬ t.toList = t'.toList := fun h => h3 (bytes_ext.1 (by rw [Go.Lib.toList_data, Go.Lib.toList_data] at h; exact h))
      have HB := Lib.hid (nb2_of w #[.int .i8 k, .int .i64 n, .string s, .string t, .slice A l.length cap] #[.int .i8 k, .int .i64 n, .string s, .string t', .slice A' l'.length cap'])
      go_enter Tryz.func27, Tryz.ntmps27
      go_upto_region 1 with fail
      generalize (w.alloc (.cells #[.int .i8 k, .int .i64 n, .string s, .string t, .slice A l.length cap] 25)).alloc (.cells #[.int .i8 k, .int .i64 n, .string s, .string t', .slice A' l'.length cap'] 25) = w1 at HB ⊢
      have x0 : w1.cell? ⟨w.heap.size, 0, none⟩ = some (.int .i8 k) := cell_of_row HB.out.bx rfl
      have x1 : w1.cell? ⟨w.heap.size, 1, none⟩ = some (.int .i64 n) := cell_of_row HB.out.bx rfl
      have x2 : w1.cell? ⟨w.heap.size, 2, none⟩ = some (.string s) := cell_of_row HB.out.bx rfl
      have x3 : w1.cell? ⟨w.heap.size, 3, none⟩ = some (.string t) := cell_of_row HB.out.bx rfl
      have x4 : w1.cell? ⟨w.heap.size, 4, none⟩ = some (.slice A l.length cap) := cell_of_row HB.out.bx rfl
      have y0 : w1.cell? ⟨w.heap.size + 1, 0, none⟩ = some (.int .i8 k) := cell_of_row HB.out.by_ rfl
      have y1 : w1.cell? ⟨w.heap.size + 1, 1, none⟩ = some (.int .i64 n) := cell_of_row HB.out.by_ rfl
      have y2 : w1.cell? ⟨w.heap.size + 1, 2, none⟩ = some (.string s) := cell_of_row HB.out.by_ rfl
      have y3 : w1.cell? ⟨w.heap.size + 1, 3, none⟩ = some (.string t') := cell_of_row HB.out.by_ rfl
      have y4 : w1.cell? ⟨w.heap.size + 1, 4, none⟩ = some (.slice A' l'.length cap') := cell_of_row HB.out.by_ rfl
      go_wp2_with fail
      go_ret
      exact ⟨ret_bool (by rw [HR.out]; rw [show (t.data.toList == t'.data.toList) = false from beq_eq_false_iff_ne.2 (fun h => h3 (bytes_ext.1 h))]; simp), HB.out.below⟩
    subst h3
    by_cases h4 : l.length = l'.length
    rotate_left
    · have h4p : ¬ (l.length : Int) = l'.length := by omega
      have HB := Lib.hid (nb2_of w #[.int .i8 k, .int .i64 n, .string s, .string t, .slice A l.length cap] #[.int .i8 k, .int .i64 n, .string s, .string t, .slice A' l'.length cap'])
      go_enter Tryz.func27, Tryz.ntmps27
      go_upto_region 1 with fail
      generalize (w.alloc (.cells #[.int .i8 k, .int .i64 n, .string s, .string t, .slice A l.length cap] 25)).alloc (.cells #[.int .i8 k, .int .i64 n, .string s, .string t, .slice A' l'.length cap'] 25) = w1 at HB ⊢
      have x0 : w1.cell? ⟨w.heap.size, 0, none⟩ = some (.int .i8 k) := cell_of_row HB.out.bx rfl
      have x1 : w1.cell? ⟨w.heap.size, 1, none⟩ = some (.int .i64 n) := cell_of_row HB.out.bx rfl
      have x2 : w1.cell? ⟨w.heap.size, 2, none⟩ = some (.string s) := cell_of_row HB.out.bx rfl
      have x3 : w1.cell? ⟨w.heap.size, 3, none⟩ = some (.string t) := cell_of_row HB.out.bx rfl
      have x4 : w1.cell? ⟨w.heap.size, 4, none⟩ = some (.slice A l.length cap) := cell_of_row HB.out.bx rfl
      have y0 : w1.cell? ⟨w.heap.size + 1, 0, none⟩ = some (.int .i8 k) := cell_of_row HB.out.by_ rfl
      have y1 : w1.cell? ⟨w.heap.size + 1, 1, none⟩ = some (.int .i64 n) := cell_of_row HB.out.by_ rfl
      have y2 : w1.cell? ⟨w.heap.size + 1, 2, none⟩ = some (.string s) := cell_of_row HB.out.by_ rfl
      have y3 : w1.cell? ⟨w.heap.size + 1, 3, none⟩ = some (.string t) := cell_of_row HB.out.by_ rfl
      have y4 : w1.cell? ⟨w.heap.size + 1, 4, none⟩ = some (.slice A' l'.length cap') := cell_of_row HB.out.by_ rfl
      go_wp2_with fail
      go_ret
      exact ⟨ret_bool (by rw [HR.out]; rw [eqTs_len h4]; simp), HB.out.below⟩
    have HR2 : Hid (R = eqTs l l') := by show _ = _; rw [HR.out]; simp
    have HL := Lib.hid h4
    obtain ⟨M, hM⟩ : ∃ M, M = l.length := ⟨_, rfl⟩
    have hM' : M = l'.length := by rw [hM, h4]
    have HM1 := Lib.hid hM
    have HM2 := Lib.hid hM'
    rw [← hM] at hlen HA ⊢
    rw [← hM'] at HA' ⊢
    clear h4 hM hM' hlen'
    have HB := Lib.hid (nb2_of w #[.int .i8 k, .int .i64 n, .string s, .string t, .slice A M cap] #[.int .i8 k, .int .i64 n, .string s, .string t, .slice A' M cap'])
    go_enter Tryz.func27, Tryz.ntmps27
    go_upto_region 1 with fail
    generalize (w.alloc (.cells #[.int .i8 k, .int .i64 n, .string s, .string t, .slice A M cap] 25)).alloc (.cells #[.int .i8 k, .int .i64 n, .string s, .string t, .slice A' M cap'] 25) = w1 at HB ⊢
    have x0 : w1.cell? ⟨w.heap.size, 0, none⟩ = some (.int .i8 k) := cell_of_row HB.out.bx rfl
    have x1 : w1.cell? ⟨w.heap.size, 1, none⟩ = some (.int .i64 n) := cell_of_row HB.out.bx rfl
    have x2 : w1.cell? ⟨w.heap.size, 2, none⟩ = some (.string s) := cell_of_row HB.out.bx rfl
    have x3 : w1.cell? ⟨w.heap.size, 3, none⟩ = some (.string t) := cell_of_row HB.out.bx rfl
    have x4 : w1.cell? ⟨w.heap.size, 4, none⟩ = some (.slice A M cap) := cell_of_row HB.out.bx rfl
    have y0 : w1.cell? ⟨w.heap.size + 1, 0, none⟩ = some (.int .i8 k) := cell_of_row HB.out.by_ rfl
    have y1 : w1.cell? ⟨w.heap.size + 1, 1, none⟩ = some (.int .i64 n) := cell_of_row HB.out.by_ rfl
    have y2 : w1.cell? ⟨w.heap.size + 1, 2, none⟩ = some (.string s) := cell_of_row HB.out.by_ rfl
    have y3 : w1.cell? ⟨w.heap.size + 1, 3, none⟩ = some (.string t) := cell_of_row HB.out.by_ rfl
    have y4 : w1.cell? ⟨w.heap.size + 1, 4, none⟩ = some (.slice A' M cap') := cell_of_row HB.out.by_ rfl
    go_wp2_with fail
    clear x0 x1 x2 x3 x4 y0 y1 y2 y3 y4
    go_loopw [44] (fun i wr => ∃ j : Nat, j ≤ M ∧ i = .int .i64 j ∧ Hid (eqTs (l.take j) (l'.take j) = true) ∧ Hid (NB2 w wr #[.int .i8 k, .int .i64 n, .string s, .string t, .slice A M cap] #[.int .i8 k, .int .i64 n, .string s, .string t, .slice A' M cap'])) (fun i _ => M - (intOf i).toNat)
    case atStart => exact ⟨0, Nat.zero_le _, rfl, Lib.hid rfl, HB⟩
    case round =>
      obtain ⟨j, hj, rfl, HQ, HBr⟩ := hrel
      by_cases hlt : j < M
      · obtain ⟨a, ha⟩ : ∃ a, l[j]? = some a := ⟨l[j]'(by have := HM1.out; omega), List.getElem?_eq_getElem _⟩
        obtain ⟨b, hb⟩ : ∃ b, l'[j]? = some b := ⟨l'[j]'(by have := HM2.out; omega), List.getElem?_eq_getElem _⟩
        obtain ⟨ad, p, rfl, had, hEl, hTa⟩ := HA.out.at_ j a ha
        obtain ⟨ad', q, rfl, had', hEl', hTb⟩ := HA'.out.at_ j b hb
        obtain ⟨c0, c1, c2, c3, c4, rfl⟩ : ∃ c0 c1 c2 c3 c4, p = .agg #[c0, c1, c2, c3, c4] := by obtain ⟨c0, c1, c2, c3, c4, e, -⟩ := hEl; exact ⟨_, _, _, _, _, e⟩
        obtain ⟨d0, d1, d2, d3, d4, rfl⟩ : ∃ c0 c1 c2 c3 c4, q = .agg #[c0, c1, c2, c3, c4] := by obtain ⟨c0, c1, c2, c3, c4, e, -⟩ := hEl'; exact ⟨_, _, _, _, _, e⟩
        have HEA := Lib.hid (hEl.keep (HBr.out.below.block ad.block had))
        have HEB := Lib.hid (hEl'.keep (HBr.out.below.block ad'.block had'))
        have HLT : Hid (ad.block < wr.heap.size ∧ ad'.block < wr.heap.size) := ⟨Nat.lt_of_lt_of_le had HBr.out.below.size, Nat.lt_of_lt_of_le had' HBr.out.below.size⟩
        have HC : Hid (∀ V, Below wr.heap.size wr V → Calls Tryz.prog 27 #[.agg #[c0, c1, c2, c3, c4], .agg #[d0, d1, d2, d3, d4]] V fun e w' => e = .returned (.bool (eqT a b)) ∧ Below V.heap.size V w') := fun V hV =>
          HIH.out a (List.mem_of_getElem? ha) b _ _ V (hTa.laterN (HBr.out.below.trans (hV.mono HBr.out.below.size))) (hTb.laterN (HBr.out.below.trans (hV.mono HBr.out.below.size)))
        have HJA := Lib.hid ha
        have HJB := Lib.hid hb
        clear hEl hEl' had had' hTa hTb ha hb
        go_upto_region 6 with fail
        refine wp_region_held (S := fun V => Below wr.heap.size wr V) (by kernel_rfl) ?_
        show wpAnyH _ _ _ _ _ _ _ _ wr.drew
        have hS0 : Below wr.heap.size wr wr.drew := ⟨rfl, rfl, rfl, Nat.le_refl _, fun _ _ => rfl⟩
        generalize wr.drew = D at hS0 ⊢
        refine wpAnyH_take (i := 0) (oi := ⟨some 47, _, _, _, _, _⟩) (v := ?_) rfl (by kernel_rfl) (by kernel_rfl) (by kernel_rfl) (fun _ _ _ h => h) (Or.inl ⟨by kernel_rfl, ?_⟩) (by assumption) ?_; rotate_left; (intro w hSw; (try dsimp only at hSw); go_simp; first | done | with_reducible rfl); (try simp only [Act.put, List.setIfInBounds_toArray, List.set_cons_zero, List.set_cons_succ])
        refine wpAnyH_take (i := 1) (oi := ⟨some 48, _, _, _, _, _⟩) (v := ?_) rfl (by kernel_rfl) (by kernel_rfl) (by kernel_rfl) (fun _ _ _ h => h) (Or.inl ⟨by kernel_rfl, ?_⟩) (by assumption) ?_; rotate_left; (intro w hSw; (try dsimp only at hSw); have q4 := cell_of_row (i := 4) ((hSw.block _ (heap_lt HBr.out.bx)).trans HBr.out.bx) rfl; go_simp; first | done | with_reducible rfl); (try simp only [Act.put, List.setIfInBounds_toArray, List.set_cons_zero, List.set_cons_succ])
        refine wpAnyH_take (i := 2) (oi := ⟨some 49, _, _, _, _, _⟩) (v := ?_) rfl (by kernel_rfl) (by kernel_rfl) (by kernel_rfl) (fun _ _ _ h => h) (Or.inl ⟨by kernel_rfl, ?_⟩) (by assumption) ?_; rotate_left; (intro w hSw; (try dsimp only at hSw); go_simp; first | done | with_reducible rfl); (try simp only [Act.put, List.setIfInBounds_toArray, List.set_cons_zero, List.set_cons_succ])
        refine wpAnyH_take (i := 3) (oi := ⟨some 50, _, _, _, _, _⟩) (v := ?_) rfl (by kernel_rfl) (by kernel_rfl) (by kernel_rfl) (fun _ _ _ h => h) (Or.inl ⟨by kernel_rfl, ?_⟩) (by assumption) ?_; rotate_left; (intro w hSw; (try dsimp only at hSw); go_simp; first | done | with_reducible rfl); (try simp only [Act.put, List.setIfInBounds_toArray, List.set_cons_zero, List.set_cons_succ])
        refine wpAnyH_take (i := 4) (oi := ⟨some 51, _, _, _, _, _⟩) (v := ?_) rfl (by kernel_rfl) (by kernel_rfl) (by kernel_rfl) (fun _ _ _ h => h) (Or.inl ⟨by kernel_rfl, ?_⟩) (by assumption) ?_; rotate_left; (intro w hSw; (try dsimp only at hSw); obtain ⟨f0, f1, f2, f3, f4, hf, e0, e1, e2, e3, e4⟩ := HEA.out.keep (hSw.block _ HLT.out.1); simp only [Value.agg.injEq, Array.mk.injEq, List.cons.injEq, and_true] at hf; obtain ⟨rfl, rfl, rfl, rfl, rfl⟩ := hf; go_simp; first | done | with_reducible rfl); (try simp only [Act.put, List.setIfInBounds_toArray, List.set_cons_zero, List.set_cons_succ])
        refine wpAnyH_take (i := 5) (oi := ⟨some 52, _, _, _, _, _⟩) (v := ?_) rfl (by kernel_rfl) (by kernel_rfl) (by kernel_rfl) (fun _ _ _ h => h) (Or.inl ⟨by kernel_rfl, ?_⟩) (by assumption) ?_; rotate_left; (intro w hSw; (try dsimp only at hSw); go_simp; first | done | with_reducible rfl); (try simp only [Act.put, List.setIfInBounds_toArray, List.set_cons_zero, List.set_cons_succ])
        refine wpAnyH_take (i := 6) (oi := ⟨some 53, _, _, _, _, _⟩) (v := ?_) rfl (by kernel_rfl) (by kernel_rfl) (by kernel_rfl) (fun _ _ _ h => h) (Or.inl ⟨by kernel_rfl, ?_⟩) (by assumption) ?_; rotate_left; (intro w hSw; (try dsimp only at hSw); have q4 := cell_of_row (i := 4) ((hSw.block _ (heap_lt HBr.out.by_)).trans HBr.out.by_) rfl; go_simp; first | done | with_reducible rfl); (try simp only [Act.put, List.setIfInBounds_toArray, List.set_cons_zero, List.set_cons_succ])
        refine wpAnyH_take (i := 7) (oi := ⟨some 54, _, _, _, _, _⟩) (v := ?_) rfl (by kernel_rfl) (by kernel_rfl) (by kernel_rfl) (fun _ _ _ h => h) (Or.inl ⟨by kernel_rfl, ?_⟩) (by assumption) ?_; rotate_left; (intro w hSw; (try dsimp only at hSw); go_simp; first | done | with_reducible rfl); (try simp only [Act.put, List.setIfInBounds_toArray, List.set_cons_zero, List.set_cons_succ])
        refine wpAnyH_take (i := 8) (oi := ⟨some 55, _, _, _, _, _⟩) (v := ?_) rfl (by kernel_rfl) (by kernel_rfl) (by kernel_rfl) (fun _ _ _ h => h) (Or.inl ⟨by kernel_rfl, ?_⟩) (by assumption) ?_; rotate_left; (intro w hSw; (try dsimp only at hSw); go_simp; first | done | with_reducible rfl); (try simp only [Act.put, List.setIfInBounds_toArray, List.set_cons_zero, List.set_cons_succ])
        refine wpAnyH_take (i := 9) (oi := ⟨some 56, _, _, _, _, _⟩) (v := ?_) rfl (by kernel_rfl) (by kernel_rfl) (by kernel_rfl) (fun _ _ _ h => h) (Or.inl ⟨by kernel_rfl, ?_⟩) (by assumption) ?_; rotate_left; (intro w hSw; (try dsimp only at hSw); obtain ⟨f0, f1, f2, f3, f4, hf, e0, e1, e2, e3, e4⟩ := HEB.out.keep (hSw.block _ HLT.out.2); simp only [Value.agg.injEq, Array.mk.injEq, List.cons.injEq, and_true] at hf; obtain ⟨rfl, rfl, rfl, rfl, rfl⟩ := hf; go_simp; first | done | with_reducible rfl); (try simp only [Act.put, List.setIfInBounds_toArray, List.set_cons_zero, List.set_cons_succ])
        refine wpAnyH_ready (rs := [10]) (by kernel_rfl) (by simp) ?_
        refine AllReadyH.cons (o := ⟨some 57, _, _, _, _, _⟩) rfl (fun K hK => ?_) AllReadyH.nil
        rw [if_pos (by rfl)]
        go_simp
        refine (HC.out D hS0).mono ?_
        rintro e Y ⟨rfl, bY⟩
        have hS7 : Below wr.heap.size wr Y := hS0.trans (bY.mono hS0.size)
        clear bY
        refine hK.out _ _ hS7 (fun hSn => ?_)
        clear hK K; (try simp only [Act.put, List.setIfInBounds_toArray, List.set_cons_zero, List.set_cons_succ])
        cases hq : eqT a b
        · skip
          refine wpAnyH_take (i := 11) (oi := ⟨some 58, _, _, _, _, _⟩) (v := ?_) rfl (by kernel_rfl) (by kernel_rfl) (by kernel_rfl) (fun _ _ _ h => h) (Or.inl ⟨by kernel_rfl, ?_⟩) (by assumption) ?_; rotate_left; (intro w hSw; (try dsimp only at hSw); go_simp; first | done | with_reducible rfl); (try simp only [Act.put, List.setIfInBounds_toArray, List.set_cons_zero, List.set_cons_succ])
          refine wpAnyH_done (by kernel_rfl) ?_ _
          go_wp2_with fail
          go_ret
          exact ⟨ret_bool (by rw [HR2.out, eqTs_no HJA.out HJB.out hq]), (HBr.out.under hS7).below⟩
        · skip
          refine wpAnyH_take (i := 11) (oi := ⟨some 58, _, _, _, _, _⟩) (v := ?_) rfl (by kernel_rfl) (by kernel_rfl) (by kernel_rfl) (fun _ _ _ h => h) (Or.inl ⟨by kernel_rfl, ?_⟩) (by assumption) ?_; rotate_left; (intro w hSw; (try dsimp only at hSw); go_simp; first | done | with_reducible rfl); (try simp only [Act.put, List.setIfInBounds_toArray, List.set_cons_zero, List.set_cons_succ])
          refine wpAnyH_done (by kernel_rfl) ?_ _
          go_wp2_with fail
          go_roundw
          case rel => exact ⟨j + 1, by omega, by go_num, Lib.hid (eqTs_snoc HJA.out HJB.out HQ.out hq), Lib.hid (HBr.out.under hS7)⟩
          case measure => simp [intOf]; omega
      · obtain rfl : j = M := by omega
        go_wp2_with fail
        go_ret
        exact ⟨ret_bool (by have h := HQ.out; rw [HM1.out, List.take_length, HL.out, List.take_length] at h; rw [HR2.out, h]), HBr.out.below⟩

theorem sameR_eq (x y : Tm) : sameR x y = (fitsB x && ((((min 4097 x.nodes : Nat) : Int) == ((min 4097 y.nodes : Nat) : Int) && ((walkedD x : Nat) : Int) == ((walkedD y : Nat) : Int))) && eqT x y) := by
  unfold sameR
  cases hx : fitsB x
  · rfl
  cases he : eqT x y
  · simp
  · have := (eqT_iff x y).1 he
    subst this
    rw [hx]; simp
set_option maxHeartbeats 8000000 in
set_option maxRecDepth 100000 in
theorem same7_ok : SameC Env7 := by
  intro x y u v w hT hU _ _ hE
  obtain ⟨k, n, s, t, l⟩ := x
  obtain ⟨k', n', s', t', l'⟩ := y
  obtain ⟨X, hX⟩ : ∃ X, X = Tm.mk k n s t l := ⟨_, rfl⟩
  obtain ⟨Y, hY⟩ : ∃ Y, Y = Tm.mk k' n' s' t' l' := ⟨_, rfl⟩
  obtain ⟨A, cap, rfl, hR, hk, hn, hs, ht⟩ := hT.parts
  obtain ⟨A', cap', rfl, hR', hk', hn', hs', ht'⟩ := hU.parts
  rw [← hX] at hT ⊢
  rw [← hY] at hU ⊢
  obtain ⟨a, ha⟩ : ∃ a : Int, a = ((min 4097 X.nodes : Nat) : Int) := ⟨_, rfl⟩
  obtain ⟨d, hd⟩ : ∃ d : Int, d = ((walkedD X : Nat) : Int) := ⟨_, rfl⟩
  obtain ⟨a', ha'⟩ : ∃ a : Int, a = ((min 4097 Y.nodes : Nat) : Int) := ⟨_, rfl⟩
  obtain ⟨d', hd'⟩ : ∃ d : Int, d = ((walkedD Y : Nat) : Int) := ⟨_, rfl⟩
  obtain ⟨R, hRR⟩ : ∃ R, R = sameR X Y := ⟨_, rfl⟩
  have hRR2 := hRR
  rw [sameR_eq, ← ha, ← hd, ← ha', ← hd'] at hRR2
  have HR := Lib.hid hRR2
  rw [← hRR]
  have HB := Lib.hid (nb2_of w #[.int .i8 k, .int .i64 n, .string s, .string t, .slice A l.length cap] #[.int .i8 k', .int .i64 n', .string s', .string t', .slice A' l'.length cap'])
  have HWA : Hid (∀ V, NB2 w V #[.int .i8 k, .int .i64 n, .string s, .string t, .slice A l.length cap] #[.int .i8 k', .int .i64 n', .string s', .string t', .slice A' l'.length cap'] → Calls Tryz.prog 25 #[.agg #[.int .i8 k, .int .i64 n, .string s, .string t, .slice A l.length cap]] V fun e w' => e = .returned (.agg #[.int .i64 a, .int .i64 d]) ∧ Below V.heap.size V w') := fun V h => by rw [ha, hd]; exact walked_any X _ V (hT.laterN h.below)
  have HWB : Hid (∀ V, NB2 w V #[.int .i8 k, .int .i64 n, .string s, .string t, .slice A l.length cap] #[.int .i8 k', .int .i64 n', .string s', .string t', .slice A' l'.length cap'] → Calls Tryz.prog 25 #[.agg #[.int .i8 k', .int .i64 n', .string s', .string t', .slice A' l'.length cap']] V fun e w' => e = .returned (.agg #[.int .i64 a', .int .i64 d']) ∧ Below V.heap.size V w') := fun V h => by rw [ha', hd']; exact walked_any Y _ V (hU.laterN h.below)
  have HF : Hid (∀ V, Calls Tryz.prog 26 #[.agg #[.int .i64 a, .int .i64 d]] V fun e w' => e = .returned (.bool (fitsB X)) ∧ Below V.heap.size V w') := fun V => by rw [ha, hd, ← walked_fits X]; exact fits_any _ _ V
  have HSM : Hid (∀ V, NB2 w V #[.int .i8 k, .int .i64 n, .string s, .string t, .slice A l.length cap] #[.int .i8 k', .int .i64 n', .string s', .string t', .slice A' l'.length cap'] → Calls Tryz.prog 27 #[.agg #[.int .i8 k, .int .i64 n, .string s, .string t, .slice A l.length cap], .agg #[.int .i8 k', .int .i64 n', .string s', .string t', .slice A' l'.length cap']] V fun e w' => e = .returned (.bool (eqT X Y)) ∧ Below V.heap.size V w') := fun V h => same_any7 X Y _ _ V (hT.laterN h.below) (hU.laterN h.below)
  clear hR hR' hX hY hT hU hE hRR hRR2 ha hd ha' hd'
  go_enter Tryz.func11, Tryz.ntmps11
  go_upto_region 1 with fail
  generalize (w.alloc (.cells #[.int .i8 k, .int .i64 n, .string s, .string t, .slice A l.length cap] 25)).alloc (.cells #[.int .i8 k', .int .i64 n', .string s', .string t', .slice A' l'.length cap'] 25) = w1 at HB ⊢
  have x0 : w1.cell? ⟨w.heap.size, 0, none⟩ = some (.int .i8 k) := cell_of_row HB.out.bx rfl
  have x1 : w1.cell? ⟨w.heap.size, 1, none⟩ = some (.int .i64 n) := cell_of_row HB.out.bx rfl
  have x2 : w1.cell? ⟨w.heap.size, 2, none⟩ = some (.string s) := cell_of_row HB.out.bx rfl
  have x3 : w1.cell? ⟨w.heap.size, 3, none⟩ = some (.string t) := cell_of_row HB.out.bx rfl
  have x4 : w1.cell? ⟨w.heap.size, 4, none⟩ = some (.slice A l.length cap) := cell_of_row HB.out.bx rfl
  have y0 : w1.cell? ⟨w.heap.size + 1, 0, none⟩ = some (.int .i8 k') := cell_of_row HB.out.by_ rfl
  have y1 : w1.cell? ⟨w.heap.size + 1, 1, none⟩ = some (.int .i64 n') := cell_of_row HB.out.by_ rfl
  have y2 : w1.cell? ⟨w.heap.size + 1, 2, none⟩ = some (.string s') := cell_of_row HB.out.by_ rfl
  have y3 : w1.cell? ⟨w.heap.size + 1, 3, none⟩ = some (.string t') := cell_of_row HB.out.by_ rfl
  have y4 : w1.cell? ⟨w.heap.size + 1, 4, none⟩ = some (.slice A' l'.length cap') := cell_of_row HB.out.by_ rfl
  go_wp2_with fail
  refine (HWA.out w1 HB.out).mono ?_
  rintro e w2 ⟨rfl, b2⟩
  have HB2 := Lib.hid (HB.out.under b2)
  clear b2 x0 x1 x2 x3 x4 y0 y1 y2 y3 y4
  have g3 : (w2.alloc (.cells #[.int .i64 a, .int .i64 d] 45)).heap[w2.heap.size]? = some (.cells #[.int .i64 a, .int .i64 d] 45 (0, 0)) := block_alloc _ _
  have HB3 := Lib.hid (HB2.out.under ((Below.refl _ w2).alloc (Nat.le_refl _) (.cells #[.int .i64 a, .int .i64 d] 45)))
  have HG3 := Lib.hid g3
  clear g3
  go_upto_region 2 with fail
  generalize w2.alloc (.cells #[.int .i64 a, .int .i64 d] 45) = w3 at HB3 HG3 ⊢
  refine wp_region_held (S := fun V => Below w3.heap.size w3 V) (by kernel_rfl) ?_
  show wpAnyH _ _ _ _ _ _ _ _ w3.drew
  have hS0 : Below w3.heap.size w3 w3.drew := ⟨rfl, rfl, rfl, Nat.le_refl _, fun _ _ => rfl⟩
  generalize w3.drew = D at hS0 ⊢
  refine wpAnyH_take (i := 0) (oi := ⟨some 8, _, _, _, _, _⟩) (v := ?_) rfl (by kernel_rfl) (by kernel_rfl) (by kernel_rfl) (fun _ _ _ h => h) (Or.inl ⟨by kernel_rfl, ?_⟩) (by assumption) ?_; rotate_left; (intro w hSw; (try dsimp only at hSw); have q0 := cell_of_row (i := 0) ((hSw.block _ (heap_lt HG3.out)).trans HG3.out) rfl; have q1 := cell_of_row (i := 1) ((hSw.block _ (heap_lt HG3.out)).trans HG3.out) rfl; go_simp; first | done | with_reducible rfl); (try simp only [Act.put, List.setIfInBounds_toArray, List.set_cons_zero, List.set_cons_succ])
  refine wpAnyH_ready (rs := [1]) (by kernel_rfl) (by simp) ?_
  refine AllReadyH.cons (o := ⟨some 9, _, _, _, _, _⟩) rfl (fun K hK => ?_) AllReadyH.nil
  rw [if_pos (by rfl)]
  go_simp
  refine (HF.out D).mono ?_
  rintro e Y1 ⟨rfl, bY⟩
  have hS1 : Below w3.heap.size w3 Y1 := hS0.trans (bY.mono hS0.size)
  clear bY
  refine hK.out _ _ hS1 (fun hSn => ?_)
  clear hK K; (try simp only [Act.put, List.setIfInBounds_toArray, List.set_cons_zero, List.set_cons_succ])
  cases h0 : fitsB X
  · skip
    refine wpAnyH_take (i := 2) (oi := ⟨some 10, _, _, _, _, _⟩) (v := ?_) rfl (by kernel_rfl) (by kernel_rfl) (by kernel_rfl) (fun _ _ _ h => h) (Or.inl ⟨by kernel_rfl, ?_⟩) (by assumption) ?_; rotate_left; (intro w hSw; (try dsimp only at hSw); go_simp; first | done | with_reducible rfl); (try simp only [Act.put, List.setIfInBounds_toArray, List.set_cons_zero, List.set_cons_succ])
    refine wpAnyH_take (i := 3) (oi := ⟨some 11, _, _, _, _, _⟩) (v := undef) rfl (by kernel_rfl) (by kernel_rfl) (by kernel_rfl) (fun _ _ _ h => h) (Or.inr ⟨by kernel_rfl, rfl⟩) (by assumption) ?_; (try simp only [Act.put, List.setIfInBounds_toArray, List.set_cons_zero, List.set_cons_succ])
    refine wpAnyH_take (i := 4) (oi := ⟨some 12, _, _, _, _, _⟩) (v := undef) rfl (by kernel_rfl) (by kernel_rfl) (by kernel_rfl) (fun _ _ _ h => h) (Or.inr ⟨by kernel_rfl, rfl⟩) (by assumption) ?_; (try simp only [Act.put, List.setIfInBounds_toArray, List.set_cons_zero, List.set_cons_succ])
    refine wpAnyH_take (i := 5) (oi := ⟨some 13, _, _, _, _, _⟩) (v := undef) rfl (by kernel_rfl) (by kernel_rfl) (by kernel_rfl) (fun _ _ _ h => h) (Or.inr ⟨by kernel_rfl, rfl⟩) (by assumption) ?_; (try simp only [Act.put, List.setIfInBounds_toArray, List.set_cons_zero, List.set_cons_succ])
    refine wpAnyH_take (i := 6) (oi := ⟨some 14, _, _, _, _, _⟩) (v := undef) rfl (by kernel_rfl) (by kernel_rfl) (by kernel_rfl) (fun _ _ _ h => h) (Or.inr ⟨by kernel_rfl, rfl⟩) (by assumption) ?_; (try simp only [Act.put, List.setIfInBounds_toArray, List.set_cons_zero, List.set_cons_succ])
    refine wpAnyH_take (i := 7) (oi := ⟨some 15, _, _, _, _, _⟩) (v := ?_) rfl (by kernel_rfl) (by kernel_rfl) (by kernel_rfl) (fun _ _ _ h => h) (Or.inl ⟨by kernel_rfl, ?_⟩) (by assumption) ?_; rotate_left; (intro w hSw; (try dsimp only at hSw); go_simp; first | done | with_reducible rfl); (try simp only [Act.put, List.setIfInBounds_toArray, List.set_cons_zero, List.set_cons_succ])
    refine wpAnyH_take (i := 8) (oi := ⟨some 16, _, _, _, _, _⟩) (v := ?_) rfl (by kernel_rfl) (by kernel_rfl) (by kernel_rfl) (fun _ _ _ h => h) (Or.inl ⟨by kernel_rfl, ?_⟩) (by assumption) ?_; rotate_left; (intro w hSw; (try dsimp only at hSw); go_simp; first | done | with_reducible rfl); (try simp only [Act.put, List.setIfInBounds_toArray, List.set_cons_zero, List.set_cons_succ])
    refine wpAnyH_take (i := 9) (oi := ⟨some 17, _, _, _, _, _⟩) (v := undef) rfl (by kernel_rfl) (by kernel_rfl) (by kernel_rfl) (fun _ _ _ h => h) (Or.inr ⟨by kernel_rfl, rfl⟩) (by assumption) ?_; (try simp only [Act.put, List.setIfInBounds_toArray, List.set_cons_zero, List.set_cons_succ])
    refine wpAnyH_take (i := 10) (oi := ⟨some 18, _, _, _, _, _⟩) (v := undef) rfl (by kernel_rfl) (by kernel_rfl) (by kernel_rfl) (fun _ _ _ h => h) (Or.inr ⟨by kernel_rfl, rfl⟩) (by assumption) ?_; (try simp only [Act.put, List.setIfInBounds_toArray, List.set_cons_zero, List.set_cons_succ])
    refine wpAnyH_take (i := 11) (oi := ⟨some 19, _, _, _, _, _⟩) (v := undef) rfl (by kernel_rfl) (by kernel_rfl) (by kernel_rfl) (fun _ _ _ h => h) (Or.inr ⟨by kernel_rfl, rfl⟩) (by assumption) ?_; (try simp only [Act.put, List.setIfInBounds_toArray, List.set_cons_zero, List.set_cons_succ])
    refine wpAnyH_take (i := 12) (oi := ⟨some 20, _, _, _, _, _⟩) (v := ?_) rfl (by kernel_rfl) (by kernel_rfl) (by kernel_rfl) (fun _ _ _ h => h) (Or.inl ⟨by kernel_rfl, ?_⟩) (by assumption) ?_; rotate_left; (intro w hSw; (try dsimp only at hSw); go_simp; first | done | with_reducible rfl); (try simp only [Act.put, List.setIfInBounds_toArray, List.set_cons_zero, List.set_cons_succ])
    refine wpAnyH_take (i := 13) (oi := ⟨some 4, _, _, _, _, _⟩) (v := ?_) rfl (by kernel_rfl) (by kernel_rfl) (by kernel_rfl) (fun _ _ _ h => h) (Or.inl ⟨by kernel_rfl, ?_⟩) (by assumption) ?_; rotate_left; (intro w hSw; (try dsimp only at hSw); go_simp; first | done | with_reducible rfl); (try simp only [Act.put, List.setIfInBounds_toArray, List.set_cons_zero, List.set_cons_succ])
    refine wpAnyH_done (by kernel_rfl) ?_ _
    go_wp2_with fail
    go_ret
    exact ⟨ret_bool (by rw [HR.out, h0]; first | done | rfl), HB3.out.below.trans (hS1.mono HB3.out.below.size)⟩
  · skip
    refine wpAnyH_take (i := 2) (oi := ⟨some 10, _, _, _, _, _⟩) (v := ?_) rfl (by kernel_rfl) (by kernel_rfl) (by kernel_rfl) (fun _ _ _ h => h) (Or.inl ⟨by kernel_rfl, ?_⟩) (by assumption) ?_; rotate_left; (intro w hSw; (try dsimp only at hSw); go_simp; first | done | with_reducible rfl); (try simp only [Act.put, List.setIfInBounds_toArray, List.set_cons_zero, List.set_cons_succ])
    refine wpAnyH_take (i := 3) (oi := ⟨some 11, _, _, _, _, _⟩) (v := ?_) rfl (by kernel_rfl) (by kernel_rfl) (by kernel_rfl) (fun _ _ _ h => h) (Or.inl ⟨by kernel_rfl, ?_⟩) (by assumption) ?_; rotate_left; (intro w hSw; (try dsimp only at hSw); have q0 := cell_of_row (i := 0) ((hSw.block _ (heap_lt HG3.out)).trans HG3.out) rfl; have q1 := cell_of_row (i := 1) ((hSw.block _ (heap_lt HG3.out)).trans HG3.out) rfl; go_simp; first | done | with_reducible rfl); (try simp only [Act.put, List.setIfInBounds_toArray, List.set_cons_zero, List.set_cons_succ])
    refine wpAnyH_take (i := 4) (oi := ⟨some 12, _, _, _, _, _⟩) (v := ?_) rfl (by kernel_rfl) (by kernel_rfl) (by kernel_rfl) (fun _ _ _ h => h) (Or.inl ⟨by kernel_rfl, ?_⟩) (by assumption) ?_; rotate_left; (intro w hSw; (try dsimp only at hSw); have q0 := cell_of_row (i := 0) ((hSw.block _ (heap_lt HB3.out.by_)).trans HB3.out.by_) rfl; have q1 := cell_of_row (i := 1) ((hSw.block _ (heap_lt HB3.out.by_)).trans HB3.out.by_) rfl; have q2 := cell_of_row (i := 2) ((hSw.block _ (heap_lt HB3.out.by_)).trans HB3.out.by_) rfl; have q3 := cell_of_row (i := 3) ((hSw.block _ (heap_lt HB3.out.by_)).trans HB3.out.by_) rfl; have q4 := cell_of_row (i := 4) ((hSw.block _ (heap_lt HB3.out.by_)).trans HB3.out.by_) rfl; go_simp; first | done | with_reducible rfl); (try simp only [Act.put, List.setIfInBounds_toArray, List.set_cons_zero, List.set_cons_succ])
    refine wpAnyH_ready (rs := [5]) (by kernel_rfl) (by simp) ?_
    refine AllReadyH.cons (o := ⟨some 13, _, _, _, _, _⟩) rfl (fun K hK => ?_) AllReadyH.nil
    rw [if_pos (by rfl)]
    go_simp
    refine (HWB.out Y1 (HB3.out.under hS1)).mono ?_
    rintro e Y2 ⟨rfl, bY⟩
    have hS2 : Below w3.heap.size w3 Y2 := hS1.trans (bY.mono hS1.size)
    clear bY
    refine hK.out _ _ hS2 (fun hSn => ?_)
    clear hK K; (try simp only [Act.put, List.setIfInBounds_toArray, List.set_cons_zero, List.set_cons_succ])
    by_cases ha : a = a'
    rotate_left
    · have h1 : (a == a' && d == d') = false := by rw [show (a == a') = false by simpa using ha]; rfl
      refine wpAnyH_take (i := 6) (oi := ⟨some 14, _, _, _, _, _⟩) (v := ?_) rfl (by kernel_rfl) (by kernel_rfl) (by kernel_rfl) (fun _ _ _ h => h) (Or.inl ⟨by kernel_rfl, ?_⟩) (by assumption) ?_; rotate_left; (intro w hSw; (try dsimp only at hSw); go_simp; first | done | with_reducible rfl); (try simp only [Act.put, List.setIfInBounds_toArray, List.set_cons_zero, List.set_cons_succ])
      refine wpAnyH_take (i := 7) (oi := ⟨some 15, _, _, _, _, _⟩) (v := ?_) rfl (by kernel_rfl) (by kernel_rfl) (by kernel_rfl) (fun _ _ _ h => h) (Or.inl ⟨by kernel_rfl, ?_⟩) (by assumption) ?_; rotate_left; (intro w hSw; (try dsimp only at hSw); go_simp; first | done | with_reducible rfl); (try simp only [Act.put, List.setIfInBounds_toArray, List.set_cons_zero, List.set_cons_succ])
      refine wpAnyH_take (i := 8) (oi := ⟨some 16, _, _, _, _, _⟩) (v := ?_) rfl (by kernel_rfl) (by kernel_rfl) (by kernel_rfl) (fun _ _ _ h => h) (Or.inl ⟨by kernel_rfl, ?_⟩) (by assumption) ?_; rotate_left; (intro w hSw; (try dsimp only at hSw); go_simp; first | done | with_reducible rfl); (try simp only [Act.put, List.setIfInBounds_toArray, List.set_cons_zero, List.set_cons_succ])
      refine wpAnyH_take (i := 9) (oi := ⟨some 17, _, _, _, _, _⟩) (v := undef) rfl (by kernel_rfl) (by kernel_rfl) (by kernel_rfl) (fun _ _ _ h => h) (Or.inr ⟨by kernel_rfl, rfl⟩) (by assumption) ?_; (try simp only [Act.put, List.setIfInBounds_toArray, List.set_cons_zero, List.set_cons_succ])
      refine wpAnyH_take (i := 10) (oi := ⟨some 18, _, _, _, _, _⟩) (v := undef) rfl (by kernel_rfl) (by kernel_rfl) (by kernel_rfl) (fun _ _ _ h => h) (Or.inr ⟨by kernel_rfl, rfl⟩) (by assumption) ?_; (try simp only [Act.put, List.setIfInBounds_toArray, List.set_cons_zero, List.set_cons_succ])
      refine wpAnyH_take (i := 11) (oi := ⟨some 19, _, _, _, _, _⟩) (v := undef) rfl (by kernel_rfl) (by kernel_rfl) (by kernel_rfl) (fun _ _ _ h => h) (Or.inr ⟨by kernel_rfl, rfl⟩) (by assumption) ?_; (try simp only [Act.put, List.setIfInBounds_toArray, List.set_cons_zero, List.set_cons_succ])
      refine wpAnyH_take (i := 12) (oi := ⟨some 20, _, _, _, _, _⟩) (v := ?_) rfl (by kernel_rfl) (by kernel_rfl) (by kernel_rfl) (fun _ _ _ h => h) (Or.inl ⟨by kernel_rfl, ?_⟩) (by assumption) ?_; rotate_left; (intro w hSw; (try dsimp only at hSw); go_simp; first | done | with_reducible rfl); (try simp only [Act.put, List.setIfInBounds_toArray, List.set_cons_zero, List.set_cons_succ])
      refine wpAnyH_take (i := 13) (oi := ⟨some 4, _, _, _, _, _⟩) (v := ?_) rfl (by kernel_rfl) (by kernel_rfl) (by kernel_rfl) (fun _ _ _ h => h) (Or.inl ⟨by kernel_rfl, ?_⟩) (by assumption) ?_; rotate_left; (intro w hSw; (try dsimp only at hSw); go_simp; first | done | with_reducible rfl); (try simp only [Act.put, List.setIfInBounds_toArray, List.set_cons_zero, List.set_cons_succ])
      refine wpAnyH_done (by kernel_rfl) ?_ _
      go_wp2_with fail
      go_ret
      exact ⟨ret_bool (by rw [HR.out, h0, h1]; first | done | rfl), HB3.out.below.trans (hS2.mono HB3.out.below.size)⟩
    by_cases hd : d = d'
    rotate_left
    · have h1 : (a == a' && d == d') = false := by rw [show (d == d') = false by simpa using hd]; simp
      refine wpAnyH_take (i := 6) (oi := ⟨some 14, _, _, _, _, _⟩) (v := ?_) rfl (by kernel_rfl) (by kernel_rfl) (by kernel_rfl) (fun _ _ _ h => h) (Or.inl ⟨by kernel_rfl, ?_⟩) (by assumption) ?_; rotate_left; (intro w hSw; (try dsimp only at hSw); go_simp; first | done | with_reducible rfl); (try simp only [Act.put, List.setIfInBounds_toArray, List.set_cons_zero, List.set_cons_succ])
      refine wpAnyH_take (i := 7) (oi := ⟨some 15, _, _, _, _, _⟩) (v := ?_) rfl (by kernel_rfl) (by kernel_rfl) (by kernel_rfl) (fun _ _ _ h => h) (Or.inl ⟨by kernel_rfl, ?_⟩) (by assumption) ?_; rotate_left; (intro w hSw; (try dsimp only at hSw); go_simp; first | done | with_reducible rfl); (try simp only [Act.put, List.setIfInBounds_toArray, List.set_cons_zero, List.set_cons_succ])
      refine wpAnyH_take (i := 8) (oi := ⟨some 16, _, _, _, _, _⟩) (v := ?_) rfl (by kernel_rfl) (by kernel_rfl) (by kernel_rfl) (fun _ _ _ h => h) (Or.inl ⟨by kernel_rfl, ?_⟩) (by assumption) ?_; rotate_left; (intro w hSw; (try dsimp only at hSw); go_simp; first | done | with_reducible rfl); (try simp only [Act.put, List.setIfInBounds_toArray, List.set_cons_zero, List.set_cons_succ])
      refine wpAnyH_take (i := 9) (oi := ⟨some 17, _, _, _, _, _⟩) (v := undef) rfl (by kernel_rfl) (by kernel_rfl) (by kernel_rfl) (fun _ _ _ h => h) (Or.inr ⟨by kernel_rfl, rfl⟩) (by assumption) ?_; (try simp only [Act.put, List.setIfInBounds_toArray, List.set_cons_zero, List.set_cons_succ])
      refine wpAnyH_take (i := 10) (oi := ⟨some 18, _, _, _, _, _⟩) (v := undef) rfl (by kernel_rfl) (by kernel_rfl) (by kernel_rfl) (fun _ _ _ h => h) (Or.inr ⟨by kernel_rfl, rfl⟩) (by assumption) ?_; (try simp only [Act.put, List.setIfInBounds_toArray, List.set_cons_zero, List.set_cons_succ])
      refine wpAnyH_take (i := 11) (oi := ⟨some 19, _, _, _, _, _⟩) (v := undef) rfl (by kernel_rfl) (by kernel_rfl) (by kernel_rfl) (fun _ _ _ h => h) (Or.inr ⟨by kernel_rfl, rfl⟩) (by assumption) ?_; (try simp only [Act.put, List.setIfInBounds_toArray, List.set_cons_zero, List.set_cons_succ])
      refine wpAnyH_take (i := 12) (oi := ⟨some 20, _, _, _, _, _⟩) (v := ?_) rfl (by kernel_rfl) (by kernel_rfl) (by kernel_rfl) (fun _ _ _ h => h) (Or.inl ⟨by kernel_rfl, ?_⟩) (by assumption) ?_; rotate_left; (intro w hSw; (try dsimp only at hSw); go_simp; first | done | with_reducible rfl); (try simp only [Act.put, List.setIfInBounds_toArray, List.set_cons_zero, List.set_cons_succ])
      refine wpAnyH_take (i := 13) (oi := ⟨some 4, _, _, _, _, _⟩) (v := ?_) rfl (by kernel_rfl) (by kernel_rfl) (by kernel_rfl) (fun _ _ _ h => h) (Or.inl ⟨by kernel_rfl, ?_⟩) (by assumption) ?_; rotate_left; (intro w hSw; (try dsimp only at hSw); go_simp; first | done | with_reducible rfl); (try simp only [Act.put, List.setIfInBounds_toArray, List.set_cons_zero, List.set_cons_succ])
      refine wpAnyH_done (by kernel_rfl) ?_ _
      go_wp2_with fail
      go_ret
      exact ⟨ret_bool (by rw [HR.out, h0, h1]; first | done | rfl), HB3.out.below.trans (hS2.mono HB3.out.below.size)⟩
    have h1 : (a == a' && d == d') = true := by simp [ha, hd]
    refine wpAnyH_take (i := 6) (oi := ⟨some 14, _, _, _, _, _⟩) (v := ?_) rfl (by kernel_rfl) (by kernel_rfl) (by kernel_rfl) (fun _ _ _ h => h) (Or.inl ⟨by kernel_rfl, ?_⟩) (by assumption) ?_; rotate_left; (intro w hSw; (try dsimp only at hSw); go_simp; first | done | with_reducible rfl); (try simp only [Act.put, List.setIfInBounds_toArray, List.set_cons_zero, List.set_cons_succ])
    refine wpAnyH_take (i := 7) (oi := ⟨some 15, _, _, _, _, _⟩) (v := ?_) rfl (by kernel_rfl) (by kernel_rfl) (by kernel_rfl) (fun _ _ _ h => h) (Or.inl ⟨by kernel_rfl, ?_⟩) (by assumption) ?_; rotate_left; (intro w hSw; (try dsimp only at hSw); go_simp; first | done | with_reducible rfl); (try simp only [Act.put, List.setIfInBounds_toArray, List.set_cons_zero, List.set_cons_succ])
    refine wpAnyH_take (i := 8) (oi := ⟨some 16, _, _, _, _, _⟩) (v := ?_) rfl (by kernel_rfl) (by kernel_rfl) (by kernel_rfl) (fun _ _ _ h => h) (Or.inl ⟨by kernel_rfl, ?_⟩) (by assumption) ?_; rotate_left; (intro w hSw; (try dsimp only at hSw); go_simp; first | done | with_reducible rfl); (try simp only [Act.put, List.setIfInBounds_toArray, List.set_cons_zero, List.set_cons_succ])
    refine wpAnyH_take (i := 9) (oi := ⟨some 17, _, _, _, _, _⟩) (v := ?_) rfl (by kernel_rfl) (by kernel_rfl) (by kernel_rfl) (fun _ _ _ h => h) (Or.inl ⟨by kernel_rfl, ?_⟩) (by assumption) ?_; rotate_left; (intro w hSw; (try dsimp only at hSw); have q0 := cell_of_row (i := 0) ((hSw.block _ (heap_lt HB3.out.bx)).trans HB3.out.bx) rfl; have q1 := cell_of_row (i := 1) ((hSw.block _ (heap_lt HB3.out.bx)).trans HB3.out.bx) rfl; have q2 := cell_of_row (i := 2) ((hSw.block _ (heap_lt HB3.out.bx)).trans HB3.out.bx) rfl; have q3 := cell_of_row (i := 3) ((hSw.block _ (heap_lt HB3.out.bx)).trans HB3.out.bx) rfl; have q4 := cell_of_row (i := 4) ((hSw.block _ (heap_lt HB3.out.bx)).trans HB3.out.bx) rfl; go_simp; first | done | with_reducible rfl); (try simp only [Act.put, List.setIfInBounds_toArray, List.set_cons_zero, List.set_cons_succ])
    refine wpAnyH_take (i := 10) (oi := ⟨some 18, _, _, _, _, _⟩) (v := ?_) rfl (by kernel_rfl) (by kernel_rfl) (by kernel_rfl) (fun _ _ _ h => h) (Or.inl ⟨by kernel_rfl, ?_⟩) (by assumption) ?_; rotate_left; (intro w hSw; (try dsimp only at hSw); have q0 := cell_of_row (i := 0) ((hSw.block _ (heap_lt HB3.out.by_)).trans HB3.out.by_) rfl; have q1 := cell_of_row (i := 1) ((hSw.block _ (heap_lt HB3.out.by_)).trans HB3.out.by_) rfl; have q2 := cell_of_row (i := 2) ((hSw.block _ (heap_lt HB3.out.by_)).trans HB3.out.by_) rfl; have q3 := cell_of_row (i := 3) ((hSw.block _ (heap_lt HB3.out.by_)).trans HB3.out.by_) rfl; have q4 := cell_of_row (i := 4) ((hSw.block _ (heap_lt HB3.out.by_)).trans HB3.out.by_) rfl; go_simp; first | done | with_reducible rfl); (try simp only [Act.put, List.setIfInBounds_toArray, List.set_cons_zero, List.set_cons_succ])
    refine wpAnyH_ready (rs := [11]) (by kernel_rfl) (by simp) ?_
    refine AllReadyH.cons (o := ⟨some 19, _, _, _, _, _⟩) rfl (fun K hK => ?_) AllReadyH.nil
    rw [if_pos (by rfl)]
    go_simp
    refine (HSM.out Y2 (HB3.out.under hS2)).mono ?_
    rintro e Y3 ⟨rfl, bY⟩
    have hS3 : Below w3.heap.size w3 Y3 := hS2.trans (bY.mono hS2.size)
    clear bY
    refine hK.out _ _ hS3 (fun hSn => ?_)
    clear hK K; (try simp only [Act.put, List.setIfInBounds_toArray, List.set_cons_zero, List.set_cons_succ])
    refine wpAnyH_take (i := 12) (oi := ⟨some 20, _, _, _, _, _⟩) (v := ?_) rfl (by kernel_rfl) (by kernel_rfl) (by kernel_rfl) (fun _ _ _ h => h) (Or.inl ⟨by kernel_rfl, ?_⟩) (by assumption) ?_; rotate_left; (intro w hSw; (try dsimp only at hSw); go_simp; first | done | with_reducible rfl); (try simp only [Act.put, List.setIfInBounds_toArray, List.set_cons_zero, List.set_cons_succ])
    refine wpAnyH_take (i := 13) (oi := ⟨some 4, _, _, _, _, _⟩) (v := ?_) rfl (by kernel_rfl) (by kernel_rfl) (by kernel_rfl) (fun _ _ _ h => h) (Or.inl ⟨by kernel_rfl, ?_⟩) (by assumption) ?_; rotate_left; (intro w hSw; (try dsimp only at hSw); go_simp; first | done | with_reducible rfl); (try simp only [Act.put, List.setIfInBounds_toArray, List.set_cons_zero, List.set_cons_succ])
    refine wpAnyH_done (by kernel_rfl) ?_ _
    go_wp2_with fail
    go_ret
    exact ⟨ret_bool (by rw [HR.out, h0, h1]; first | done | rfl), HB3.out.below.trans (hS3.mono HB3.out.below.size)⟩
end Go.Proofs.YtcallgoglnkkiaaGreatDoor
