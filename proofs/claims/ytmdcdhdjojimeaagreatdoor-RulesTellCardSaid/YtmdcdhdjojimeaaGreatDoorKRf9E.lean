/- Layer 7: the document's own same and Same (written by gen_rf9e.py). -/
import Derived.Test.YtmdcdhdjojimeaaGreatDoorKRf9A
import Derived.Test.YtmdcdhdjojimeaaGreatDoorKQuietC
import Derived.Test.YtmdcdhdjojimeaaGreatDoorKHas7
import Derived.Test.YtmdcdhdjojimeaaGreatDoorKPub7
import Derived.Test.YtmdcdhdjojimeaaGreatDoorKFind9
section
set_option linter.unusedVariables false
set_option linter.unusedSimpArgs false
namespace Go.Proofs.YtmdcdhdjojimeaaGreatDoor
open Go.RowKit

set_option maxHeartbeats 16000000 in
set_option maxRecDepth 100000 in
theorem rFind9_any (x : Tm) (v : Value) (md nm : ByteArray) (ar : Int) (w : World) (hT : TmAt (· < w.heap.size) w x v) :
  Calls Tryz.prog 9 #[v, .string md, .string nm, .int .i64 ar] w (FindAt w.heap.size (findT (md, nm, ar) (fns9T x)) w) := by
 obtain ⟨k, n, s, t, l⟩ := x
 obtain ⟨A, cap, rfl, -⟩ := hT.parts
 obtain ⟨X, hX⟩ : ∃ X, X = Tm.mk k n s t l := ⟨_, rfl⟩
 rw [← hX] at hT ⊢
 have HXL : Hid (X.l = l) := Lib.hid (by rw [hX]; rfl)
 clear hX
 obtain ⟨W2, hW2⟩ : ∃ W2, W2 = (w.alloc (.cells #[.int .i8 k, .int .i64 n, .string s, .string t, .slice A l.length cap] 25)).alloc (.cells #[.int .i8 0, .int .i64 0, .string ⟨#[]⟩, .string ⟨#[]⟩, .slice none 0 0] 25) := ⟨_, rfl⟩
 obtain ⟨g0, g1, b2, z2⟩ := two9b w _ _ W2 hW2
 have HG0 := Lib.hid g0
 have HG1 := Lib.hid g1
 have HB2 := Lib.hid b2
 have HT := Lib.hid hT
 obtain ⟨x0, x1, x2, x3, x4⟩ := five_of g0
 clear hT g0 g1 b2 z2
 go_enter Tryz.func9, Tryz.ntmps9
 go_upto_region 1 with fail
 rw [← hW2]
 clear hW2
 go_wp2_with fail
 refine (rcheck7_any X _ W2 (HT.out.laterN HB2.out)).mono ?_
 rintro e W3 ⟨rfl, b3⟩
 have HB3 := Lib.hid (HB2.out.trans (b3.mono HB2.out.size))
 have hg0 := (b3.block _ (heap_lt HG0.out)).trans HG0.out
 have HG3 := Lib.hid ((b3.block _ (heap_lt HG1.out)).trans HG1.out)
 clear x0 x1 x2 x3 x4 b3
 rcases checkR_or X with ⟨hc, hf, hm⟩ | ⟨hc, hf⟩
 ·rw [hc]
  have HF9 : Hid (fns9T X = fnsT l) := Lib.hid (by unfold fns9T; rw [if_pos ⟨hf, hm⟩, HXL.out])
  clear hc hf hm
  obtain ⟨x0, x1, x2, x3, x4⟩ := five_of hg0
  clear hg0
  have HC := Lib.hid (rfind9_at X _ md nm ar W3 w.heap.size HB3.out.size (HT.out.keep (fun b hb => HB3.out.block b hb) (fun _ h => h)))
  rw [HXL.out, ← HF9.out] at HC
  go_wp2_with fail
  refine HC.out.mono ?_
  rintro e W4 ⟨u, ⟨k', n', s', t', A', m', c', rfl⟩, rfl, hU, b4⟩
  have HU := Lib.hid hU
  have HB4 := Lib.hid (HB3.out.trans (b4.mono HB3.out.size))
  have hg1 := (b4.block _ (heap_lt HG3.out)).trans HG3.out
  have HG4 := Lib.hid hg1
  clear b4 hU HC x0 x1 x2 x3 x4
  obtain ⟨⟨r0, r1, r2, r3, r4⟩, rf0, rf1, rf2, rf3, rf4⟩ := five_fr hg1
  clear hg1
  obtain ⟨R, hRR⟩ : ∃ R, R = findT (md, nm, ar) (fns9T X) := ⟨_, rfl⟩
  have HRR := Lib.hid hRR
  rw [← hRR] at HU ⊢
  clear hRR
  go_wp2_with fail
  obtain ⟨s5, m5⟩ := set_five7 (.int .i8 k') (.int .i64 n') (.string s') (.string t') (.slice A' m' c') HG4.out
  generalize (((((W4.setCell ⟨w.heap.size + 1, 0, none⟩ (.int .i8 k')).setCell ⟨w.heap.size + 1, 1, none⟩ (.int .i64 n')).setCell ⟨w.heap.size + 1, 2, none⟩ (.string s')).setCell ⟨w.heap.size + 1, 3, none⟩ (.string t')).setCell ⟨w.heap.size + 1, 4, none⟩ (.slice A' m' c')) = VX at s5 m5 ⊢
  have hbb : Below w.heap.size w VX := HB4.out.trans (m5.below HB4.out.size (fun k (e : k = _) => by omega))
  obtain ⟨z0, z1, z2, z3, z4⟩ := five_of s5
  (try simp only [Exit.inBlock, Exit.then])
  refine bodyPost_ret (v := .tuple #[.agg #[.int .i8 k', .int .i64 n', .string s', .string t', .slice A' m' c'], .bool R.isSome]) (by simp [results, Tryz.f9, go_sem, z0, z1, z2, z3, z4]) rfl ?_
  refine ⟨_, ⟨_, _, _, _, _, _, _, rfl⟩, by rw [HRR.out], fun y9 h9 => ?_, hbb⟩
  exact (HU.out y9 (by rw [HRR.out]; exact h9)).keep (fun b hb => m5.block b (Nat.lt_of_lt_of_le hb HB4.out.size) (fun (e : b = _) => by omega)) (fun _ h => h)
 ·rw [hc]
  have HF9 : Hid (fns9T X = []) := Lib.hid (by unfold fns9T; rw [if_neg hf])
  clear hc hf hg0
  have hg1 := HG3.out
  obtain ⟨⟨r0, r1, r2, r3, r4⟩, rf0, rf1, rf2, rf3, rf4⟩ := five_fr hg1
  clear hg1
  go_wp2_with fail
  obtain ⟨s5, m5⟩ := set_five7 (.int .i8 0) (.int .i64 0) (.string ⟨#[]⟩) (.string ⟨#[]⟩) (.slice none 0 0) HG3.out
  generalize (((((W3.setCell ⟨w.heap.size + 1, 0, none⟩ (.int .i8 0)).setCell ⟨w.heap.size + 1, 1, none⟩ (.int .i64 0)).setCell ⟨w.heap.size + 1, 2, none⟩ (.string ⟨#[]⟩)).setCell ⟨w.heap.size + 1, 3, none⟩ (.string ⟨#[]⟩)).setCell ⟨w.heap.size + 1, 4, none⟩ (.slice none 0 0)) = VX at s5 m5 ⊢
  have hbb : Below w.heap.size w VX := HB3.out.trans (m5.below HB3.out.size (fun k (e : k = _) => by omega))
  obtain ⟨z0, z1, z2, z3, z4⟩ := five_of s5
  (try simp only [Exit.inBlock, Exit.then])
  refine bodyPost_ret (v := .tuple #[.agg #[.int .i8 0, .int .i64 0, .string ⟨#[]⟩, .string ⟨#[]⟩, .slice none 0 0], .bool false]) (by simp [results, Tryz.f9, go_sem, z0, z1, z2, z3, z4]) rfl ?_
  refine ⟨_, ⟨_, _, _, _, _, _, _, rfl⟩, by rw [HF9.out]; rfl, fun y9 h9 => ?_, hbb⟩
  rw [HF9.out] at h9
  cases h9

attribute [local irreducible] Go.wpQuiet
set_option maxHeartbeats 8000000 in
set_option maxRecDepth 100000 in
theorem rwords7_any (P Q : List ByteArray) (A B : Option Addr) (ca cb : Nat) (w : World) (hP : P.length ≤ maxLen) (hQ : Q.length ≤ maxLen) (hA : SRow w A P) (hB : SRow w B Q) :
  Calls Tryz.prog 13 #[.slice A P.length ca, .slice B Q.length cb] w fun e w' => e = .returned (.bool (decide (P = Q))) ∧ Below w.heap.size w w' := by
 unfold maxLen at hP hQ
 have HA := Lib.hid hA
 have HB := Lib.hid hB
 obtain ⟨R, hR⟩ : ∃ R, R = decide (P = Q) := ⟨_, rfl⟩
 have HR := Lib.hid hR
 rw [← hR]
 clear hA hB hR
 by_cases hl : P.length = Q.length
 ·have HL := Lib.hid hl
  rw [← hl]
  clear hl hQ
  go_enter Tryz.func13, Tryz.ntmps13
  go_wp2_with fail
  go_loopw [5] (fun i wr => ∃ j : Nat, j ≤ P.length ∧ i = .int .i64 (j : Int) ∧ Hid (Below w.heap.size w wr) ∧ Hid (P.take j = Q.take j)) (fun i _ => P.length - (intOf i).toNat)
  case atStart => exact ⟨0, Nat.zero_le _, rfl, Lib.hid (Below.refl _ _), Lib.hid rfl⟩
  case round =>
   obtain ⟨j, hj, rfl, HBW, HF⟩ := hrel
   by_cases hlt : j < P.length
   ·obtain ⟨p, hp⟩ : ∃ p, P[j]? = some p := ⟨P[j], List.getElem?_eq_getElem hlt⟩
    obtain ⟨r, hr⟩ : ∃ r, Q[j]? = some r := ⟨Q[j]'(by have := HL.out; omega), List.getElem?_eq_getElem _⟩
    obtain ⟨ad, rfl, had, hE⟩ := HA.out j p hp
    obtain ⟨bd, rfl, hbd, hF⟩ := HB.out j r hr
    have HE : Hid (∀ V, Below wr.heap.size wr V → V.cell? (ad.add j) = some (.string p)) := Lib.hid (fun V hV => by
     have h1 := HBW.out.trans (hV.mono HBW.out.size)
     exact (h1.cell (World.block_lt_of_cell? _ _ hE)).trans hE)
    have HE2 : Hid (∀ V, Below wr.heap.size wr V → V.cell? (bd.add j) = some (.string r)) := Lib.hid (fun V hV => by
     have h1 := HBW.out.trans (hV.mono HBW.out.size)
     exact (h1.cell (World.block_lt_of_cell? _ _ hF)).trans hF)
    have HPR := Lib.hid (And.intro hp hr)
    have hi0 : (0 : Int) ≤ (j : Int) := by omega
    have hi1 : (j : Int) < (P.length : Int) := by omega
    clear hp hr had hE hbd hF
    go_upto_region 6 with fail
    by_cases hpr : p.toList = r.toList
    ·have q1 : (p.toList == r.toList) = true := beq_iff_eq.2 hpr
     have q2 : (p.toList != r.toList) = false := by rw [bne, q1]; rfl
     have HN : Hid (P.take (j + 1) = Q.take (j + 1)) := Lib.hid (by rw [List.take_add_one, List.take_add_one, HPR.out.1, HPR.out.2, HF.out, bytes_eq9.1 hpr])
     clear hpr
     refine wp_region_qC (C := fun V => Below (wr).heap.size (wr) V) (by kernel_rfl) (by kernel_rfl) (drewC (wr)) ?_
     refine wpq1 ?_; (try simp only [Act.put, sI, sZ, sS])
     refine wpq1 ?_; (try simp only [Act.put, sI, sZ, sS])
     refine wpq1 ?_; (try simp only [Act.put, sI, sZ, sS])
     refine wpqC (v := ?_) (by kernel_rfl) ?_ ?_; rotate_left; (intro V hV; (try dsimp only at hV); have e1 := HE.out V hV; go_simp; first | done | with_reducible rfl); (try simp only [Act.put, sI, sZ, sS])
     refine wpq1 ?_; (try simp only [Act.put, sI, sZ, sS])
     refine wpq1 ?_; (try simp only [Act.put, sI, sZ, sS])
     refine wpq1 ?_; (try simp only [Act.put, sI, sZ, sS])
     refine wpqC (v := ?_) (by kernel_rfl) ?_ ?_; rotate_left; (intro V hV; (try dsimp only at hV); have e2 := HE2.out V hV; go_simp; first | done | with_reducible rfl); (try simp only [Act.put, sI, sZ, sS])
     refine wpq1 ?_; (try simp only [Act.put, sI, sZ, sS])
     refine wpQuiet_nil ?_
     intro V9 h9
     (try dsimp only at h9)
     have HB7 := Lib.hid h9
     clear h9
     have HB9 := Lib.hid (HBW.out.trans (HB7.out.mono HBW.out.size))
     go_wp2_with fail
     go_roundw
     case rel => exact ⟨j + 1, by omega, by go_num, HB9, HN⟩
     case measure => simp [intOf]; omega
    ·have q1 : (p.toList == r.toList) = false := beq_eq_false_iff_ne.2 hpr
     have q2 : (p.toList != r.toList) = true := by rw [bne, q1]; rfl
     have HN : Hid (R = false) := Lib.hid (by rw [HR.out]; refine decide_eq_false (fun h => hpr ?_); have h1 := HPR.out; rw [h, h1.2] at h1; exact bytes_eq9.2 (Option.some.inj h1.1).symm)
     clear hpr
     refine wp_region_qC (C := fun V => Below (wr).heap.size (wr) V) (by kernel_rfl) (by kernel_rfl) (drewC (wr)) ?_
     refine wpq1 ?_; (try simp only [Act.put, sI, sZ, sS])
     refine wpq1 ?_; (try simp only [Act.put, sI, sZ, sS])
     refine wpq1 ?_; (try simp only [Act.put, sI, sZ, sS])
     refine wpqC (v := ?_) (by kernel_rfl) ?_ ?_; rotate_left; (intro V hV; (try dsimp only at hV); have e1 := HE.out V hV; go_simp; first | done | with_reducible rfl); (try simp only [Act.put, sI, sZ, sS])
     refine wpq1 ?_; (try simp only [Act.put, sI, sZ, sS])
     refine wpq1 ?_; (try simp only [Act.put, sI, sZ, sS])
     refine wpq1 ?_; (try simp only [Act.put, sI, sZ, sS])
     refine wpqC (v := ?_) (by kernel_rfl) ?_ ?_; rotate_left; (intro V hV; (try dsimp only at hV); have e2 := HE2.out V hV; go_simp; first | done | with_reducible rfl); (try simp only [Act.put, sI, sZ, sS])
     refine wpq1 ?_; (try simp only [Act.put, sI, sZ, sS])
     refine wpQuiet_nil ?_
     intro V9 h9
     (try dsimp only at h9)
     have HB7 := Lib.hid h9
     clear h9
     have HB9 := Lib.hid (HBW.out.trans (HB7.out.mono HBW.out.size))
     go_wp2_with fail
     go_ret
     exact ⟨ret_bool HN.out.symm, HB9.out⟩
   ·obtain rfl : j = P.length := by omega
    have HN : Hid (R = true) := Lib.hid (by rw [HR.out]; refine decide_eq_true ?_; have h1 := HF.out; rw [List.take_length, HL.out, List.take_length] at h1; exact h1)
    go_wp2_with fail
    go_ret
    exact ⟨ret_bool HN.out.symm, HBW.out⟩
 ·have HN : Hid (R = false) := Lib.hid (by rw [HR.out]; exact decide_eq_false (fun h => hl (by rw [h])))
  have hl2 : ¬ (P.length : Int) = (Q.length : Int) := by omega
  clear hl
  go_enter Tryz.func13, Tryz.ntmps13
  go_wp2_with fail
  go_ret
  exact ⟨ret_bool HN.out.symm, Below.refl _ _⟩
end Go.Proofs.YtmdcdhdjojimeaaGreatDoor
end
section
set_option linter.unusedVariables false
namespace Go.Proofs.YtmdcdhdjojimeaaGreatDoor
open Go.RowKit

mutual
def eqT : Tm → Tm → Bool
 | .mk k n s t l, .mk k' n' s' t' l' => k == k' && n == n' && s.data.toList == s'.data.toList && t.data.toList == t'.data.toList && eqTs l l'
def eqTs : List Tm → List Tm → Bool
 | [], [] => true
 | x :: l, y :: m => eqT x y && eqTs l m
 | _, _ => false
end
theorem bytes_ext {a b : ByteArray} : a.data.toList = b.data.toList ↔ a = b := ⟨fun h => ByteArray.ext (Array.toList_inj.1 h), fun h => by rw [h]⟩
theorem eqTs_iff : ∀ (l m : List Tm), (∀ x ∈ l, ∀ y, eqT x y = true ↔ x = y) → (eqTs l m = true ↔ l = m)
 | [], [], _ => by simp [eqTs]
 | [], y :: m, _ => by simp [eqTs]
 | x :: l, [], _ => by simp [eqTs]
 | x :: l, y :: m, h => by
  have h1 := h x (by simp) y
  have h2 := eqTs_iff l m (fun z hz => h z (by simp [hz]))
  rw [eqTs, Bool.and_eq_true, h1, h2]
  simp
theorem eqT_iff (x : Tm) : ∀ y, eqT x y = true ↔ x = y := by
 induction x using Tm.ind with
 | h k n s t l ih =>
  intro y
  obtain ⟨k', n', s', t', l'⟩ := y
  have h := eqTs_iff l l' ih
  rw [eqT]
  simp only [Bool.and_eq_true, beq_iff_eq, h, bytes_ext, Tm.mk.injEq]
  constructor
  ·rintro ⟨⟨⟨⟨a, b⟩, c⟩, d⟩, e⟩; exact ⟨a, b, c, d, e⟩
  ·rintro ⟨a, b, c, d, e⟩; exact ⟨⟨⟨⟨a, b⟩, c⟩, d⟩, e⟩
def sameR (x y : Tm) : Bool := fitsB x && fitsB y && eqT x y
end Go.Proofs.YtmdcdhdjojimeaaGreatDoor
end
section
set_option linter.unusedVariables false
namespace Go.Proofs.YtmdcdhdjojimeaaGreatDoor
open Go.RowKit

theorem eqTs_no : ∀ {l m : List Tm} {j : Nat} {x y : Tm}, l[j]? = some x → m[j]? = some y → eqT x y = false → eqTs l m = false
 | [], _, _, _, _, h, _, _ => by simp at h
 | _ :: _, [], _, _, _, _, h, _ => by simp at h
 | a :: l, b :: m, 0, x, y, h1, h2, h => by
  simp at h1 h2
  subst h1 h2
  rw [eqTs, h]; rfl
 | a :: l, b :: m, j + 1, x, y, h1, h2, h => by
  rw [eqTs, eqTs_no (l := l) (m := m) (j := j) (by simpa using h1) (by simpa using h2) h]; simp
theorem eqTs_snoc : ∀ {l m : List Tm} {j : Nat} {x y : Tm}, l[j]? = some x → m[j]? = some y → eqTs (l.take j) (m.take j) = true → eqT x y = true → eqTs (l.take (j + 1)) (m.take (j + 1)) = true
 | [], _, _, _, _, h, _, _, _ => by simp at h
 | _ :: _, [], _, _, _, _, h, _, _ => by simp at h
 | a :: l, b :: m, 0, x, y, h1, h2, _, h => by
  simp at h1 h2
  subst h1 h2
  simp [eqTs, h]
 | a :: l, b :: m, j + 1, x, y, h1, h2, h3, h => by
  rw [List.take_succ_cons, List.take_succ_cons, eqTs, Bool.and_eq_true] at h3 ⊢
  exact ⟨h3.1, eqTs_snoc (by simpa using h1) (by simpa using h2) h3.2 h⟩
end Go.Proofs.YtmdcdhdjojimeaaGreatDoor
end
section
set_option linter.unusedVariables false
set_option linter.unusedSimpArgs false
namespace Go.Proofs.YtmdcdhdjojimeaaGreatDoor
open Go.RowKit

theorem eqT_no {x y : Tm} (h : ¬ x = y) : eqT x y = false := by
 cases he : eqT x y with
 | false => rfl
 | true => exact absurd ((eqT_iff x y).1 he) h
set_option maxHeartbeats 16000000 in
set_option maxRecDepth 100000 in
theorem rsameN_any (x : Tm) : ∀ (y : Tm) (u v : Value) (w : World), TmAt (· < w.heap.size) w x u → TmAt (· < w.heap.size) w y v →
  Calls Tryz.prog 31 #[u, v] w fun e w' => e = .returned (.bool (eqT x y)) ∧ Below w.heap.size w w' := by
 induction x using Tm.ind with
 | h k n s t l ih =>
  intro y u v w hT hU
  obtain ⟨k2, n2, s2, t2, m⟩ := y
  obtain ⟨A, cap, rfl, hRow, hk, hn, -⟩ := hT.parts
  obtain ⟨B, cap2, rfl, hRow2, hk2, hn2, -⟩ := hU.parts
  have hlen := hRow.max
  unfold maxLen at hlen
  have HRow := Lib.hid hRow
  have HRow2 := Lib.hid hRow2
  have HIH := Lib.hid ih
  obtain ⟨W2, hW2⟩ : ∃ W2, W2 = (w.alloc (.cells #[.int .i8 k, .int .i64 n, .string s, .string t, .slice A l.length cap] 25)).alloc (.cells #[.int .i8 k2, .int .i64 n2, .string s2, .string t2, .slice B m.length cap2] 25) := ⟨_, rfl⟩
  obtain ⟨g0, g1, hb2, z2⟩ := two9b w _ _ W2 hW2
  have HG0 := Lib.hid g0
  have HG1 := Lib.hid g1
  have HB2 := Lib.hid hb2
  obtain ⟨R, hR⟩ : ∃ R, R = eqT (.mk k n s t l) (.mk k2 n2 s2 t2 m) := ⟨_, rfl⟩
  have HR := Lib.hid hR
  rw [← hR]
  obtain ⟨a0, a1, a2, a3, a4⟩ := five_of g0
  obtain ⟨b0, b1, b2, b3, b4⟩ := five_of g1
  clear hRow hRow2 hT hU ih g0 g1 hb2 z2 hR
  go_enter Tryz.func31, Tryz.ntmps31
  go_upto_region 1 with fail
  rw [← hW2]
  clear hW2
  by_cases p0 : k = k2
  rotate_left
  ·have q0 : (k == k2) = false := beq_eq_false_iff_ne.2 p0
   have r0 : (k != k2) = true := by rw [bne, q0]; rfl
   have HN : Hid (R = false) := Lib.hid (by rw [HR.out]; exact eqT_no (fun h => p0 (by injection h)))
   go_wp2_with fail
   go_ret
   exact ⟨ret_bool HN.out.symm, HB2.out⟩
  subst p0
  have q0 : (k == k) = true := beq_self_eq_true _
  have r0 : (k != k) = false := by rw [bne, q0]; rfl
  by_cases p1 : n = n2
  rotate_left
  ·have q1 : (n == n2) = false := beq_eq_false_iff_ne.2 p1
   have r1 : (n != n2) = true := by rw [bne, q1]; rfl
   have HN : Hid (R = false) := Lib.hid (by rw [HR.out]; exact eqT_no (fun h => p1 (by injection h)))
   go_wp2_with fail
   go_ret
   exact ⟨ret_bool HN.out.symm, HB2.out⟩
  subst p1
  have q1 : (n == n) = true := beq_self_eq_true _
  have r1 : (n != n) = false := by rw [bne, q1]; rfl
  by_cases p2 : s.toList = s2.toList
  rotate_left
  ·have q2 : (s.toList == s2.toList) = false := beq_eq_false_iff_ne.2 p2
   have r2 : (s.toList != s2.toList) = true := by rw [bne, q2]; rfl
   have HN : Hid (R = false) := Lib.hid (by rw [HR.out]; exact eqT_no (fun h => p2 (by injection h with _ _ h1 h2; rw [h1])))
   go_wp2_with fail
   go_ret
   exact ⟨ret_bool HN.out.symm, HB2.out⟩
  obtain rfl : s = s2 := bytes_eq9.1 p2
  clear p2
  have q2 : (s.toList == s.toList) = true := beq_self_eq_true _
  have r2 : (s.toList != s.toList) = false := by rw [bne, q2]; rfl
  by_cases p3 : t.toList = t2.toList
  rotate_left
  ·have q3 : (t.toList == t2.toList) = false := beq_eq_false_iff_ne.2 p3
   have r3 : (t.toList != t2.toList) = true := by rw [bne, q3]; rfl
   have HN : Hid (R = false) := Lib.hid (by rw [HR.out]; exact eqT_no (fun h => p3 (by injection h with _ _ h1 h2; rw [h2])))
   go_wp2_with fail
   go_ret
   exact ⟨ret_bool HN.out.symm, HB2.out⟩
  obtain rfl : t = t2 := bytes_eq9.1 p3
  clear p3
  have q3 : (t.toList == t.toList) = true := beq_self_eq_true _
  have r3 : (t.toList != t.toList) = false := by rw [bne, q3]; rfl
  by_cases p4 : l.length = m.length
  rotate_left
  ·have q4 : ((l.length : Int) == (m.length : Int)) = false := beq_eq_false_iff_ne.2 (by omega)
   have r4 : ((l.length : Int) != (m.length : Int)) = true := by rw [bne, q4]; rfl
   have HN : Hid (R = false) := Lib.hid (by rw [HR.out]; exact eqT_no (fun h => p4 (by injection h with _ _ _ _ h1; rw [h1])))
   go_wp2_with fail
   go_ret
   exact ⟨ret_bool HN.out.symm, HB2.out⟩
  have q4 : ((l.length : Int) == (m.length : Int)) = true := beq_iff_eq.2 (by omega)
  have r4 : ((l.length : Int) != (m.length : Int)) = false := by rw [bne, q4]; rfl
  have HEQ : Hid (R = eqTs l m) := Lib.hid (by
   rw [HR.out, Bool.eq_iff_iff, eqT_iff, eqTs_iff l m (fun x _ y => eqT_iff x y)]
   constructor
   ·intro h; injection h
   ·intro h; rw [h])
  have HLM := Lib.hid p4
  clear p4
  go_upto_region 3 with fail
  clear q0 q1 q2 q3 q4 r0 r1 r2 r3 r4 a0 a1 a2 a3 a4 b0 b1 b2 b3 b4
  go_wp2_with fail
  go_loopw [5] (fun i wr => ∃ j : Nat, j ≤ l.length ∧ i = .int .i64 (j : Int) ∧ Hid (Below W2.heap.size W2 wr) ∧ Hid (eqTs (l.take j) (m.take j) = true)) (fun i _ => l.length - (intOf i).toNat)
  case atStart => exact ⟨0, Nat.zero_le _, rfl, Lib.hid (Below.refl _ _), Lib.hid (by simp [eqTs])⟩
  case round =>
   obtain ⟨j, hj, rfl, HB, HF⟩ := hrel
   have HBX := Lib.hid (HB2.out.trans (HB.out.mono HB2.out.size))
   have HGA := Lib.hid ((HB.out.block _ (heap_lt HG0.out)).trans HG0.out)
   have HGB := Lib.hid ((HB.out.block _ (heap_lt HG1.out)).trans HG1.out)
   have hga := HGA.out
   have a4 : (wr).cell? ⟨w.heap.size, 4, none⟩ = some (.slice A l.length cap) := cell_of_row (i := 4) hga rfl
   clear hga
   by_cases hlt : j < l.length
   ·obtain ⟨x, hx⟩ : ∃ x, l[j]? = some x := ⟨l[j], List.getElem?_eq_getElem hlt⟩
    obtain ⟨y, hy⟩ : ∃ y, m[j]? = some y := ⟨m[j]'(by have := HLM.out; omega), List.getElem?_eq_getElem _⟩
    obtain ⟨ad, c0, c1, c2, c3, c4, hA9, hTx, hEx⟩ := relem HRow.out HBX.out hx
    cases hA9
    obtain ⟨bd, d0, d1, d2, d3, d4, hB9, hTy, hEy⟩ := relem HRow2.out HBX.out hy
    cases hB9
    have HE1 : Hid (∀ V2, Below wr.heap.size wr V2 → ElemAt V2 ad j (.agg #[c0, c1, c2, c3, c4])) := Lib.hid (fun V2 hb2 => by
     obtain ⟨ad', u', hA', had', hE', hT'⟩ := HRow.out.at_ j x hx
     cases hA'
     exact hEx.keep (hb2.block _ (Nat.lt_of_lt_of_le had' HBX.out.size)))
    have HE2 : Hid (∀ V2, Below wr.heap.size wr V2 → ElemAt V2 bd j (.agg #[d0, d1, d2, d3, d4])) := Lib.hid (fun V2 hb2 => by
     obtain ⟨ad', u', hA', had', hE', hT'⟩ := HRow2.out.at_ j y hy
     cases hA'
     exact hEy.keep (hb2.block _ (Nat.lt_of_lt_of_le had' HBX.out.size)))
    have HC : Hid (∀ V2, Below wr.heap.size wr V2 → Calls Tryz.prog 31 #[.agg #[c0, c1, c2, c3, c4], .agg #[d0, d1, d2, d3, d4]] V2 fun e w' => e = .returned (.bool (eqT x y)) ∧ Below V2.heap.size V2 w') := Lib.hid (fun V2 hb2 => by
     have hb3 := HBX.out.trans (hb2.mono HBX.out.size)
     exact HIH.out x (List.mem_of_getElem? hx) y _ _ V2 (hTx.keep (fun b hb => hb3.block b hb) (fun b hb => Nat.lt_of_lt_of_le hb hb3.size)) (hTy.keep (fun b hb => hb3.block b hb) (fun b hb => Nat.lt_of_lt_of_le hb hb3.size)))
    have HXY := Lib.hid (And.intro hx hy)
    have hi0 : (0 : Int) ≤ (j : Int) := by omega
    have hi1 : (j : Int) < (l.length : Int) := by omega
    have hi2 : (j : Int) < (m.length : Int) := by have := HLM.out; omega
    clear hx hy hTx hTy hEx hEy
    go_upto_region 6 with fail
    clear a4
    refine wp_region_held (S := fun V => Below wr.heap.size wr V) (by kernel_rfl) ?_
    show wpAnyH _ _ _ _ _ _ _ _ wr.drew
    have hS0 : Below wr.heap.size wr wr.drew := ⟨rfl, rfl, rfl, Nat.le_refl _, fun _ _ => rfl⟩
    generalize wr.drew = D at hS0 ⊢
    refine tkq 0 ?_; (try simp only [Act.put, sI, sZ, sS])
    refine wpAnyH_take (i := 1) (oi := ⟨some 49, _, _, _, _, _⟩) (v := ?_) rfl (by kernel_rfl) (by kernel_rfl) (by kernel_rfl) (fun _ _ _ h => h) (Or.inl ⟨by kernel_rfl, ?_⟩) (by assumption) ?_; rotate_left; (intro V hV; (try dsimp only at hV); have a4 : V.cell? ⟨w.heap.size, 4, none⟩ = some (.slice (some ad) l.length cap) := cell_of_row (i := 4) ((hV.block _ (heap_lt HGA.out)).trans HGA.out) rfl; go_simp; first | done | with_reducible rfl); (try simp only [Act.put, sI, sZ, sS])
    refine tkq 2 ?_; (try simp only [Act.put, sI, sZ, sS])
    refine tkq 3 ?_; (try simp only [Act.put, sI, sZ, sS])
    refine wpAnyH_take (i := 4) (oi := ⟨some 52, _, _, _, _, _⟩) (v := ?_) rfl (by kernel_rfl) (by kernel_rfl) (by kernel_rfl) (fun _ _ _ h => h) (Or.inl ⟨by kernel_rfl, ?_⟩) (by assumption) ?_; rotate_left; (intro V hV; (try dsimp only at hV); obtain ⟨q0, q1, q2, q3, q4, hq, e0, e1, e2, e3, e4⟩ := HE1.out V hV; cases hq; go_simp; first | done | with_reducible rfl); (try simp only [Act.put, sI, sZ, sS])
    refine tkq 5 ?_; (try simp only [Act.put, sI, sZ, sS])
    refine wpAnyH_take (i := 6) (oi := ⟨some 54, _, _, _, _, _⟩) (v := ?_) rfl (by kernel_rfl) (by kernel_rfl) (by kernel_rfl) (fun _ _ _ h => h) (Or.inl ⟨by kernel_rfl, ?_⟩) (by assumption) ?_; rotate_left; (intro V hV; (try dsimp only at hV); have b4 : V.cell? ⟨w.heap.size + 1, 4, none⟩ = some (.slice (some bd) m.length cap2) := cell_of_row (i := 4) ((hV.block _ (heap_lt HGB.out)).trans HGB.out) rfl; go_simp; first | done | with_reducible rfl); (try simp only [Act.put, sI, sZ, sS])
    refine tkq 7 ?_; (try simp only [Act.put, sI, sZ, sS])
    refine tkq 8 ?_; (try simp only [Act.put, sI, sZ, sS])
    refine wpAnyH_take (i := 9) (oi := ⟨some 57, _, _, _, _, _⟩) (v := ?_) rfl (by kernel_rfl) (by kernel_rfl) (by kernel_rfl) (fun _ _ _ h => h) (Or.inl ⟨by kernel_rfl, ?_⟩) (by assumption) ?_; rotate_left; (intro V hV; (try dsimp only at hV); obtain ⟨q0, q1, q2, q3, q4, hq, e0, e1, e2, e3, e4⟩ := HE2.out V hV; cases hq; go_simp; first | done | with_reducible rfl); (try simp only [Act.put, sI, sZ, sS])
    refine wpAnyH_ready (rs := [10]) (by kernel_rfl) (by simp) ?_
    refine AllReadyH.cons (o := ⟨some 58, _, _, _, _, _⟩) rfl (fun K hK => ?_) AllReadyH.nil
    rw [if_pos (by rfl)]
    go_simp
    refine (HC.out D hS0).mono ?_
    rintro e Y ⟨rfl, bY⟩
    have hSY := hS0.trans (bY.mono hS0.size)
    clear bY
    refine hK.out _ _ hSY (fun hSn => ?_)
    clear hK K hSn; (try simp only [Act.put, sI, sZ, sS])
    clear hS0
    refine tkq 11 ?_; (try simp only [Act.put, sI, sZ, sS])
    refine wpAnyH_done (by kernel_rfl) ?_ _
    have HBY := Lib.hid (HB.out.trans (hSY.mono HB.out.size))
    clear hSY HC
    cases he : eqT x y with
    | true =>
     have HN : Hid (eqTs (l.take (j + 1)) (m.take (j + 1)) = true) := Lib.hid (eqTs_snoc HXY.out.1 HXY.out.2 HF.out he)
     clear he
     go_wp2_with fail
     go_roundw
     case rel => exact ⟨j + 1, by omega, by go_num, HBY, HN⟩
     case measure => simp [intOf]; omega
    | false =>
     have HN : Hid (R = false) := Lib.hid (by rw [HEQ.out]; exact eqTs_no HXY.out.1 HXY.out.2 he)
     clear he
     go_wp2_with fail
     go_ret
     exact ⟨ret_bool HN.out.symm, HB2.out.trans (HBY.out.mono HB2.out.size)⟩
   ·obtain rfl : j = l.length := by omega
    have HN : Hid (R = true) := Lib.hid (by rw [HEQ.out]; have h9 := HF.out; rw [List.take_length, HLM.out, List.take_length] at h9; exact h9)
    go_wp2_with fail
    go_ret
    exact ⟨ret_bool HN.out.symm, HBX.out⟩
theorem rSame7_any (x y : Tm) (u v : Value) (w : World) (hT : TmAt (· < w.heap.size) w x u) (hU : TmAt (· < w.heap.size) w y v) :
  Calls Tryz.prog 10 #[u, v] w fun e w' => e = .returned (.bool (sameR x y)) ∧ Below w.heap.size w w' := by
 obtain ⟨X, hX⟩ : ∃ X, X = x := ⟨_, rfl⟩
 obtain ⟨Y, hY⟩ : ∃ Y, Y = y := ⟨_, rfl⟩
 rw [← hX] at hT ⊢
 rw [← hY] at hU ⊢
 obtain ⟨k, n, s, t, l⟩ := x
 obtain ⟨k2, n2, s2, t2, m⟩ := y
 have HT := Lib.hid hT
 have HU := Lib.hid hU
 rw [hX] at hT
 rw [hY] at hU
 obtain ⟨A, cap, rfl, -⟩ := hT.parts
 obtain ⟨B, cap2, rfl, -⟩ := hU.parts
 obtain ⟨W2, hW2⟩ : ∃ W2, W2 = (w.alloc (.cells #[.int .i8 k, .int .i64 n, .string s, .string t, .slice A l.length cap] 25)).alloc (.cells #[.int .i8 k2, .int .i64 n2, .string s2, .string t2, .slice B m.length cap2] 25) := ⟨_, rfl⟩
 obtain ⟨g0, g1, hb2, z2⟩ := two9b w _ _ W2 hW2
 have HG0 := Lib.hid g0
 have HG1 := Lib.hid g1
 have HB2 := Lib.hid hb2
 have HBQ : Hid (Below W2.heap.size W2 W2) := Lib.hid (Below.refl _ _)
 obtain ⟨R, hR⟩ : ∃ R, R = sameR X Y := ⟨_, rfl⟩
 have HR : Hid (R = (fitsB X && fitsB Y && eqT X Y)) := Lib.hid hR
 rw [← hR]
 obtain ⟨a0, a1, a2, a3, a4⟩ := five_of g0
 obtain ⟨b0, b1, b2, b3, b4⟩ := five_of g1
 clear hT hU g0 g1 hb2 z2 hR hX hY
 go_enter Tryz.func10, Tryz.ntmps10
 go_upto_region 1 with fail
 rw [← hW2]
 clear hW2
 go_wp2_with fail
 refine (rFits_any X _ W2 (HT.out.laterN HB2.out)).mono ?_
 rintro e W3 ⟨rfl, b3'⟩
 have HB3 := Lib.hid b3'
 have HW3 := Lib.hid (HB2.out.trans (b3'.mono HB2.out.size))
 clear b3' a0 a1 a2 a3 a4 b0 b1 b2 b3 b4
 have ha9 := (HB3.out.block _ (heap_lt HG0.out)).trans HG0.out
 have hb9 := (HB3.out.block _ (heap_lt HG1.out)).trans HG1.out
 obtain ⟨a0, a1, a2, a3, a4⟩ := five_of ha9
 obtain ⟨b0, b1, b2, b3, b4⟩ := five_of hb9
 clear ha9 hb9
 cases hf : fitsB X with
 | false =>
  have HN : Hid (R = false) := Lib.hid (by rw [HR.out, hf]; rfl)
  clear hf
  go_wp2_with fail
  go_ret
  exact ⟨ret_bool HN.out.symm, HW3.out⟩
 | true =>
  have HR2 : Hid (R = (fitsB Y && eqT X Y)) := Lib.hid (by rw [HR.out, hf]; rfl)
  clear hf
  go_wp2_with fail
  refine (rFits_any Y _ W3 (HU.out.laterN HW3.out)).mono ?_
  rintro e W4 ⟨rfl, b4'⟩
  have HB4 := Lib.hid (HB3.out.trans (b4'.mono HB3.out.size))
  have HW4 := Lib.hid (HW3.out.trans (b4'.mono HW3.out.size))
  clear b4' a0 a1 a2 a3 a4 b0 b1 b2 b3 b4
  have ha9 := (HB4.out.block _ (heap_lt HG0.out)).trans HG0.out
  have hb9 := (HB4.out.block _ (heap_lt HG1.out)).trans HG1.out
  obtain ⟨a0, a1, a2, a3, a4⟩ := five_of ha9
  obtain ⟨b0, b1, b2, b3, b4⟩ := five_of hb9
  clear ha9 hb9
  cases hf : fitsB Y with
  | false =>
   have HN : Hid (R = false) := Lib.hid (by rw [HR2.out, hf]; rfl)
   clear hf
   go_wp2_with fail
   go_ret
   exact ⟨ret_bool HN.out.symm, HW4.out⟩
  | true =>
   have HR3 : Hid (R = eqT X Y) := Lib.hid (by rw [HR2.out, hf]; rfl)
   clear hf
   go_wp2_with fail
   refine (rsameN_any X Y _ _ W4 (HT.out.laterN HW4.out) (HU.out.laterN HW4.out)).mono ?_
   rintro e W5 ⟨rfl, b5'⟩
   have HW5 := Lib.hid (HW4.out.trans (b5'.mono HW4.out.size))
   clear b5' a0 a1 a2 a3 a4 b0 b1 b2 b3 b4
   rw [← HR3.out]
   go_wp2_with fail
   go_ret
   exact ⟨rfl, HW5.out⟩
end Go.Proofs.YtmdcdhdjojimeaaGreatDoor
end
