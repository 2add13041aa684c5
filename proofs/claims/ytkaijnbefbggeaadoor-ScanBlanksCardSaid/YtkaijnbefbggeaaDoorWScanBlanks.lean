/- ScanBlanks: its walk. -/
import Derived.Test.YtkaijnbefbggeaaDoorScanW
import Derived.Test.YtkaijnbefbggeaaDoorWScanJoin
import Derived.Deep.RegionHeld
import Derived.OrdersHeld
set_option linter.unusedVariables false
set_option linter.unusedSimpArgs false
namespace Go.Proofs.YtkaijnbefbggeaaDoor
open Go.RowKit

theorem bx_tk (w W : World) (tk tn : Int) (xa : Nat) (ts : ByteArray) (h : W = (w.alloc (.cells #[.int .i8 tk, .int .i64 tn, .string ts, .int .i64 xa] 25)).alloc (.cells #[.int .i64 0, .int .i64 0] 28)) :
    W.heap[w.heap.size]? = some (.cells #[.int .i8 tk, .int .i64 tn, .string ts, .int .i64 xa] 25 (0, 0)) ∧ W.heap[w.heap.size + 1]? = some (.cells #[.int .i64 0, .int .i64 0] 28 (0, 0)) ∧ Below w.heap.size w W := by
  have h1 := block_alloc (w.alloc (.cells #[.int .i8 tk, .int .i64 tn, .string ts, .int .i64 xa] 25)) (.cells #[.int .i64 0, .int .i64 0] 28)
  rw [World.size_alloc] at h1
  subst h
  exact ⟨(Below.heap_alloc _ _ _ (by simp)).trans (block_alloc _ _), h1, ((Below.refl _ w).alloc (Nat.le_refl _) _).alloc (by simp) _⟩

theorem blanks_n (m : Int) (h1 : -9223372036854775808 ≤ m) (h2 : m ≤ 9223372036854775807) : ∃ K : Nat, wrap64 (1 + (wrap64 (m.tmod 20 + 20)).tmod 20) = (K : Int) ∧ 1 ≤ K ∧ K ≤ 20 := by
  have a1 := Int.tmod_lt_of_pos m (show (0 : Int) < 20 by decide)
  have a2 := Int.lt_tmod_of_pos m (show (0 : Int) < 20 by decide)
  generalize m.tmod 20 = u at a1 a2
  have e1 : wrap64 (u + 20) = u + 20 := by unfold wrap64; omega
  rw [e1, Int.tmod_eq_emod_of_nonneg (by omega)]
  refine ⟨(1 + (u + 20) % 20).toNat, ?_, by omega, by omega⟩
  unfold wrap64
  omega

set_option maxHeartbeats 16000000 in
set_option maxRecDepth 100000 in
theorem scanBlanks_of {E : World → Prop} (hE : ∀ w w', E w → Below w.heap.size w w' → E w') (hC : ScanC E) (hN : NextC E) (hB : BlankC E) (s : ByteArray) (hms : s.size ≤ maxLen) (BA : Option Addr) (bn bcap : Nat) (hbm : bn ≤ maxLen) (w : World)
    (hBR : ∀ i, i < bn → ∃ bd m, BA = some bd ∧ bd.block < w.heap.size ∧ w.cell? (bd.add i) = some (.int .i64 m) ∧ -9223372036854775808 ≤ m ∧ m ≤ 9223372036854775807) (hw : E w) :
    Calls Tryd.prog 4 #[.string s, .slice BA bn bcap] w fun e w' => e = .returned (.bool true) ∧ Below w.heap.size w w' := by
  have HE := Lib.hid hE
  have HC := Lib.hid hC
  have HN := Lib.hid hN
  have HBK := Lib.hid hB
  have HW := Lib.hid hw
  have HBR := Lib.hid hBR
  unfold maxLen at hms hbm
  clear hE hC hN hB hw hBR
  by_cases ha : (2000 : Int) < (s.size : Int)
  · go_enter Tryd.func4, Tryd.ntmps4
    go_wp2_with fail
    refine (wakes6_ok HE.out HC.out w HW.out).mono ?_
    rintro e V ⟨rfl, b6⟩
    go_wp2_with fail
    go_ret
    exact ⟨rfl, b6⟩
  have hsz : s.size ≤ 2000 := by omega
  obtain ⟨TS, ra, hA⟩ : ∃ TS ra, scanL s.size 0 s.data.toList = (TS, ra) := ⟨_, _, rfl⟩
  have HA := Lib.hid hA
  clear hA
  cases ra with
  | some ea =>
    obtain ⟨e1, p1⟩ := ea
    have HV1 : Hid (scanV s = ([], e1, (p1 : Int))) := scanV_bad (by omega) HA.out
    have hbad := (scan_bad _ _ _ e1 p1 (by rw [HA.out])).1
    have hne : (e1 != 0) = true := by rw [bne_iff_ne]; omega
    clear hbad
    go_enter Tryd.func4, Tryd.ntmps4
    go_wp2_with fail
    refine (HC.out s w (by omega) HW.out).mono ?_
    rintro e w1 ⟨A1, cap1, rfl, hr1, b1⟩
    rw [HV1.out] at hr1 ⊢
    dsimp only at hr1 ⊢
    try simp only [List.length_map, List.length_nil]
    obtain ⟨W1, hW1⟩ : ∃ W1, W1 = w1.alloc (.cells #[.int .i64 e1, .int .i64 p1] 28) := ⟨_, rfl⟩
    have c1 : Below w1.heap.size w1 W1 := by rw [hW1]; exact (Below.refl _ _).alloc (Nat.le_refl _) _
    have g1 : W1.heap[w1.heap.size]? = some (.cells #[.int .i64 e1, .int .i64 p1] 28 (0, 0)) := by rw [hW1]; exact block_alloc _ _
    have d1 := b1.trans (c1.mono b1.size)
    have HD1 := Lib.hid d1
    have HB1 := Lib.hid (d1)
    have HR1 := Lib.hid (hr1.later c1)
    have fl10 : W1.cell? ⟨w1.heap.size, 0, none⟩ = some (.int .i64 e1) := cell_of_row g1 rfl
    have fl11 : W1.cell? ⟨w1.heap.size, 1, none⟩ = some (.int .i64 p1) := cell_of_row g1 rfl
    clear hr1 b1 c1 g1 d1
    subst hW1
    go_wp2_with fail
    generalize w1.alloc (.cells #[.int .i64 e1, .int .i64 p1] 28) = W1 at HB1 ⊢
    refine (wakes6_ok HE.out HC.out W1 (HE.out _ _ HW.out HB1.out)).mono ?_
    rintro e w6 ⟨rfl, b6⟩
    have HB6 := Lib.hid (HB1.out.trans (b6.mono HB1.out.size))
    clear b6
    go_wp2_with fail
    go_ret
    exact ⟨rfl, HB6.out⟩
  | none =>
    have HV1 : Hid (scanV s = (TS.map PT.tk, 0, 0)) := scanV_ok (by omega) HA.out
    have htl : TS.length ≤ 2000 := by have := (scan_count s.size 0 s.data.toList).1; rw [HA.out, size_list] at this; have h5 : TS.length ≤ s.size := this; omega
    go_enter Tryd.func4, Tryd.ntmps4
    go_wp2_with fail
    refine (HC.out s w (by omega) HW.out).mono ?_
    rintro e w1 ⟨A1, cap1, rfl, hr1, b1⟩
    rw [HV1.out] at hr1 ⊢
    dsimp only at hr1 ⊢
    try simp only [List.length_map, List.length_nil]
    obtain ⟨W1, hW1⟩ : ∃ W1, W1 = w1.alloc (.cells #[.int .i64 0, .int .i64 0] 28) := ⟨_, rfl⟩
    have c1 : Below w1.heap.size w1 W1 := by rw [hW1]; exact (Below.refl _ _).alloc (Nat.le_refl _) _
    have g1 : W1.heap[w1.heap.size]? = some (.cells #[.int .i64 0, .int .i64 0] 28 (0, 0)) := by rw [hW1]; exact block_alloc _ _
    have d1 := b1.trans (c1.mono b1.size)
    have HD1 := Lib.hid d1
    have HB1 := Lib.hid (d1)
    have HR1 := Lib.hid (hr1.later c1)
    have fl10 : W1.cell? ⟨w1.heap.size, 0, none⟩ = some (.int .i64 0) := cell_of_row g1 rfl
    have fl11 : W1.cell? ⟨w1.heap.size, 1, none⟩ = some (.int .i64 0) := cell_of_row g1 rfl
    clear hr1 b1 c1 g1 d1
    subst hW1
    go_wp2_with fail
    generalize w1.alloc (.cells #[.int .i64 0, .int .i64 0] 28) = W1 at HB1 HR1 HD1 ⊢
    clear fl10 fl11
    go_loopw [7, 8, 9] (fun wv ov iv wr => ∃ (j o : Nat) (ws : List PW) (wd : ByteArray), j ≤ TS.length ∧ wv = .string wd ∧ ov = .int .i64 o ∧ iv = .int .i64 j ∧ o ≤ s.size ∧ Hid (scanL s.size o (s.data.toList.drop o) = (TS.drop j, none)) ∧ Hid (wd.data.toList = wideL ws ∧ ws.length = j ∧ (∀ q ∈ ws, 1 ≤ q.n ∧ tokL q.p = .tok q.k q.v q.p.length q.sl) ∧ ws.map (fun q => (q.k, q.v, q.p.take q.sl)) = (TS.take j).map (fun t => (t.k, t.n, t.s))) ∧ wd.size ≤ 20 * j + o ∧ Below W1.heap.size W1 wr) (fun _ _ iv _ => TS.length - (intOf iv).toNat)
    case atStart => exact ⟨0, 0, [], ⟨#[]⟩, Nat.zero_le _, rfl, rfl, rfl, Nat.zero_le _, HA.out, ⟨rfl, rfl, fun q h => by simp at h, rfl⟩, Nat.zero_le _, Below.refl _ _⟩
    case round =>
      obtain ⟨j, o, ws, wd, hj, rfl, rfl, rfl, ho, HO, HI, hwd, hBB⟩ := hrel
      have HBB := Lib.hid hBB
      clear hBB
      by_cases hlt : j < TS.length
      · obtain ⟨x, hx⟩ : ∃ x, TS[j]? = some x := ⟨TS[j], List.getElem?_eq_getElem hlt⟩
        have hdr : TS.drop j = x :: TS.drop (j + 1) := by
          rw [List.drop_eq_getElem_cons hlt]
          rw [List.getElem?_eq_getElem hlt] at hx
          cases hx
          rfl
        obtain ⟨hbl, hnr, hxo, hxe, hxs, hnx, sl, ht1, ht2, ht3⟩ := scan_step ho (HO.out.trans (by rw [hdr]))
        obtain ⟨ad, rfl, hl1, r1⟩ := HR1.out j x.tk (by rw [List.getElem?_map, hx]; rfl)
        obtain ⟨tk, tn, tl, xa, xe⟩ := x
        dsimp only at hbl hnr hxo hxe hxs hnx ht1 ht2 ht3
        obtain ⟨ts, hts⟩ : ∃ ts : ByteArray, ts = ⟨tl.toArray⟩ := ⟨_, rfl⟩
        have e1 : PT.tk ⟨tk, tn, tl, xa, xe⟩ = ⟨tk, tn, ts, xa⟩ := by rw [hts]; rfl
        rw [e1] at r1 hnr
        obtain ⟨M, hM⟩ : ∃ M : Nat, M = xa + xe := ⟨_, rfl⟩
        rw [← hM] at hnr hnx hxs
        have f1 : ¬ (xa : Int) < (o : Int) := by omega
        have f2 : ¬ (M : Int) ≤ (xa : Int) := by omega
        have f3 : ¬ (s.size : Int) < (M : Int) := by omega
        have HNX : Hid (∀ V : World, E V → Calls Tryd.prog 7 #[.string s, .int .i64 o] V fun r w' => r = .returned (NR.v ⟨⟨tk, tn, ts, xa⟩, M, 0, 0⟩) ∧ Below V.heap.size V w') := fun V hV => by rw [← hnr]; exact HN.out s o V (by omega) hV
        have HBX : Hid (∀ V : World, E V → Calls Tryd.prog 9 #[.string s, .int .i64 o] V fun r w' => r = .returned (.int .i64 (xa : Nat)) ∧ Below V.heap.size V w') := fun V hV => by rw [← hbl]; exact HBK.out s o V (by omega) hV
        have HM := Lib.hid hM
        have HPP := Lib.hid (And.intro hnx (And.intro ht1 (And.intro ht2 ht3)))
        have HXX := Lib.hid hx
        have HRR := Lib.hid (r1.keep (HBB.out.block _ hl1))
        have HLL := Lib.hid (Nat.lt_of_lt_of_le hl1 HBB.out.size)
        have i0 : (0 : Int) ≤ (j : Int) := by omega
        have i1 : (j : Int) < (TS.length : Int) := by omega
        clear hdr hbl hnr hnx ht1 ht2 ht3 r1 e1 hts hM hx hl1
        go_wp2_with fail
        refine (HNX.out wr (HE.out _ _ HW.out (HB1.out.trans (HBB.out.mono HB1.out.size)))).mono ?_
        rintro r w3 ⟨rfl, b3⟩
        simp only [NR.v, Tk.v]
        obtain ⟨W3, hW3⟩ : ∃ W3, W3 = (w3.alloc (.cells #[.int .i8 tk, .int .i64 tn, .string ts, .int .i64 xa] 25)).alloc (.cells #[.int .i64 0, .int .i64 0] 28) := ⟨_, rfl⟩
        obtain ⟨g10, g12, b4⟩ := bx_tk w3 W3 tk tn xa ts hW3
        have b34 := b3.trans (b4.mono b3.size)
        have HS3 := Lib.hid (And.intro g10 (And.intro g12 (HRR.out.keep (b34.block _ HLL.out))))
        have HB3 := Lib.hid (HBB.out.trans (b34.mono HBB.out.size))
        have HL3 := Lib.hid (Nat.lt_of_lt_of_le HLL.out b34.size)
        clear b3 b4 b34 g10 g12
        subst hW3
        go_wp2_with fail
        generalize (w3.alloc (.cells #[.int .i8 tk, .int .i64 tn, .string ts, .int .i64 xa] 25)).alloc (.cells #[.int .i64 0, .int .i64 0] 28) = W3 at HS3 HB3 HL3 ⊢
        have hS0 : W3.drew.heap[w3.heap.size]? = some (.cells #[.int .i8 tk, .int .i64 tn, .string ts, .int .i64 xa] 25 (0, 0)) ∧ W3.drew.heap[w3.heap.size + 1]? = some (.cells #[.int .i64 0, .int .i64 0] 28 (0, 0)) ∧ RowT W3.drew ad j ⟨tk, tn, ts, (xa : Int)⟩ := HS3.out
        have hB0 : Below W1.heap.size W1 W3.drew := HB3.out.trans (Below.mono ⟨rfl, rfl, rfl, Nat.le_refl _, fun _ _ => rfl⟩ HB3.out.size)
        have hL0 : ad.block < W3.drew.heap.size := HL3.out
        refine wp_region_held (S := fun V => V.heap[w3.heap.size]? = some (.cells #[.int .i8 tk, .int .i64 tn, .string ts, .int .i64 xa] 25 (0, 0)) ∧ V.heap[w3.heap.size + 1]? = some (.cells #[.int .i64 0, .int .i64 0] 28 (0, 0)) ∧ RowT V ad j ⟨tk, tn, ts, (xa : Int)⟩) (by kernel_rfl) ?_
        show wpAnyH _ _ _ _ _ _ _ _ W3.drew
        generalize W3.drew = D at hS0 hB0 hL0 ⊢
        refine wpAnyH_take (i := 0) (oi := ⟨some 49, _, _, _, _, _⟩) (v := ?_) rfl (by kernel_rfl) (by kernel_rfl) (by kernel_rfl) (fun _ _ _ h => h) (Or.inl ⟨by kernel_rfl, ?_⟩) (by assumption) ?_; rotate_left; (intro w hSw; (try dsimp only at hSw); obtain ⟨hg, hf, ⟨r0, r1, r2, r3⟩⟩ := hSw; dsimp only at r0 r1 r2 r3; have z0 : w.cell? ⟨w3.heap.size, 0, none⟩ = some (.int .i8 tk) := cell_of_row hg rfl; have z1 : w.cell? ⟨w3.heap.size, 1, none⟩ = some (.int .i64 tn) := cell_of_row hg rfl; have z2 : w.cell? ⟨w3.heap.size, 2, none⟩ = some (.string ts) := cell_of_row hg rfl; have z3 : w.cell? ⟨w3.heap.size, 3, none⟩ = some (.int .i64 xa) := cell_of_row hg rfl; have y0 : w.cell? ⟨w3.heap.size + 1, 0, none⟩ = some (.int .i64 0) := cell_of_row hf rfl; have y1 : w.cell? ⟨w3.heap.size + 1, 1, none⟩ = some (.int .i64 0) := cell_of_row hf rfl; go_simp; first | done | with_reducible rfl); (try simp only [Act.put, List.setIfInBounds_toArray, List.set_cons_zero, List.set_cons_succ])
        refine wpAnyH_take (i := 1) (oi := ⟨some 50, _, _, _, _, _⟩) (v := ?_) rfl (by kernel_rfl) (by kernel_rfl) (by kernel_rfl) (fun _ _ _ h => h) (Or.inl ⟨by kernel_rfl, ?_⟩) (by assumption) ?_; rotate_left; (intro w hSw; (try dsimp only at hSw); obtain ⟨hg, hf, ⟨r0, r1, r2, r3⟩⟩ := hSw; dsimp only at r0 r1 r2 r3; have z0 : w.cell? ⟨w3.heap.size, 0, none⟩ = some (.int .i8 tk) := cell_of_row hg rfl; have z1 : w.cell? ⟨w3.heap.size, 1, none⟩ = some (.int .i64 tn) := cell_of_row hg rfl; have z2 : w.cell? ⟨w3.heap.size, 2, none⟩ = some (.string ts) := cell_of_row hg rfl; have z3 : w.cell? ⟨w3.heap.size, 3, none⟩ = some (.int .i64 xa) := cell_of_row hg rfl; have y0 : w.cell? ⟨w3.heap.size + 1, 0, none⟩ = some (.int .i64 0) := cell_of_row hf rfl; have y1 : w.cell? ⟨w3.heap.size + 1, 1, none⟩ = some (.int .i64 0) := cell_of_row hf rfl; go_simp; first | done | with_reducible rfl); (try simp only [Act.put, List.setIfInBounds_toArray, List.set_cons_zero, List.set_cons_succ])
        refine wpAnyH_take (i := 2) (oi := ⟨some 51, _, _, _, _, _⟩) (v := ?_) rfl (by kernel_rfl) (by kernel_rfl) (by kernel_rfl) (fun _ _ _ h => h) (Or.inl ⟨by kernel_rfl, ?_⟩) (by assumption) ?_; rotate_left; (intro w hSw; (try dsimp only at hSw); obtain ⟨hg, hf, ⟨r0, r1, r2, r3⟩⟩ := hSw; dsimp only at r0 r1 r2 r3; have z0 : w.cell? ⟨w3.heap.size, 0, none⟩ = some (.int .i8 tk) := cell_of_row hg rfl; have z1 : w.cell? ⟨w3.heap.size, 1, none⟩ = some (.int .i64 tn) := cell_of_row hg rfl; have z2 : w.cell? ⟨w3.heap.size, 2, none⟩ = some (.string ts) := cell_of_row hg rfl; have z3 : w.cell? ⟨w3.heap.size, 3, none⟩ = some (.int .i64 xa) := cell_of_row hg rfl; have y0 : w.cell? ⟨w3.heap.size + 1, 0, none⟩ = some (.int .i64 0) := cell_of_row hf rfl; have y1 : w.cell? ⟨w3.heap.size + 1, 1, none⟩ = some (.int .i64 0) := cell_of_row hf rfl; go_simp; first | done | with_reducible rfl); (try simp only [Act.put, List.setIfInBounds_toArray, List.set_cons_zero, List.set_cons_succ])
        refine wpAnyH_take (i := 3) (oi := ⟨some 52, _, _, _, _, _⟩) (v := ?_) rfl (by kernel_rfl) (by kernel_rfl) (by kernel_rfl) (fun _ _ _ h => h) (Or.inl ⟨by kernel_rfl, ?_⟩) (by assumption) ?_; rotate_left; (intro w hSw; (try dsimp only at hSw); obtain ⟨hg, hf, ⟨r0, r1, r2, r3⟩⟩ := hSw; dsimp only at r0 r1 r2 r3; have z0 : w.cell? ⟨w3.heap.size, 0, none⟩ = some (.int .i8 tk) := cell_of_row hg rfl; have z1 : w.cell? ⟨w3.heap.size, 1, none⟩ = some (.int .i64 tn) := cell_of_row hg rfl; have z2 : w.cell? ⟨w3.heap.size, 2, none⟩ = some (.string ts) := cell_of_row hg rfl; have z3 : w.cell? ⟨w3.heap.size, 3, none⟩ = some (.int .i64 xa) := cell_of_row hg rfl; have y0 : w.cell? ⟨w3.heap.size + 1, 0, none⟩ = some (.int .i64 0) := cell_of_row hf rfl; have y1 : w.cell? ⟨w3.heap.size + 1, 1, none⟩ = some (.int .i64 0) := cell_of_row hf rfl; go_simp; first | done | with_reducible rfl); (try simp only [Act.put, List.setIfInBounds_toArray, List.set_cons_zero, List.set_cons_succ])
        refine wpAnyH_take (i := 4) (oi := ⟨some 53, _, _, _, _, _⟩) (v := ?_) rfl (by kernel_rfl) (by kernel_rfl) (by kernel_rfl) (fun _ _ _ h => h) (Or.inl ⟨by kernel_rfl, ?_⟩) (by assumption) ?_; rotate_left; (intro w hSw; (try dsimp only at hSw); obtain ⟨hg, hf, ⟨r0, r1, r2, r3⟩⟩ := hSw; dsimp only at r0 r1 r2 r3; have z0 : w.cell? ⟨w3.heap.size, 0, none⟩ = some (.int .i8 tk) := cell_of_row hg rfl; have z1 : w.cell? ⟨w3.heap.size, 1, none⟩ = some (.int .i64 tn) := cell_of_row hg rfl; have z2 : w.cell? ⟨w3.heap.size, 2, none⟩ = some (.string ts) := cell_of_row hg rfl; have z3 : w.cell? ⟨w3.heap.size, 3, none⟩ = some (.int .i64 xa) := cell_of_row hg rfl; have y0 : w.cell? ⟨w3.heap.size + 1, 0, none⟩ = some (.int .i64 0) := cell_of_row hf rfl; have y1 : w.cell? ⟨w3.heap.size + 1, 1, none⟩ = some (.int .i64 0) := cell_of_row hf rfl; go_simp; first | done | with_reducible rfl); (try simp only [Act.put, List.setIfInBounds_toArray, List.set_cons_zero, List.set_cons_succ])
        refine wpAnyH_take (i := 5) (oi := ⟨some 54, _, _, _, _, _⟩) (v := ?_) rfl (by kernel_rfl) (by kernel_rfl) (by kernel_rfl) (fun _ _ _ h => h) (Or.inl ⟨by kernel_rfl, ?_⟩) (by assumption) ?_; rotate_left; (intro w hSw; (try dsimp only at hSw); obtain ⟨hg, hf, ⟨r0, r1, r2, r3⟩⟩ := hSw; dsimp only at r0 r1 r2 r3; have z0 : w.cell? ⟨w3.heap.size, 0, none⟩ = some (.int .i8 tk) := cell_of_row hg rfl; have z1 : w.cell? ⟨w3.heap.size, 1, none⟩ = some (.int .i64 tn) := cell_of_row hg rfl; have z2 : w.cell? ⟨w3.heap.size, 2, none⟩ = some (.string ts) := cell_of_row hg rfl; have z3 : w.cell? ⟨w3.heap.size, 3, none⟩ = some (.int .i64 xa) := cell_of_row hg rfl; have y0 : w.cell? ⟨w3.heap.size + 1, 0, none⟩ = some (.int .i64 0) := cell_of_row hf rfl; have y1 : w.cell? ⟨w3.heap.size + 1, 1, none⟩ = some (.int .i64 0) := cell_of_row hf rfl; go_simp; first | done | with_reducible rfl); (try simp only [Act.put, List.setIfInBounds_toArray, List.set_cons_zero, List.set_cons_succ])
        refine wpAnyH_take (i := 6) (oi := ⟨some 55, _, _, _, _, _⟩) (v := ?_) rfl (by kernel_rfl) (by kernel_rfl) (by kernel_rfl) (fun _ _ _ h => h) (Or.inl ⟨by kernel_rfl, ?_⟩) (by assumption) ?_; rotate_left; (intro w hSw; (try dsimp only at hSw); obtain ⟨hg, hf, ⟨r0, r1, r2, r3⟩⟩ := hSw; dsimp only at r0 r1 r2 r3; have z0 : w.cell? ⟨w3.heap.size, 0, none⟩ = some (.int .i8 tk) := cell_of_row hg rfl; have z1 : w.cell? ⟨w3.heap.size, 1, none⟩ = some (.int .i64 tn) := cell_of_row hg rfl; have z2 : w.cell? ⟨w3.heap.size, 2, none⟩ = some (.string ts) := cell_of_row hg rfl; have z3 : w.cell? ⟨w3.heap.size, 3, none⟩ = some (.int .i64 xa) := cell_of_row hg rfl; have y0 : w.cell? ⟨w3.heap.size + 1, 0, none⟩ = some (.int .i64 0) := cell_of_row hf rfl; have y1 : w.cell? ⟨w3.heap.size + 1, 1, none⟩ = some (.int .i64 0) := cell_of_row hf rfl; go_simp; first | done | with_reducible rfl); (try simp only [Act.put, List.setIfInBounds_toArray, List.set_cons_zero, List.set_cons_succ])
        refine wpAnyH_take (i := 7) (oi := ⟨some 56, _, _, _, _, _⟩) (v := ?_) rfl (by kernel_rfl) (by kernel_rfl) (by kernel_rfl) (fun _ _ _ h => h) (Or.inl ⟨by kernel_rfl, ?_⟩) (by assumption) ?_; rotate_left; (intro w hSw; (try dsimp only at hSw); obtain ⟨hg, hf, ⟨r0, r1, r2, r3⟩⟩ := hSw; dsimp only at r0 r1 r2 r3; have z0 : w.cell? ⟨w3.heap.size, 0, none⟩ = some (.int .i8 tk) := cell_of_row hg rfl; have z1 : w.cell? ⟨w3.heap.size, 1, none⟩ = some (.int .i64 tn) := cell_of_row hg rfl; have z2 : w.cell? ⟨w3.heap.size, 2, none⟩ = some (.string ts) := cell_of_row hg rfl; have z3 : w.cell? ⟨w3.heap.size, 3, none⟩ = some (.int .i64 xa) := cell_of_row hg rfl; have y0 : w.cell? ⟨w3.heap.size + 1, 0, none⟩ = some (.int .i64 0) := cell_of_row hf rfl; have y1 : w.cell? ⟨w3.heap.size + 1, 1, none⟩ = some (.int .i64 0) := cell_of_row hf rfl; go_simp; first | done | with_reducible rfl); (try simp only [Act.put, List.setIfInBounds_toArray, List.set_cons_zero, List.set_cons_succ])
        refine wpAnyH_take (i := 8) (oi := ⟨some 57, _, _, _, _, _⟩) (v := ?_) rfl (by kernel_rfl) (by kernel_rfl) (by kernel_rfl) (fun _ _ _ h => h) (Or.inl ⟨by kernel_rfl, ?_⟩) (by assumption) ?_; rotate_left; (intro w hSw; (try dsimp only at hSw); obtain ⟨hg, hf, ⟨r0, r1, r2, r3⟩⟩ := hSw; dsimp only at r0 r1 r2 r3; have z0 : w.cell? ⟨w3.heap.size, 0, none⟩ = some (.int .i8 tk) := cell_of_row hg rfl; have z1 : w.cell? ⟨w3.heap.size, 1, none⟩ = some (.int .i64 tn) := cell_of_row hg rfl; have z2 : w.cell? ⟨w3.heap.size, 2, none⟩ = some (.string ts) := cell_of_row hg rfl; have z3 : w.cell? ⟨w3.heap.size, 3, none⟩ = some (.int .i64 xa) := cell_of_row hg rfl; have y0 : w.cell? ⟨w3.heap.size + 1, 0, none⟩ = some (.int .i64 0) := cell_of_row hf rfl; have y1 : w.cell? ⟨w3.heap.size + 1, 1, none⟩ = some (.int .i64 0) := cell_of_row hf rfl; go_simp; first | done | with_reducible rfl); (try simp only [Act.put, List.setIfInBounds_toArray, List.set_cons_zero, List.set_cons_succ])
        refine wpAnyH_take (i := 9) (oi := ⟨some 58, _, _, _, _, _⟩) (v := ?_) rfl (by kernel_rfl) (by kernel_rfl) (by kernel_rfl) (fun _ _ _ h => h) (Or.inl ⟨by kernel_rfl, ?_⟩) (by assumption) ?_; rotate_left; (intro w hSw; (try dsimp only at hSw); obtain ⟨hg, hf, ⟨r0, r1, r2, r3⟩⟩ := hSw; dsimp only at r0 r1 r2 r3; have z0 : w.cell? ⟨w3.heap.size, 0, none⟩ = some (.int .i8 tk) := cell_of_row hg rfl; have z1 : w.cell? ⟨w3.heap.size, 1, none⟩ = some (.int .i64 tn) := cell_of_row hg rfl; have z2 : w.cell? ⟨w3.heap.size, 2, none⟩ = some (.string ts) := cell_of_row hg rfl; have z3 : w.cell? ⟨w3.heap.size, 3, none⟩ = some (.int .i64 xa) := cell_of_row hg rfl; have y0 : w.cell? ⟨w3.heap.size + 1, 0, none⟩ = some (.int .i64 0) := cell_of_row hf rfl; have y1 : w.cell? ⟨w3.heap.size + 1, 1, none⟩ = some (.int .i64 0) := cell_of_row hf rfl; go_simp; first | done | with_reducible rfl); (try simp only [Act.put, List.setIfInBounds_toArray, List.set_cons_zero, List.set_cons_succ])
        refine wpAnyH_take (i := 10) (oi := ⟨some 59, _, _, _, _, _⟩) (v := ?_) rfl (by kernel_rfl) (by kernel_rfl) (by kernel_rfl) (fun _ _ _ h => h) (Or.inl ⟨by kernel_rfl, ?_⟩) (by assumption) ?_; rotate_left; (intro w hSw; (try dsimp only at hSw); obtain ⟨hg, hf, ⟨r0, r1, r2, r3⟩⟩ := hSw; dsimp only at r0 r1 r2 r3; have z0 : w.cell? ⟨w3.heap.size, 0, none⟩ = some (.int .i8 tk) := cell_of_row hg rfl; have z1 : w.cell? ⟨w3.heap.size, 1, none⟩ = some (.int .i64 tn) := cell_of_row hg rfl; have z2 : w.cell? ⟨w3.heap.size, 2, none⟩ = some (.string ts) := cell_of_row hg rfl; have z3 : w.cell? ⟨w3.heap.size, 3, none⟩ = some (.int .i64 xa) := cell_of_row hg rfl; have y0 : w.cell? ⟨w3.heap.size + 1, 0, none⟩ = some (.int .i64 0) := cell_of_row hf rfl; have y1 : w.cell? ⟨w3.heap.size + 1, 1, none⟩ = some (.int .i64 0) := cell_of_row hf rfl; go_simp; first | done | with_reducible rfl); (try simp only [Act.put, List.setIfInBounds_toArray, List.set_cons_zero, List.set_cons_succ])
        refine wpAnyH_take (i := 11) (oi := ⟨some 60, _, _, _, _, _⟩) (v := ?_) rfl (by kernel_rfl) (by kernel_rfl) (by kernel_rfl) (fun _ _ _ h => h) (Or.inl ⟨by kernel_rfl, ?_⟩) (by assumption) ?_; rotate_left; (intro w hSw; (try dsimp only at hSw); obtain ⟨hg, hf, ⟨r0, r1, r2, r3⟩⟩ := hSw; dsimp only at r0 r1 r2 r3; have z0 : w.cell? ⟨w3.heap.size, 0, none⟩ = some (.int .i8 tk) := cell_of_row hg rfl; have z1 : w.cell? ⟨w3.heap.size, 1, none⟩ = some (.int .i64 tn) := cell_of_row hg rfl; have z2 : w.cell? ⟨w3.heap.size, 2, none⟩ = some (.string ts) := cell_of_row hg rfl; have z3 : w.cell? ⟨w3.heap.size, 3, none⟩ = some (.int .i64 xa) := cell_of_row hg rfl; have y0 : w.cell? ⟨w3.heap.size + 1, 0, none⟩ = some (.int .i64 0) := cell_of_row hf rfl; have y1 : w.cell? ⟨w3.heap.size + 1, 1, none⟩ = some (.int .i64 0) := cell_of_row hf rfl; go_simp; first | done | with_reducible rfl); (try simp only [Act.put, List.setIfInBounds_toArray, List.set_cons_zero, List.set_cons_succ])
        refine wpAnyH_take (i := 12) (oi := ⟨some 61, _, _, _, _, _⟩) (v := ?_) rfl (by kernel_rfl) (by kernel_rfl) (by kernel_rfl) (fun _ _ _ h => h) (Or.inl ⟨by kernel_rfl, ?_⟩) (by assumption) ?_; rotate_left; (intro w hSw; (try dsimp only at hSw); obtain ⟨hg, hf, ⟨r0, r1, r2, r3⟩⟩ := hSw; dsimp only at r0 r1 r2 r3; have z0 : w.cell? ⟨w3.heap.size, 0, none⟩ = some (.int .i8 tk) := cell_of_row hg rfl; have z1 : w.cell? ⟨w3.heap.size, 1, none⟩ = some (.int .i64 tn) := cell_of_row hg rfl; have z2 : w.cell? ⟨w3.heap.size, 2, none⟩ = some (.string ts) := cell_of_row hg rfl; have z3 : w.cell? ⟨w3.heap.size, 3, none⟩ = some (.int .i64 xa) := cell_of_row hg rfl; have y0 : w.cell? ⟨w3.heap.size + 1, 0, none⟩ = some (.int .i64 0) := cell_of_row hf rfl; have y1 : w.cell? ⟨w3.heap.size + 1, 1, none⟩ = some (.int .i64 0) := cell_of_row hf rfl; go_simp; first | done | with_reducible rfl); (try simp only [Act.put, List.setIfInBounds_toArray, List.set_cons_zero, List.set_cons_succ])
        refine wpAnyH_take (i := 13) (oi := ⟨some 62, _, _, _, _, _⟩) (v := ?_) rfl (by kernel_rfl) (by kernel_rfl) (by kernel_rfl) (fun _ _ _ h => h) (Or.inl ⟨by kernel_rfl, ?_⟩) (by assumption) ?_; rotate_left; (intro w hSw; (try dsimp only at hSw); obtain ⟨hg, hf, ⟨r0, r1, r2, r3⟩⟩ := hSw; dsimp only at r0 r1 r2 r3; have z0 : w.cell? ⟨w3.heap.size, 0, none⟩ = some (.int .i8 tk) := cell_of_row hg rfl; have z1 : w.cell? ⟨w3.heap.size, 1, none⟩ = some (.int .i64 tn) := cell_of_row hg rfl; have z2 : w.cell? ⟨w3.heap.size, 2, none⟩ = some (.string ts) := cell_of_row hg rfl; have z3 : w.cell? ⟨w3.heap.size, 3, none⟩ = some (.int .i64 xa) := cell_of_row hg rfl; have y0 : w.cell? ⟨w3.heap.size + 1, 0, none⟩ = some (.int .i64 0) := cell_of_row hf rfl; have y1 : w.cell? ⟨w3.heap.size + 1, 1, none⟩ = some (.int .i64 0) := cell_of_row hf rfl; go_simp; first | done | with_reducible rfl); (try simp only [Act.put, List.setIfInBounds_toArray, List.set_cons_zero, List.set_cons_succ])
        refine wpAnyH_take (i := 14) (oi := ⟨some 63, _, _, _, _, _⟩) (v := ?_) rfl (by kernel_rfl) (by kernel_rfl) (by kernel_rfl) (fun _ _ _ h => h) (Or.inl ⟨by kernel_rfl, ?_⟩) (by assumption) ?_; rotate_left; (intro w hSw; (try dsimp only at hSw); obtain ⟨hg, hf, ⟨r0, r1, r2, r3⟩⟩ := hSw; dsimp only at r0 r1 r2 r3; have z0 : w.cell? ⟨w3.heap.size, 0, none⟩ = some (.int .i8 tk) := cell_of_row hg rfl; have z1 : w.cell? ⟨w3.heap.size, 1, none⟩ = some (.int .i64 tn) := cell_of_row hg rfl; have z2 : w.cell? ⟨w3.heap.size, 2, none⟩ = some (.string ts) := cell_of_row hg rfl; have z3 : w.cell? ⟨w3.heap.size, 3, none⟩ = some (.int .i64 xa) := cell_of_row hg rfl; have y0 : w.cell? ⟨w3.heap.size + 1, 0, none⟩ = some (.int .i64 0) := cell_of_row hf rfl; have y1 : w.cell? ⟨w3.heap.size + 1, 1, none⟩ = some (.int .i64 0) := cell_of_row hf rfl; go_simp; first | done | with_reducible rfl); (try simp only [Act.put, List.setIfInBounds_toArray, List.set_cons_zero, List.set_cons_succ])
        refine wpAnyH_take (i := 15) (oi := ⟨some 64, _, _, _, _, _⟩) (v := ?_) rfl (by kernel_rfl) (by kernel_rfl) (by kernel_rfl) (fun _ _ _ h => h) (Or.inl ⟨by kernel_rfl, ?_⟩) (by assumption) ?_; rotate_left; (intro w hSw; (try dsimp only at hSw); obtain ⟨hg, hf, ⟨r0, r1, r2, r3⟩⟩ := hSw; dsimp only at r0 r1 r2 r3; have z0 : w.cell? ⟨w3.heap.size, 0, none⟩ = some (.int .i8 tk) := cell_of_row hg rfl; have z1 : w.cell? ⟨w3.heap.size, 1, none⟩ = some (.int .i64 tn) := cell_of_row hg rfl; have z2 : w.cell? ⟨w3.heap.size, 2, none⟩ = some (.string ts) := cell_of_row hg rfl; have z3 : w.cell? ⟨w3.heap.size, 3, none⟩ = some (.int .i64 xa) := cell_of_row hg rfl; have y0 : w.cell? ⟨w3.heap.size + 1, 0, none⟩ = some (.int .i64 0) := cell_of_row hf rfl; have y1 : w.cell? ⟨w3.heap.size + 1, 1, none⟩ = some (.int .i64 0) := cell_of_row hf rfl; have q1 : decide (xa < o) = false := decide_eq_false (by omega); have q2 : decide (M ≤ xa) = false := decide_eq_false (by omega); have q3 : decide (s.size < M) = false := decide_eq_false (by omega); go_simp; first | done | with_reducible rfl); (try simp only [Act.put, List.setIfInBounds_toArray, List.set_cons_zero, List.set_cons_succ])
        refine wpAnyH_take (i := 16) (oi := ⟨some 65, _, _, _, _, _⟩) (v := ?_) rfl (by kernel_rfl) (by kernel_rfl) (by kernel_rfl) (fun _ _ _ h => h) (Or.inl ⟨by kernel_rfl, ?_⟩) (by assumption) ?_; rotate_left; (intro w hSw; (try dsimp only at hSw); obtain ⟨hg, hf, ⟨r0, r1, r2, r3⟩⟩ := hSw; dsimp only at r0 r1 r2 r3; have z0 : w.cell? ⟨w3.heap.size, 0, none⟩ = some (.int .i8 tk) := cell_of_row hg rfl; have z1 : w.cell? ⟨w3.heap.size, 1, none⟩ = some (.int .i64 tn) := cell_of_row hg rfl; have z2 : w.cell? ⟨w3.heap.size, 2, none⟩ = some (.string ts) := cell_of_row hg rfl; have z3 : w.cell? ⟨w3.heap.size, 3, none⟩ = some (.int .i64 xa) := cell_of_row hg rfl; have y0 : w.cell? ⟨w3.heap.size + 1, 0, none⟩ = some (.int .i64 0) := cell_of_row hf rfl; have y1 : w.cell? ⟨w3.heap.size + 1, 1, none⟩ = some (.int .i64 0) := cell_of_row hf rfl; go_simp; first | done | with_reducible rfl); (try simp only [Act.put, List.setIfInBounds_toArray, List.set_cons_zero, List.set_cons_succ])
        refine wpAnyH_take (i := 17) (oi := ⟨some 66, _, _, _, _, _⟩) (v := ?_) rfl (by kernel_rfl) (by kernel_rfl) (by kernel_rfl) (fun _ _ _ h => h) (Or.inl ⟨by kernel_rfl, ?_⟩) (by assumption) ?_; rotate_left; (intro w hSw; (try dsimp only at hSw); obtain ⟨hg, hf, ⟨r0, r1, r2, r3⟩⟩ := hSw; dsimp only at r0 r1 r2 r3; have z0 : w.cell? ⟨w3.heap.size, 0, none⟩ = some (.int .i8 tk) := cell_of_row hg rfl; have z1 : w.cell? ⟨w3.heap.size, 1, none⟩ = some (.int .i64 tn) := cell_of_row hg rfl; have z2 : w.cell? ⟨w3.heap.size, 2, none⟩ = some (.string ts) := cell_of_row hg rfl; have z3 : w.cell? ⟨w3.heap.size, 3, none⟩ = some (.int .i64 xa) := cell_of_row hg rfl; have y0 : w.cell? ⟨w3.heap.size + 1, 0, none⟩ = some (.int .i64 0) := cell_of_row hf rfl; have y1 : w.cell? ⟨w3.heap.size + 1, 1, none⟩ = some (.int .i64 0) := cell_of_row hf rfl; go_simp; first | done | with_reducible rfl); (try simp only [Act.put, List.setIfInBounds_toArray, List.set_cons_zero, List.set_cons_succ])
        refine wpAnyH_take (i := 18) (oi := ⟨some 67, _, _, _, _, _⟩) (v := ?_) rfl (by kernel_rfl) (by kernel_rfl) (by kernel_rfl) (fun _ _ _ h => h) (Or.inl ⟨by kernel_rfl, ?_⟩) (by assumption) ?_; rotate_left; (intro w hSw; (try dsimp only at hSw); obtain ⟨hg, hf, ⟨r0, r1, r2, r3⟩⟩ := hSw; dsimp only at r0 r1 r2 r3; have z0 : w.cell? ⟨w3.heap.size, 0, none⟩ = some (.int .i8 tk) := cell_of_row hg rfl; have z1 : w.cell? ⟨w3.heap.size, 1, none⟩ = some (.int .i64 tn) := cell_of_row hg rfl; have z2 : w.cell? ⟨w3.heap.size, 2, none⟩ = some (.string ts) := cell_of_row hg rfl; have z3 : w.cell? ⟨w3.heap.size, 3, none⟩ = some (.int .i64 xa) := cell_of_row hg rfl; have y0 : w.cell? ⟨w3.heap.size + 1, 0, none⟩ = some (.int .i64 0) := cell_of_row hf rfl; have y1 : w.cell? ⟨w3.heap.size + 1, 1, none⟩ = some (.int .i64 0) := cell_of_row hf rfl; go_simp; first | done | with_reducible rfl); (try simp only [Act.put, List.setIfInBounds_toArray, List.set_cons_zero, List.set_cons_succ])
        refine wpAnyH_take (i := 19) (oi := ⟨some 68, _, _, _, _, _⟩) (v := ?_) rfl (by kernel_rfl) (by kernel_rfl) (by kernel_rfl) (fun _ _ _ h => h) (Or.inl ⟨by kernel_rfl, ?_⟩) (by assumption) ?_; rotate_left; (intro w hSw; (try dsimp only at hSw); obtain ⟨hg, hf, ⟨r0, r1, r2, r3⟩⟩ := hSw; dsimp only at r0 r1 r2 r3; have z0 : w.cell? ⟨w3.heap.size, 0, none⟩ = some (.int .i8 tk) := cell_of_row hg rfl; have z1 : w.cell? ⟨w3.heap.size, 1, none⟩ = some (.int .i64 tn) := cell_of_row hg rfl; have z2 : w.cell? ⟨w3.heap.size, 2, none⟩ = some (.string ts) := cell_of_row hg rfl; have z3 : w.cell? ⟨w3.heap.size, 3, none⟩ = some (.int .i64 xa) := cell_of_row hg rfl; have y0 : w.cell? ⟨w3.heap.size + 1, 0, none⟩ = some (.int .i64 0) := cell_of_row hf rfl; have y1 : w.cell? ⟨w3.heap.size + 1, 1, none⟩ = some (.int .i64 0) := cell_of_row hf rfl; go_simp; first | done | with_reducible rfl); (try simp only [Act.put, List.setIfInBounds_toArray, List.set_cons_zero, List.set_cons_succ])
        refine wpAnyH_take (i := 20) (oi := ⟨some 69, _, _, _, _, _⟩) (v := ?_) rfl (by kernel_rfl) (by kernel_rfl) (by kernel_rfl) (fun _ _ _ h => h) (Or.inl ⟨by kernel_rfl, ?_⟩) (by assumption) ?_; rotate_left; (intro w hSw; (try dsimp only at hSw); obtain ⟨hg, hf, ⟨r0, r1, r2, r3⟩⟩ := hSw; dsimp only at r0 r1 r2 r3; have z0 : w.cell? ⟨w3.heap.size, 0, none⟩ = some (.int .i8 tk) := cell_of_row hg rfl; have z1 : w.cell? ⟨w3.heap.size, 1, none⟩ = some (.int .i64 tn) := cell_of_row hg rfl; have z2 : w.cell? ⟨w3.heap.size, 2, none⟩ = some (.string ts) := cell_of_row hg rfl; have z3 : w.cell? ⟨w3.heap.size, 3, none⟩ = some (.int .i64 xa) := cell_of_row hg rfl; have y0 : w.cell? ⟨w3.heap.size + 1, 0, none⟩ = some (.int .i64 0) := cell_of_row hf rfl; have y1 : w.cell? ⟨w3.heap.size + 1, 1, none⟩ = some (.int .i64 0) := cell_of_row hf rfl; go_simp; first | done | with_reducible rfl); (try simp only [Act.put, List.setIfInBounds_toArray, List.set_cons_zero, List.set_cons_succ])
        refine wpAnyH_take (i := 21) (oi := ⟨some 70, _, _, _, _, _⟩) (v := ?_) rfl (by kernel_rfl) (by kernel_rfl) (by kernel_rfl) (fun _ _ _ h => h) (Or.inl ⟨by kernel_rfl, ?_⟩) (by assumption) ?_; rotate_left; (intro w hSw; (try dsimp only at hSw); obtain ⟨hg, hf, ⟨r0, r1, r2, r3⟩⟩ := hSw; dsimp only at r0 r1 r2 r3; have z0 : w.cell? ⟨w3.heap.size, 0, none⟩ = some (.int .i8 tk) := cell_of_row hg rfl; have z1 : w.cell? ⟨w3.heap.size, 1, none⟩ = some (.int .i64 tn) := cell_of_row hg rfl; have z2 : w.cell? ⟨w3.heap.size, 2, none⟩ = some (.string ts) := cell_of_row hg rfl; have z3 : w.cell? ⟨w3.heap.size, 3, none⟩ = some (.int .i64 xa) := cell_of_row hg rfl; have y0 : w.cell? ⟨w3.heap.size + 1, 0, none⟩ = some (.int .i64 0) := cell_of_row hf rfl; have y1 : w.cell? ⟨w3.heap.size + 1, 1, none⟩ = some (.int .i64 0) := cell_of_row hf rfl; have q1 : decide (xa < o) = false := decide_eq_false (by omega); have q2 : decide (M ≤ xa) = false := decide_eq_false (by omega); have q3 : decide (s.size < M) = false := decide_eq_false (by omega); go_simp; first | done | with_reducible rfl); (try simp only [Act.put, List.setIfInBounds_toArray, List.set_cons_zero, List.set_cons_succ])
        refine wpAnyH_take (i := 22) (oi := ⟨some 71, _, _, _, _, _⟩) (v := ?_) rfl (by kernel_rfl) (by kernel_rfl) (by kernel_rfl) (fun _ _ _ h => h) (Or.inl ⟨by kernel_rfl, ?_⟩) (by assumption) ?_; rotate_left; (intro w hSw; (try dsimp only at hSw); obtain ⟨hg, hf, ⟨r0, r1, r2, r3⟩⟩ := hSw; dsimp only at r0 r1 r2 r3; have z0 : w.cell? ⟨w3.heap.size, 0, none⟩ = some (.int .i8 tk) := cell_of_row hg rfl; have z1 : w.cell? ⟨w3.heap.size, 1, none⟩ = some (.int .i64 tn) := cell_of_row hg rfl; have z2 : w.cell? ⟨w3.heap.size, 2, none⟩ = some (.string ts) := cell_of_row hg rfl; have z3 : w.cell? ⟨w3.heap.size, 3, none⟩ = some (.int .i64 xa) := cell_of_row hg rfl; have y0 : w.cell? ⟨w3.heap.size + 1, 0, none⟩ = some (.int .i64 0) := cell_of_row hf rfl; have y1 : w.cell? ⟨w3.heap.size + 1, 1, none⟩ = some (.int .i64 0) := cell_of_row hf rfl; go_simp; first | done | with_reducible rfl); (try simp only [Act.put, List.setIfInBounds_toArray, List.set_cons_zero, List.set_cons_succ])
        refine wpAnyH_take (i := 23) (oi := ⟨some 72, _, _, _, _, _⟩) (v := ?_) rfl (by kernel_rfl) (by kernel_rfl) (by kernel_rfl) (fun _ _ _ h => h) (Or.inl ⟨by kernel_rfl, ?_⟩) (by assumption) ?_; rotate_left; (intro w hSw; (try dsimp only at hSw); obtain ⟨hg, hf, ⟨r0, r1, r2, r3⟩⟩ := hSw; dsimp only at r0 r1 r2 r3; have z0 : w.cell? ⟨w3.heap.size, 0, none⟩ = some (.int .i8 tk) := cell_of_row hg rfl; have z1 : w.cell? ⟨w3.heap.size, 1, none⟩ = some (.int .i64 tn) := cell_of_row hg rfl; have z2 : w.cell? ⟨w3.heap.size, 2, none⟩ = some (.string ts) := cell_of_row hg rfl; have z3 : w.cell? ⟨w3.heap.size, 3, none⟩ = some (.int .i64 xa) := cell_of_row hg rfl; have y0 : w.cell? ⟨w3.heap.size + 1, 0, none⟩ = some (.int .i64 0) := cell_of_row hf rfl; have y1 : w.cell? ⟨w3.heap.size + 1, 1, none⟩ = some (.int .i64 0) := cell_of_row hf rfl; go_simp; first | done | with_reducible rfl); (try simp only [Act.put, List.setIfInBounds_toArray, List.set_cons_zero, List.set_cons_succ])
        refine wpAnyH_take (i := 24) (oi := ⟨some 73, _, _, _, _, _⟩) (v := ?_) rfl (by kernel_rfl) (by kernel_rfl) (by kernel_rfl) (fun _ _ _ h => h) (Or.inl ⟨by kernel_rfl, ?_⟩) (by assumption) ?_; rotate_left; (intro w hSw; (try dsimp only at hSw); obtain ⟨hg, hf, ⟨r0, r1, r2, r3⟩⟩ := hSw; dsimp only at r0 r1 r2 r3; have z0 : w.cell? ⟨w3.heap.size, 0, none⟩ = some (.int .i8 tk) := cell_of_row hg rfl; have z1 : w.cell? ⟨w3.heap.size, 1, none⟩ = some (.int .i64 tn) := cell_of_row hg rfl; have z2 : w.cell? ⟨w3.heap.size, 2, none⟩ = some (.string ts) := cell_of_row hg rfl; have z3 : w.cell? ⟨w3.heap.size, 3, none⟩ = some (.int .i64 xa) := cell_of_row hg rfl; have y0 : w.cell? ⟨w3.heap.size + 1, 0, none⟩ = some (.int .i64 0) := cell_of_row hf rfl; have y1 : w.cell? ⟨w3.heap.size + 1, 1, none⟩ = some (.int .i64 0) := cell_of_row hf rfl; go_simp; first | done | with_reducible rfl); (try simp only [Act.put, List.setIfInBounds_toArray, List.set_cons_zero, List.set_cons_succ])
        refine wpAnyH_take (i := 25) (oi := ⟨some 74, _, _, _, _, _⟩) (v := ?_) rfl (by kernel_rfl) (by kernel_rfl) (by kernel_rfl) (fun _ _ _ h => h) (Or.inl ⟨by kernel_rfl, ?_⟩) (by assumption) ?_; rotate_left; (intro w hSw; (try dsimp only at hSw); obtain ⟨hg, hf, ⟨r0, r1, r2, r3⟩⟩ := hSw; dsimp only at r0 r1 r2 r3; have z0 : w.cell? ⟨w3.heap.size, 0, none⟩ = some (.int .i8 tk) := cell_of_row hg rfl; have z1 : w.cell? ⟨w3.heap.size, 1, none⟩ = some (.int .i64 tn) := cell_of_row hg rfl; have z2 : w.cell? ⟨w3.heap.size, 2, none⟩ = some (.string ts) := cell_of_row hg rfl; have z3 : w.cell? ⟨w3.heap.size, 3, none⟩ = some (.int .i64 xa) := cell_of_row hg rfl; have y0 : w.cell? ⟨w3.heap.size + 1, 0, none⟩ = some (.int .i64 0) := cell_of_row hf rfl; have y1 : w.cell? ⟨w3.heap.size + 1, 1, none⟩ = some (.int .i64 0) := cell_of_row hf rfl; go_simp; first | done | with_reducible rfl); (try simp only [Act.put, List.setIfInBounds_toArray, List.set_cons_zero, List.set_cons_succ])
        refine wpAnyH_take (i := 26) (oi := ⟨some 75, _, _, _, _, _⟩) (v := ?_) rfl (by kernel_rfl) (by kernel_rfl) (by kernel_rfl) (fun _ _ _ h => h) (Or.inl ⟨by kernel_rfl, ?_⟩) (by assumption) ?_; rotate_left; (intro w hSw; (try dsimp only at hSw); obtain ⟨hg, hf, ⟨r0, r1, r2, r3⟩⟩ := hSw; dsimp only at r0 r1 r2 r3; have z0 : w.cell? ⟨w3.heap.size, 0, none⟩ = some (.int .i8 tk) := cell_of_row hg rfl; have z1 : w.cell? ⟨w3.heap.size, 1, none⟩ = some (.int .i64 tn) := cell_of_row hg rfl; have z2 : w.cell? ⟨w3.heap.size, 2, none⟩ = some (.string ts) := cell_of_row hg rfl; have z3 : w.cell? ⟨w3.heap.size, 3, none⟩ = some (.int .i64 xa) := cell_of_row hg rfl; have y0 : w.cell? ⟨w3.heap.size + 1, 0, none⟩ = some (.int .i64 0) := cell_of_row hf rfl; have y1 : w.cell? ⟨w3.heap.size + 1, 1, none⟩ = some (.int .i64 0) := cell_of_row hf rfl; go_simp; first | done | with_reducible rfl); (try simp only [Act.put, List.setIfInBounds_toArray, List.set_cons_zero, List.set_cons_succ])
        refine wpAnyH_take (i := 27) (oi := ⟨some 76, _, _, _, _, _⟩) (v := ?_) rfl (by kernel_rfl) (by kernel_rfl) (by kernel_rfl) (fun _ _ _ h => h) (Or.inl ⟨by kernel_rfl, ?_⟩) (by assumption) ?_; rotate_left; (intro w hSw; (try dsimp only at hSw); obtain ⟨hg, hf, ⟨r0, r1, r2, r3⟩⟩ := hSw; dsimp only at r0 r1 r2 r3; have z0 : w.cell? ⟨w3.heap.size, 0, none⟩ = some (.int .i8 tk) := cell_of_row hg rfl; have z1 : w.cell? ⟨w3.heap.size, 1, none⟩ = some (.int .i64 tn) := cell_of_row hg rfl; have z2 : w.cell? ⟨w3.heap.size, 2, none⟩ = some (.string ts) := cell_of_row hg rfl; have z3 : w.cell? ⟨w3.heap.size, 3, none⟩ = some (.int .i64 xa) := cell_of_row hg rfl; have y0 : w.cell? ⟨w3.heap.size + 1, 0, none⟩ = some (.int .i64 0) := cell_of_row hf rfl; have y1 : w.cell? ⟨w3.heap.size + 1, 1, none⟩ = some (.int .i64 0) := cell_of_row hf rfl; have q1 : decide (xa < o) = false := decide_eq_false (by omega); have q2 : decide (M ≤ xa) = false := decide_eq_false (by omega); have q3 : decide (s.size < M) = false := decide_eq_false (by omega); go_simp; first | done | with_reducible rfl); (try simp only [Act.put, List.setIfInBounds_toArray, List.set_cons_zero, List.set_cons_succ])
        refine wpAnyH_take (i := 28) (oi := ⟨some 77, _, _, _, _, _⟩) (v := ?_) rfl (by kernel_rfl) (by kernel_rfl) (by kernel_rfl) (fun _ _ _ h => h) (Or.inl ⟨by kernel_rfl, ?_⟩) (by assumption) ?_; rotate_left; (intro w hSw; (try dsimp only at hSw); obtain ⟨hg, hf, ⟨r0, r1, r2, r3⟩⟩ := hSw; dsimp only at r0 r1 r2 r3; have z0 : w.cell? ⟨w3.heap.size, 0, none⟩ = some (.int .i8 tk) := cell_of_row hg rfl; have z1 : w.cell? ⟨w3.heap.size, 1, none⟩ = some (.int .i64 tn) := cell_of_row hg rfl; have z2 : w.cell? ⟨w3.heap.size, 2, none⟩ = some (.string ts) := cell_of_row hg rfl; have z3 : w.cell? ⟨w3.heap.size, 3, none⟩ = some (.int .i64 xa) := cell_of_row hg rfl; have y0 : w.cell? ⟨w3.heap.size + 1, 0, none⟩ = some (.int .i64 0) := cell_of_row hf rfl; have y1 : w.cell? ⟨w3.heap.size + 1, 1, none⟩ = some (.int .i64 0) := cell_of_row hf rfl; go_simp; first | done | with_reducible rfl); (try simp only [Act.put, List.setIfInBounds_toArray, List.set_cons_zero, List.set_cons_succ])
        refine wpAnyH_take (i := 29) (oi := ⟨some 78, _, _, _, _, _⟩) (v := ?_) rfl (by kernel_rfl) (by kernel_rfl) (by kernel_rfl) (fun _ _ _ h => h) (Or.inl ⟨by kernel_rfl, ?_⟩) (by assumption) ?_; rotate_left; (intro w hSw; (try dsimp only at hSw); obtain ⟨hg, hf, ⟨r0, r1, r2, r3⟩⟩ := hSw; dsimp only at r0 r1 r2 r3; have z0 : w.cell? ⟨w3.heap.size, 0, none⟩ = some (.int .i8 tk) := cell_of_row hg rfl; have z1 : w.cell? ⟨w3.heap.size, 1, none⟩ = some (.int .i64 tn) := cell_of_row hg rfl; have z2 : w.cell? ⟨w3.heap.size, 2, none⟩ = some (.string ts) := cell_of_row hg rfl; have z3 : w.cell? ⟨w3.heap.size, 3, none⟩ = some (.int .i64 xa) := cell_of_row hg rfl; have y0 : w.cell? ⟨w3.heap.size + 1, 0, none⟩ = some (.int .i64 0) := cell_of_row hf rfl; have y1 : w.cell? ⟨w3.heap.size + 1, 1, none⟩ = some (.int .i64 0) := cell_of_row hf rfl; go_simp; first | done | with_reducible rfl); (try simp only [Act.put, List.setIfInBounds_toArray, List.set_cons_zero, List.set_cons_succ])
        refine wpAnyH_take (i := 30) (oi := ⟨some 79, _, _, _, _, _⟩) (v := ?_) rfl (by kernel_rfl) (by kernel_rfl) (by kernel_rfl) (fun _ _ _ h => h) (Or.inl ⟨by kernel_rfl, ?_⟩) (by assumption) ?_; rotate_left; (intro w hSw; (try dsimp only at hSw); obtain ⟨hg, hf, ⟨r0, r1, r2, r3⟩⟩ := hSw; dsimp only at r0 r1 r2 r3; have z0 : w.cell? ⟨w3.heap.size, 0, none⟩ = some (.int .i8 tk) := cell_of_row hg rfl; have z1 : w.cell? ⟨w3.heap.size, 1, none⟩ = some (.int .i64 tn) := cell_of_row hg rfl; have z2 : w.cell? ⟨w3.heap.size, 2, none⟩ = some (.string ts) := cell_of_row hg rfl; have z3 : w.cell? ⟨w3.heap.size, 3, none⟩ = some (.int .i64 xa) := cell_of_row hg rfl; have y0 : w.cell? ⟨w3.heap.size + 1, 0, none⟩ = some (.int .i64 0) := cell_of_row hf rfl; have y1 : w.cell? ⟨w3.heap.size + 1, 1, none⟩ = some (.int .i64 0) := cell_of_row hf rfl; go_simp; first | done | with_reducible rfl); (try simp only [Act.put, List.setIfInBounds_toArray, List.set_cons_zero, List.set_cons_succ])
        refine wpAnyH_take (i := 31) (oi := ⟨some 80, _, _, _, _, _⟩) (v := ?_) rfl (by kernel_rfl) (by kernel_rfl) (by kernel_rfl) (fun _ _ _ h => h) (Or.inl ⟨by kernel_rfl, ?_⟩) (by assumption) ?_; rotate_left; (intro w hSw; (try dsimp only at hSw); obtain ⟨hg, hf, ⟨r0, r1, r2, r3⟩⟩ := hSw; dsimp only at r0 r1 r2 r3; have z0 : w.cell? ⟨w3.heap.size, 0, none⟩ = some (.int .i8 tk) := cell_of_row hg rfl; have z1 : w.cell? ⟨w3.heap.size, 1, none⟩ = some (.int .i64 tn) := cell_of_row hg rfl; have z2 : w.cell? ⟨w3.heap.size, 2, none⟩ = some (.string ts) := cell_of_row hg rfl; have z3 : w.cell? ⟨w3.heap.size, 3, none⟩ = some (.int .i64 xa) := cell_of_row hg rfl; have y0 : w.cell? ⟨w3.heap.size + 1, 0, none⟩ = some (.int .i64 0) := cell_of_row hf rfl; have y1 : w.cell? ⟨w3.heap.size + 1, 1, none⟩ = some (.int .i64 0) := cell_of_row hf rfl; go_simp; first | done | with_reducible rfl); (try simp only [Act.put, List.setIfInBounds_toArray, List.set_cons_zero, List.set_cons_succ])
        refine wpAnyH_take (i := 33) (oi := ⟨some 82, _, _, _, _, _⟩) (v := ?_) rfl (by kernel_rfl) (by kernel_rfl) (by kernel_rfl) (fun _ _ _ h => h) (Or.inl ⟨by kernel_rfl, ?_⟩) (by assumption) ?_; rotate_left; (intro w hSw; (try dsimp only at hSw); obtain ⟨hg, hf, ⟨r0, r1, r2, r3⟩⟩ := hSw; dsimp only at r0 r1 r2 r3; have z0 : w.cell? ⟨w3.heap.size, 0, none⟩ = some (.int .i8 tk) := cell_of_row hg rfl; have z1 : w.cell? ⟨w3.heap.size, 1, none⟩ = some (.int .i64 tn) := cell_of_row hg rfl; have z2 : w.cell? ⟨w3.heap.size, 2, none⟩ = some (.string ts) := cell_of_row hg rfl; have z3 : w.cell? ⟨w3.heap.size, 3, none⟩ = some (.int .i64 xa) := cell_of_row hg rfl; have y0 : w.cell? ⟨w3.heap.size + 1, 0, none⟩ = some (.int .i64 0) := cell_of_row hf rfl; have y1 : w.cell? ⟨w3.heap.size + 1, 1, none⟩ = some (.int .i64 0) := cell_of_row hf rfl; go_simp; first | done | with_reducible rfl); (try simp only [Act.put, List.setIfInBounds_toArray, List.set_cons_zero, List.set_cons_succ])
        refine wpAnyH_take (i := 34) (oi := ⟨some 83, _, _, _, _, _⟩) (v := ?_) rfl (by kernel_rfl) (by kernel_rfl) (by kernel_rfl) (fun _ _ _ h => h) (Or.inl ⟨by kernel_rfl, ?_⟩) (by assumption) ?_; rotate_left; (intro w hSw; (try dsimp only at hSw); obtain ⟨hg, hf, ⟨r0, r1, r2, r3⟩⟩ := hSw; dsimp only at r0 r1 r2 r3; have z0 : w.cell? ⟨w3.heap.size, 0, none⟩ = some (.int .i8 tk) := cell_of_row hg rfl; have z1 : w.cell? ⟨w3.heap.size, 1, none⟩ = some (.int .i64 tn) := cell_of_row hg rfl; have z2 : w.cell? ⟨w3.heap.size, 2, none⟩ = some (.string ts) := cell_of_row hg rfl; have z3 : w.cell? ⟨w3.heap.size, 3, none⟩ = some (.int .i64 xa) := cell_of_row hg rfl; have y0 : w.cell? ⟨w3.heap.size + 1, 0, none⟩ = some (.int .i64 0) := cell_of_row hf rfl; have y1 : w.cell? ⟨w3.heap.size + 1, 1, none⟩ = some (.int .i64 0) := cell_of_row hf rfl; go_simp; first | done | with_reducible rfl); (try simp only [Act.put, List.setIfInBounds_toArray, List.set_cons_zero, List.set_cons_succ])
        refine wpAnyH_ready (rs := [32]) (by kernel_rfl) (by simp) ?_
        refine AllReadyH.cons (o := ⟨some 81, _, _, _, _, _⟩) rfl (fun K hK => ?_) AllReadyH.nil
        rw [if_pos (by kernel_rfl)]
        go_simp
        refine (HBX.out D (HE.out _ _ HW.out (HB1.out.trans (hB0.mono HB1.out.size)))).mono ?_
        rintro e V5 ⟨rfl, b5⟩
        have hS7 : V5.heap[w3.heap.size]? = some (.cells #[.int .i8 tk, .int .i64 tn, .string ts, .int .i64 xa] 25 (0, 0)) ∧ V5.heap[w3.heap.size + 1]? = some (.cells #[.int .i64 0, .int .i64 0] 28 (0, 0)) ∧ RowT V5 ad j ⟨tk, tn, ts, (xa : Int)⟩ := ⟨(b5.block _ (heap_lt hS0.1)).trans hS0.1, (b5.block _ (heap_lt hS0.2.1)).trans hS0.2.1, hS0.2.2.keep (b5.block _ hL0)⟩
        have HB5 := Lib.hid (hB0.trans (b5.mono hB0.size))
        have HS7 := Lib.hid hS7
        clear b5 hB0 hS0 hL0
        refine hK.out _ _ hS7 (fun hSn => ?_)
        clear hK K; (try simp only [Act.put, List.setIfInBounds_toArray, List.set_cons_zero, List.set_cons_succ])
        refine wpAnyH_take (i := 35) (oi := ⟨some 84, _, _, _, _, _⟩) (v := ?_) rfl (by kernel_rfl) (by kernel_rfl) (by kernel_rfl) (fun _ _ _ h => h) (Or.inl ⟨by kernel_rfl, ?_⟩) (by assumption) ?_; rotate_left; (intro w hSw; (try dsimp only at hSw); go_simp; first | done | with_reducible rfl); (try simp only [Act.put, List.setIfInBounds_toArray, List.set_cons_zero, List.set_cons_succ])
        refine wpAnyH_take (i := 36) (oi := ⟨some 85, _, _, _, _, _⟩) (v := ?_) rfl (by kernel_rfl) (by kernel_rfl) (by kernel_rfl) (fun _ _ _ h => h) (Or.inl ⟨by kernel_rfl, ?_⟩) (by assumption) ?_; rotate_left; (intro w hSw; (try dsimp only at hSw); go_simp; first | done | with_reducible rfl); (try simp only [Act.put, List.setIfInBounds_toArray, List.set_cons_zero, List.set_cons_succ])
        refine wpAnyH_done (by kernel_rfl) ?_ _
        clear hS7
        have HG5 := Lib.hid HS7.out.1
        have z0 : V5.cell? ⟨w3.heap.size, 0, none⟩ = some (.int .i8 tk) := cell_of_row HG5.out rfl
        have z1 : V5.cell? ⟨w3.heap.size, 1, none⟩ = some (.int .i64 tn) := cell_of_row HG5.out rfl
        have z2 : V5.cell? ⟨w3.heap.size, 2, none⟩ = some (.string ts) := cell_of_row HG5.out rfl
        have z3 : V5.cell? ⟨w3.heap.size, 3, none⟩ = some (.int .i64 xa) := cell_of_row HG5.out rfl
        by_cases hjb : j < bn
        · obtain ⟨bd, m, rfl, hbl, hbc, hm1, hm2⟩ := HBR.out j hjb
          have i2 : (j : Int) < (bn : Int) := by omega
          have hb5 : V5.cell? (bd.add j) = some (.int .i64 m) := ((HB1.out.trans (HB5.out.mono HB1.out.size)).cell (p := bd.add j) (by rw [add_block]; exact hbl)).trans hbc
          obtain ⟨K, hK, hK1, hK20⟩ := blanks_n m hm1 hm2
          clear hbc hbl hm1 hm2
          go_wp2_with fail
          rw [hK]
          clear hK
          go_loopw [7, 14] (fun wv kv wr => ∃ (k : Nat) (wd2 : ByteArray), k ≤ K ∧ wv = .string wd2 ∧ kv = .int .i64 k ∧ Hid (wd2.data.toList = wd.data.toList ++ List.replicate k 32) ∧ wd2.size = wd.size + k ∧ wr = V5) (fun _ kv _ => K - (intOf kv).toNat)
          case atStart => exact ⟨0, wd, Nat.zero_le _, rfl, rfl, by show _ = _; simp, rfl, rfl⟩
          case round =>
            obtain ⟨k, wd2, hk, rfl, rfl, HW2, hw2, hwr⟩ := hrel
            subst hwr
            have hb2 : wd2.size ≤ 100000 := by omega
            by_cases hlt2 : k < K
            · go_wp2_with fail
              go_roundw
              case rel => exact ⟨k + 1, wd2 ++ ⟨#[32]⟩, by omega, rfl, by go_num, by show _ = _; rw [List.replicate_succ', ← List.append_assoc, ← HW2.out]; simp [ByteArray.data_append], by rw [ByteArray.size_append, hw2]; rfl, by trivial⟩
              case measure => simp [intOf]; omega
            · obtain rfl : k = K := by omega
              have hp : (s.extract xa M).data.toList = (s.data.toList.drop xa).take xe := by rw [ext_list, List.drop_take, show M - xa = xe by have h5 := HM.out; omega]
              have hes : (s.extract xa M).size = xe := by rw [ByteArray.size_extract]; have h5 := HM.out; omega
              have hI2 : (wd2 ++ s.extract xa M).data.toList = wideL (ws ++ [⟨k, tk, tn, (s.extract xa M).data.toList, sl⟩]) ∧ (ws ++ [(⟨k, tk, tn, (s.extract xa M).data.toList, sl⟩ : PW)]).length = j + 1 ∧ (∀ q ∈ ws ++ [(⟨k, tk, tn, (s.extract xa M).data.toList, sl⟩ : PW)], 1 ≤ q.n ∧ tokL q.p = .tok q.k q.v q.p.length q.sl) ∧ (ws ++ [(⟨k, tk, tn, (s.extract xa M).data.toList, sl⟩ : PW)]).map (fun q => (q.k, q.v, q.p.take q.sl)) = (TS.take (j + 1)).map (fun t => (t.k, t.n, t.s)) := by
                obtain ⟨h1, h2, h3, h4⟩ := HI.out
                obtain ⟨hnx, ht1, ht2, ht3⟩ := HPP.out
                rw [← hp] at ht1 ht2 ht3
                refine ⟨?_, by simp [h2], fun q hq => ?_, ?_⟩
                · rw [wide_snoc, ByteArray.data_append, Array.toList_append, HW2.out, h1, List.append_assoc]
                · rcases List.mem_append.1 hq with hq | hq
                  · exact h3 q hq
                  · rcases List.mem_singleton.1 hq with rfl
                    exact ⟨hK1, by dsimp only; rw [ht3]; exact ht1⟩
                · rw [List.map_append, h4, List.take_add_one, HXX.out, List.map_append]
                  show List.map _ (List.take j TS) ++ [(tk, tn, List.take sl (s.extract xa M).data.toList)] = List.map _ (List.take j TS) ++ [(tk, tn, tl)]
                  rw [ht2]
              have HI2 := Lib.hid hI2
              have HN2 : Hid (scanL s.size M (s.data.toList.drop M) = (TS.drop (j + 1), none)) := HPP.out.1
              have HSZ : Hid ((wd2 ++ s.extract xa M).size ≤ 20 * (j + 1) + M ∧ M ≤ s.size) := by
                refine ⟨?_, by omega⟩
                have h5 := HM.out
                rw [ByteArray.size_append, hes, hw2]; omega
              have hle1 : (xa : Int) ≤ (M : Int) := by omega
              have hle2 : (M : Int) ≤ (s.size : Int) := by omega
              have hle3 : (s.extract xa M).size ≤ 100000 := by have h5 := HM.out; rw [hes]; omega
              clear hI2 hp hes
              go_wp2_with fail
              go_roundw
              case rel => exact ⟨j + 1, M, _, wd2 ++ s.extract xa M, by omega, rfl, rfl, by go_num, HSZ.out.2, HN2, HI2, HSZ.out.1, HB5.out⟩
              case measure => simp [intOf]; omega
        · have i2 : ¬ (j : Int) < (bn : Int) := by omega
          go_wp2_with fail
          go_loopw [7, 14] (fun wv kv wr => ∃ (k : Nat) (wd2 : ByteArray), k ≤ 1 ∧ wv = .string wd2 ∧ kv = .int .i64 k ∧ Hid (wd2.data.toList = wd.data.toList ++ List.replicate k 32) ∧ wd2.size = wd.size + k ∧ wr = V5) (fun _ kv _ => 1 - (intOf kv).toNat)
          case atStart => exact ⟨0, wd, Nat.zero_le _, rfl, rfl, by show _ = _; simp, rfl, rfl⟩
          case round =>
            obtain ⟨k, wd2, hk, rfl, rfl, HW2, hw2, hwr⟩ := hrel
            subst hwr
            have hb2 : wd2.size ≤ 100000 := by omega
            by_cases hlt2 : k < 1
            · go_wp2_with fail
              go_roundw
              case rel => exact ⟨k + 1, wd2 ++ ⟨#[32]⟩, by omega, rfl, by go_num, by show _ = _; rw [List.replicate_succ', ← List.append_assoc, ← HW2.out]; simp [ByteArray.data_append], by rw [ByteArray.size_append, hw2]; rfl, by trivial⟩
              case measure => simp [intOf]; omega
            · obtain rfl : k = 1 := by omega
              have hp : (s.extract xa M).data.toList = (s.data.toList.drop xa).take xe := by rw [ext_list, List.drop_take, show M - xa = xe by have h5 := HM.out; omega]
              have hes : (s.extract xa M).size = xe := by rw [ByteArray.size_extract]; have h5 := HM.out; omega
              have hI2 : (wd2 ++ s.extract xa M).data.toList = wideL (ws ++ [⟨1, tk, tn, (s.extract xa M).data.toList, sl⟩]) ∧ (ws ++ [(⟨1, tk, tn, (s.extract xa M).data.toList, sl⟩ : PW)]).length = j + 1 ∧ (∀ q ∈ ws ++ [(⟨1, tk, tn, (s.extract xa M).data.toList, sl⟩ : PW)], 1 ≤ q.n ∧ tokL q.p = .tok q.k q.v q.p.length q.sl) ∧ (ws ++ [(⟨1, tk, tn, (s.extract xa M).data.toList, sl⟩ : PW)]).map (fun q => (q.k, q.v, q.p.take q.sl)) = (TS.take (j + 1)).map (fun t => (t.k, t.n, t.s)) := by
                obtain ⟨h1, h2, h3, h4⟩ := HI.out
                obtain ⟨hnx, ht1, ht2, ht3⟩ := HPP.out
                rw [← hp] at ht1 ht2 ht3
                refine ⟨?_, by simp [h2], fun q hq => ?_, ?_⟩
                · rw [wide_snoc, ByteArray.data_append, Array.toList_append, HW2.out, h1, List.append_assoc]
                · rcases List.mem_append.1 hq with hq | hq
                  · exact h3 q hq
                  · rcases List.mem_singleton.1 hq with rfl
                    exact ⟨Nat.le_refl 1, by dsimp only; rw [ht3]; exact ht1⟩
                · rw [List.map_append, h4, List.take_add_one, HXX.out, List.map_append]
                  show List.map _ (List.take j TS) ++ [(tk, tn, List.take sl (s.extract xa M).data.toList)] = List.map _ (List.take j TS) ++ [(tk, tn, tl)]
                  rw [ht2]
              have HI2 := Lib.hid hI2
              have HN2 : Hid (scanL s.size M (s.data.toList.drop M) = (TS.drop (j + 1), none)) := HPP.out.1
              have HSZ : Hid ((wd2 ++ s.extract xa M).size ≤ 20 * (j + 1) + M ∧ M ≤ s.size) := by
                refine ⟨?_, by omega⟩
                have h5 := HM.out
                rw [ByteArray.size_append, hes, hw2]; omega
              have hle1 : (xa : Int) ≤ (M : Int) := by omega
              have hle2 : (M : Int) ≤ (s.size : Int) := by omega
              have hle3 : (s.extract xa M).size ≤ 100000 := by have h5 := HM.out; rw [hes]; omega
              clear hI2 hp hes
              go_wp2_with fail
              go_roundw
              case rel => exact ⟨j + 1, M, _, wd2 ++ s.extract xa M, by omega, rfl, rfl, by go_num, HSZ.out.2, HN2, HI2, HSZ.out.1, HB5.out⟩
              case measure => simp [intOf]; omega
      · obtain rfl : j = TS.length := by omega
        have hO := HO.out
        rw [List.drop_length] at hO
        have hend := scan_end ho hO
        have HBX : Hid (∀ V : World, E V → Calls Tryd.prog 9 #[.string s, .int .i64 o] V fun r w' => r = .returned (.int .i64 (s.size : Nat)) ∧ Below V.heap.size V w') := fun V hV => by rw [← hend]; exact HBK.out s o V (by omega) hV
        obtain ⟨h1, h2, h3, h4⟩ := HI.out
        rw [List.take_length] at h4
        have hwb : wd.size ≤ 50000 := by omega
        have HBW := Lib.hid (HB1.out.trans (HBB.out.mono HB1.out.size))
        clear hO hend
        by_cases hbig : (8192 : Int) < (wd.size : Int)
        · have HVW : Hid (scanV wd = ([], 3, 0)) := by show _ = _; unfold scanV; rw [if_pos (by omega)]
          clear h1 h2 h3 h4
          go_wp2_with fail
          refine (HBX.out wr (HE.out _ _ HW.out HBW.out)).mono ?_
          rintro r V5 ⟨rfl, b5⟩
          have HB5 := Lib.hid (HBW.out.trans (b5.mono HBW.out.size))
          clear b5
          go_wp2_with fail
          refine (HC.out wd V5 (by omega) (HE.out _ _ HW.out HB5.out)).mono ?_
          rintro e w6 ⟨A6, cap6, rfl, hr6, b6⟩
          rw [HVW.out] at hr6 ⊢
          dsimp only at hr6 ⊢
          try simp only [List.length_map, List.length_nil]
          obtain ⟨W6, hW6⟩ : ∃ W6, W6 = w6.alloc (.cells #[.int .i64 3, .int .i64 0] 28) := ⟨_, rfl⟩
          have c6 : Below w6.heap.size w6 W6 := by rw [hW6]; exact (Below.refl _ _).alloc (Nat.le_refl _) _
          have g6 : W6.heap[w6.heap.size]? = some (.cells #[.int .i64 3, .int .i64 0] 28 (0, 0)) := by rw [hW6]; exact block_alloc _ _
          have d6 := b6.trans (c6.mono b6.size)
          have HD6 := Lib.hid d6
          have HB6 := Lib.hid (HB5.out.trans (d6.mono HB5.out.size))
          have HR6 := Lib.hid (hr6.later c6)
          have fl60 : W6.cell? ⟨w6.heap.size, 0, none⟩ = some (.int .i64 3) := cell_of_row g6 rfl
          have fl61 : W6.cell? ⟨w6.heap.size, 1, none⟩ = some (.int .i64 0) := cell_of_row g6 rfl
          clear hr6 b6 c6 g6 d6
          subst hW6
          go_wp2_with fail
          generalize w6.alloc (.cells #[.int .i64 3, .int .i64 0] 28) = W6 at HB6 ⊢
          refine (wakes6_ok HE.out HC.out W6 (HE.out _ _ HW.out HB6.out)).mono ?_
          rintro e w7 ⟨rfl, b7⟩
          have HB7 := Lib.hid (HB6.out.trans (b7.mono HB6.out.size))
          clear b7
          go_wp2_with fail
          go_ret
          exact ⟨rfl, HB7.out⟩
        · obtain ⟨i1, i2⟩ := scan_wide ws wd.size 0 h3 (by rw [← h1, size_list]; exact Nat.le_refl _)
          rw [← h1] at i1 i2
          rw [h4] at i2
          obtain ⟨TW, hTW⟩ : ∃ TW, TW = (scanL wd.size 0 wd.data.toList).1 := ⟨_, rfl⟩
          rw [← hTW] at i2
          have HVW : Hid (scanV wd = (TW.map PT.tk, 0, 0)) := scanV_ok (by omega) (Prod.ext hTW.symm i1)
          have hlen : TW.length = TS.length := by have := congrArg List.length i2; simpa using this
          have HEQ := Lib.hid i2
          have HLN := Lib.hid hlen
          clear h1 h2 h3 h4 i1 i2 hTW hlen
          go_wp2_with fail
          refine (HBX.out wr (HE.out _ _ HW.out HBW.out)).mono ?_
          rintro r V5 ⟨rfl, b5⟩
          have HD5 := Lib.hid (HBB.out.trans (b5.mono HBB.out.size))
          have HB5 := Lib.hid (HBW.out.trans (b5.mono HBW.out.size))
          clear b5
          go_wp2_with fail
          refine (HC.out wd V5 (by omega) (HE.out _ _ HW.out HB5.out)).mono ?_
          rintro e w6 ⟨A6, cap6, rfl, hr6, b6⟩
          rw [HVW.out] at hr6 ⊢
          dsimp only at hr6 ⊢
          try simp only [List.length_map, List.length_nil, HLN.out]
          obtain ⟨W6, hW6⟩ : ∃ W6, W6 = w6.alloc (.cells #[.int .i64 0, .int .i64 0] 28) := ⟨_, rfl⟩
          have c6 : Below w6.heap.size w6 W6 := by rw [hW6]; exact (Below.refl _ _).alloc (Nat.le_refl _) _
          have g6 : W6.heap[w6.heap.size]? = some (.cells #[.int .i64 0, .int .i64 0] 28 (0, 0)) := by rw [hW6]; exact block_alloc _ _
          have d6 := b6.trans (c6.mono b6.size)
          have HD6 := Lib.hid d6
          have HB6 := Lib.hid (HB5.out.trans (d6.mono HB5.out.size))
          have HR6 := Lib.hid (hr6.later c6)
          have fl60 : W6.cell? ⟨w6.heap.size, 0, none⟩ = some (.int .i64 0) := cell_of_row g6 rfl
          have fl61 : W6.cell? ⟨w6.heap.size, 1, none⟩ = some (.int .i64 0) := cell_of_row g6 rfl
          clear hr6 b6 c6 g6 d6
          subst hW6
          go_wp2_with fail
          generalize w6.alloc (.cells #[.int .i64 0, .int .i64 0] 28) = W6 at HB6 HR6 HD6 ⊢
          have HR16 : Hid (TkRow W6.heap.size W6 A1 (TS.map PT.tk)) := HR1.out.later (HD5.out.trans (HD6.out.mono HD5.out.size))
          clear fl60 fl61
          go_loopw [17] (fun iv wr => ∃ q : Nat, q ≤ TS.length ∧ iv = .int .i64 q ∧ Below W6.heap.size W6 wr) (fun iv _ => TS.length - (intOf iv).toNat)
          case atStart => exact ⟨0, Nat.zero_le _, rfl, Below.refl _ _⟩
          case round =>
            obtain ⟨q, hq, rfl, hB7⟩ := hrel
            have HB7 := Lib.hid hB7
            clear hB7
            by_cases hlt3 : q < TS.length
            · obtain ⟨x, hx⟩ : ∃ x, TS[q]? = some x := ⟨TS[q], List.getElem?_eq_getElem hlt3⟩
              obtain ⟨y, hy⟩ : ∃ y, TW[q]? = some y := ⟨TW[q]'(by rw [HLN.out]; exact hlt3), List.getElem?_eq_getElem _⟩
              have hxy : (y.k, y.n, y.s) = (x.k, x.n, x.s) := by
                have h5 := congrArg (fun L => L[q]?) HEQ.out
                simp only [List.getElem?_map, hx, hy, Option.map_some, Option.some.injEq] at h5
                exact h5
              obtain ⟨ad, rfl, hl1, r1⟩ := HR16.out q x.tk (by rw [List.getElem?_map, hx]; rfl)
              obtain ⟨cd, rfl, hl2, r2⟩ := HR6.out q y.tk (by rw [List.getElem?_map, hy]; rfl)
              obtain ⟨tk, tn, tl, xa, xe⟩ := x
              obtain ⟨tk', tn', tl', ya, ye⟩ := y
              simp only [Prod.mk.injEq] at hxy
              obtain ⟨rfl, rfl, rfl⟩ := hxy
              obtain ⟨ts, hts⟩ : ∃ ts : ByteArray, ts = ⟨tl'.toArray⟩ := ⟨_, rfl⟩
              have e1 : PT.tk ⟨tk', tn', tl', xa, xe⟩ = ⟨tk', tn', ts, xa⟩ := by rw [hts]; rfl
              have e2 : PT.tk ⟨tk', tn', tl', ya, ye⟩ = ⟨tk', tn', ts, ya⟩ := by rw [hts]; rfl
              rw [e1] at r1
              rw [e2] at r2
              have HS3 := Lib.hid (And.intro (r2.keep (HB7.out.block _ hl2)) (r1.keep (HB7.out.block _ hl1)))
              have i0 : (0 : Int) ≤ (q : Int) := by omega
              have i1 : (q : Int) < (TS.length : Int) := by omega
              clear hx hy e1 e2 hts r1 r2 hl1 hl2
              go_wp2_with fail
              have hS0 : RowT wr.drew cd q ⟨tk', tn', ts, (ya : Int)⟩ ∧ RowT wr.drew ad q ⟨tk', tn', ts, (xa : Int)⟩ := HS3.out
              have HB8 : Hid (Below W6.heap.size W6 wr.drew) := HB7.out.trans (Below.mono ⟨rfl, rfl, rfl, Nat.le_refl _, fun _ _ => rfl⟩ HB7.out.size)
              refine wp_region_held (S := fun V => RowT V cd q ⟨tk', tn', ts, (ya : Int)⟩ ∧ RowT V ad q ⟨tk', tn', ts, (xa : Int)⟩) (by kernel_rfl) ?_
              show wpAnyH _ _ _ _ _ _ _ _ wr.drew
              generalize wr.drew = D at hS0 HB8 ⊢
              refine wpAnyH_take (i := 0) (oi := ⟨some 149, _, _, _, _, _⟩) (v := ?_) rfl (by kernel_rfl) (by kernel_rfl) (by kernel_rfl) (fun _ _ _ h => h) (Or.inl ⟨by kernel_rfl, ?_⟩) (by assumption) ?_; rotate_left; (intro w hSw; (try dsimp only at hSw); obtain ⟨⟨r0, r1, r2, r3⟩, ⟨s0, s1, s2, s3⟩⟩ := hSw; dsimp only at r0 r1 r2 r3 s0 s1 s2 s3; go_simp; first | done | with_reducible rfl); (try simp only [Act.put, List.setIfInBounds_toArray, List.set_cons_zero, List.set_cons_succ])
              refine wpAnyH_take (i := 1) (oi := ⟨some 150, _, _, _, _, _⟩) (v := ?_) rfl (by kernel_rfl) (by kernel_rfl) (by kernel_rfl) (fun _ _ _ h => h) (Or.inl ⟨by kernel_rfl, ?_⟩) (by assumption) ?_; rotate_left; (intro w hSw; (try dsimp only at hSw); obtain ⟨⟨r0, r1, r2, r3⟩, ⟨s0, s1, s2, s3⟩⟩ := hSw; dsimp only at r0 r1 r2 r3 s0 s1 s2 s3; go_simp; first | done | with_reducible rfl); (try simp only [Act.put, List.setIfInBounds_toArray, List.set_cons_zero, List.set_cons_succ])
              refine wpAnyH_take (i := 2) (oi := ⟨some 151, _, _, _, _, _⟩) (v := ?_) rfl (by kernel_rfl) (by kernel_rfl) (by kernel_rfl) (fun _ _ _ h => h) (Or.inl ⟨by kernel_rfl, ?_⟩) (by assumption) ?_; rotate_left; (intro w hSw; (try dsimp only at hSw); obtain ⟨⟨r0, r1, r2, r3⟩, ⟨s0, s1, s2, s3⟩⟩ := hSw; dsimp only at r0 r1 r2 r3 s0 s1 s2 s3; go_simp; first | done | with_reducible rfl); (try simp only [Act.put, List.setIfInBounds_toArray, List.set_cons_zero, List.set_cons_succ])
              refine wpAnyH_take (i := 3) (oi := ⟨some 152, _, _, _, _, _⟩) (v := ?_) rfl (by kernel_rfl) (by kernel_rfl) (by kernel_rfl) (fun _ _ _ h => h) (Or.inl ⟨by kernel_rfl, ?_⟩) (by assumption) ?_; rotate_left; (intro w hSw; (try dsimp only at hSw); obtain ⟨⟨r0, r1, r2, r3⟩, ⟨s0, s1, s2, s3⟩⟩ := hSw; dsimp only at r0 r1 r2 r3 s0 s1 s2 s3; go_simp; first | done | with_reducible rfl); (try simp only [Act.put, List.setIfInBounds_toArray, List.set_cons_zero, List.set_cons_succ])
              refine wpAnyH_take (i := 4) (oi := ⟨some 153, _, _, _, _, _⟩) (v := ?_) rfl (by kernel_rfl) (by kernel_rfl) (by kernel_rfl) (fun _ _ _ h => h) (Or.inl ⟨by kernel_rfl, ?_⟩) (by assumption) ?_; rotate_left; (intro w hSw; (try dsimp only at hSw); obtain ⟨⟨r0, r1, r2, r3⟩, ⟨s0, s1, s2, s3⟩⟩ := hSw; dsimp only at r0 r1 r2 r3 s0 s1 s2 s3; go_simp; first | done | with_reducible rfl); (try simp only [Act.put, List.setIfInBounds_toArray, List.set_cons_zero, List.set_cons_succ])
              refine wpAnyH_take (i := 5) (oi := ⟨some 154, _, _, _, _, _⟩) (v := ?_) rfl (by kernel_rfl) (by kernel_rfl) (by kernel_rfl) (fun _ _ _ h => h) (Or.inl ⟨by kernel_rfl, ?_⟩) (by assumption) ?_; rotate_left; (intro w hSw; (try dsimp only at hSw); obtain ⟨⟨r0, r1, r2, r3⟩, ⟨s0, s1, s2, s3⟩⟩ := hSw; dsimp only at r0 r1 r2 r3 s0 s1 s2 s3; go_simp; first | done | with_reducible rfl); (try simp only [Act.put, List.setIfInBounds_toArray, List.set_cons_zero, List.set_cons_succ])
              refine wpAnyH_take (i := 6) (oi := ⟨some 155, _, _, _, _, _⟩) (v := ?_) rfl (by kernel_rfl) (by kernel_rfl) (by kernel_rfl) (fun _ _ _ h => h) (Or.inl ⟨by kernel_rfl, ?_⟩) (by assumption) ?_; rotate_left; (intro w hSw; (try dsimp only at hSw); obtain ⟨⟨r0, r1, r2, r3⟩, ⟨s0, s1, s2, s3⟩⟩ := hSw; dsimp only at r0 r1 r2 r3 s0 s1 s2 s3; go_simp; first | done | with_reducible rfl); (try simp only [Act.put, List.setIfInBounds_toArray, List.set_cons_zero, List.set_cons_succ])
              refine wpAnyH_take (i := 7) (oi := ⟨some 156, _, _, _, _, _⟩) (v := ?_) rfl (by kernel_rfl) (by kernel_rfl) (by kernel_rfl) (fun _ _ _ h => h) (Or.inl ⟨by kernel_rfl, ?_⟩) (by assumption) ?_; rotate_left; (intro w hSw; (try dsimp only at hSw); obtain ⟨⟨r0, r1, r2, r3⟩, ⟨s0, s1, s2, s3⟩⟩ := hSw; dsimp only at r0 r1 r2 r3 s0 s1 s2 s3; go_simp; first | done | with_reducible rfl); (try simp only [Act.put, List.setIfInBounds_toArray, List.set_cons_zero, List.set_cons_succ])
              refine wpAnyH_take (i := 8) (oi := ⟨some 157, _, _, _, _, _⟩) (v := ?_) rfl (by kernel_rfl) (by kernel_rfl) (by kernel_rfl) (fun _ _ _ h => h) (Or.inl ⟨by kernel_rfl, ?_⟩) (by assumption) ?_; rotate_left; (intro w hSw; (try dsimp only at hSw); obtain ⟨⟨r0, r1, r2, r3⟩, ⟨s0, s1, s2, s3⟩⟩ := hSw; dsimp only at r0 r1 r2 r3 s0 s1 s2 s3; go_simp; first | done | with_reducible rfl); (try simp only [Act.put, List.setIfInBounds_toArray, List.set_cons_zero, List.set_cons_succ])
              refine wpAnyH_take (i := 9) (oi := ⟨some 158, _, _, _, _, _⟩) (v := ?_) rfl (by kernel_rfl) (by kernel_rfl) (by kernel_rfl) (fun _ _ _ h => h) (Or.inl ⟨by kernel_rfl, ?_⟩) (by assumption) ?_; rotate_left; (intro w hSw; (try dsimp only at hSw); obtain ⟨⟨r0, r1, r2, r3⟩, ⟨s0, s1, s2, s3⟩⟩ := hSw; dsimp only at r0 r1 r2 r3 s0 s1 s2 s3; go_simp; first | done | with_reducible rfl); (try simp only [Act.put, List.setIfInBounds_toArray, List.set_cons_zero, List.set_cons_succ])
              refine wpAnyH_take (i := 10) (oi := ⟨some 159, _, _, _, _, _⟩) (v := ?_) rfl (by kernel_rfl) (by kernel_rfl) (by kernel_rfl) (fun _ _ _ h => h) (Or.inl ⟨by kernel_rfl, ?_⟩) (by assumption) ?_; rotate_left; (intro w hSw; (try dsimp only at hSw); obtain ⟨⟨r0, r1, r2, r3⟩, ⟨s0, s1, s2, s3⟩⟩ := hSw; dsimp only at r0 r1 r2 r3 s0 s1 s2 s3; go_simp; first | done | with_reducible rfl); (try simp only [Act.put, List.setIfInBounds_toArray, List.set_cons_zero, List.set_cons_succ])
              refine wpAnyH_take (i := 11) (oi := ⟨some 160, _, _, _, _, _⟩) (v := ?_) rfl (by kernel_rfl) (by kernel_rfl) (by kernel_rfl) (fun _ _ _ h => h) (Or.inl ⟨by kernel_rfl, ?_⟩) (by assumption) ?_; rotate_left; (intro w hSw; (try dsimp only at hSw); obtain ⟨⟨r0, r1, r2, r3⟩, ⟨s0, s1, s2, s3⟩⟩ := hSw; dsimp only at r0 r1 r2 r3 s0 s1 s2 s3; go_simp; first | done | with_reducible rfl); (try simp only [Act.put, List.setIfInBounds_toArray, List.set_cons_zero, List.set_cons_succ])
              refine wpAnyH_take (i := 12) (oi := ⟨some 161, _, _, _, _, _⟩) (v := ?_) rfl (by kernel_rfl) (by kernel_rfl) (by kernel_rfl) (fun _ _ _ h => h) (Or.inl ⟨by kernel_rfl, ?_⟩) (by assumption) ?_; rotate_left; (intro w hSw; (try dsimp only at hSw); obtain ⟨⟨r0, r1, r2, r3⟩, ⟨s0, s1, s2, s3⟩⟩ := hSw; dsimp only at r0 r1 r2 r3 s0 s1 s2 s3; go_simp; first | done | with_reducible rfl); (try simp only [Act.put, List.setIfInBounds_toArray, List.set_cons_zero, List.set_cons_succ])
              refine wpAnyH_take (i := 13) (oi := ⟨some 162, _, _, _, _, _⟩) (v := ?_) rfl (by kernel_rfl) (by kernel_rfl) (by kernel_rfl) (fun _ _ _ h => h) (Or.inl ⟨by kernel_rfl, ?_⟩) (by assumption) ?_; rotate_left; (intro w hSw; (try dsimp only at hSw); obtain ⟨⟨r0, r1, r2, r3⟩, ⟨s0, s1, s2, s3⟩⟩ := hSw; dsimp only at r0 r1 r2 r3 s0 s1 s2 s3; go_simp; first | done | with_reducible rfl); (try simp only [Act.put, List.setIfInBounds_toArray, List.set_cons_zero, List.set_cons_succ])
              refine wpAnyH_take (i := 14) (oi := ⟨some 163, _, _, _, _, _⟩) (v := ?_) rfl (by kernel_rfl) (by kernel_rfl) (by kernel_rfl) (fun _ _ _ h => h) (Or.inl ⟨by kernel_rfl, ?_⟩) (by assumption) ?_; rotate_left; (intro w hSw; (try dsimp only at hSw); obtain ⟨⟨r0, r1, r2, r3⟩, ⟨s0, s1, s2, s3⟩⟩ := hSw; dsimp only at r0 r1 r2 r3 s0 s1 s2 s3; go_simp; first | done | with_reducible rfl); (try simp only [Act.put, List.setIfInBounds_toArray, List.set_cons_zero, List.set_cons_succ])
              refine wpAnyH_take (i := 15) (oi := ⟨some 164, _, _, _, _, _⟩) (v := ?_) rfl (by kernel_rfl) (by kernel_rfl) (by kernel_rfl) (fun _ _ _ h => h) (Or.inl ⟨by kernel_rfl, ?_⟩) (by assumption) ?_; rotate_left; (intro w hSw; (try dsimp only at hSw); obtain ⟨⟨r0, r1, r2, r3⟩, ⟨s0, s1, s2, s3⟩⟩ := hSw; dsimp only at r0 r1 r2 r3 s0 s1 s2 s3; go_simp; first | done | with_reducible rfl); (try simp only [Act.put, List.setIfInBounds_toArray, List.set_cons_zero, List.set_cons_succ])
              refine wpAnyH_take (i := 16) (oi := ⟨some 165, _, _, _, _, _⟩) (v := ?_) rfl (by kernel_rfl) (by kernel_rfl) (by kernel_rfl) (fun _ _ _ h => h) (Or.inl ⟨by kernel_rfl, ?_⟩) (by assumption) ?_; rotate_left; (intro w hSw; (try dsimp only at hSw); obtain ⟨⟨r0, r1, r2, r3⟩, ⟨s0, s1, s2, s3⟩⟩ := hSw; dsimp only at r0 r1 r2 r3 s0 s1 s2 s3; go_simp; first | done | with_reducible rfl); (try simp only [Act.put, List.setIfInBounds_toArray, List.set_cons_zero, List.set_cons_succ])
              refine wpAnyH_take (i := 17) (oi := ⟨some 166, _, _, _, _, _⟩) (v := ?_) rfl (by kernel_rfl) (by kernel_rfl) (by kernel_rfl) (fun _ _ _ h => h) (Or.inl ⟨by kernel_rfl, ?_⟩) (by assumption) ?_; rotate_left; (intro w hSw; (try dsimp only at hSw); obtain ⟨⟨r0, r1, r2, r3⟩, ⟨s0, s1, s2, s3⟩⟩ := hSw; dsimp only at r0 r1 r2 r3 s0 s1 s2 s3; go_simp; first | done | with_reducible rfl); (try simp only [Act.put, List.setIfInBounds_toArray, List.set_cons_zero, List.set_cons_succ])
              refine wpAnyH_take (i := 18) (oi := ⟨some 167, _, _, _, _, _⟩) (v := ?_) rfl (by kernel_rfl) (by kernel_rfl) (by kernel_rfl) (fun _ _ _ h => h) (Or.inl ⟨by kernel_rfl, ?_⟩) (by assumption) ?_; rotate_left; (intro w hSw; (try dsimp only at hSw); obtain ⟨⟨r0, r1, r2, r3⟩, ⟨s0, s1, s2, s3⟩⟩ := hSw; dsimp only at r0 r1 r2 r3 s0 s1 s2 s3; go_simp; first | done | with_reducible rfl); (try simp only [Act.put, List.setIfInBounds_toArray, List.set_cons_zero, List.set_cons_succ])
              refine wpAnyH_take (i := 19) (oi := ⟨some 168, _, _, _, _, _⟩) (v := ?_) rfl (by kernel_rfl) (by kernel_rfl) (by kernel_rfl) (fun _ _ _ h => h) (Or.inl ⟨by kernel_rfl, ?_⟩) (by assumption) ?_; rotate_left; (intro w hSw; (try dsimp only at hSw); obtain ⟨⟨r0, r1, r2, r3⟩, ⟨s0, s1, s2, s3⟩⟩ := hSw; dsimp only at r0 r1 r2 r3 s0 s1 s2 s3; go_simp; first | done | with_reducible rfl); (try simp only [Act.put, List.setIfInBounds_toArray, List.set_cons_zero, List.set_cons_succ])
              refine wpAnyH_take (i := 20) (oi := ⟨some 169, _, _, _, _, _⟩) (v := ?_) rfl (by kernel_rfl) (by kernel_rfl) (by kernel_rfl) (fun _ _ _ h => h) (Or.inl ⟨by kernel_rfl, ?_⟩) (by assumption) ?_; rotate_left; (intro w hSw; (try dsimp only at hSw); obtain ⟨⟨r0, r1, r2, r3⟩, ⟨s0, s1, s2, s3⟩⟩ := hSw; dsimp only at r0 r1 r2 r3 s0 s1 s2 s3; go_simp; first | done | with_reducible rfl); (try simp only [Act.put, List.setIfInBounds_toArray, List.set_cons_zero, List.set_cons_succ])
              refine wpAnyH_take (i := 21) (oi := ⟨some 170, _, _, _, _, _⟩) (v := ?_) rfl (by kernel_rfl) (by kernel_rfl) (by kernel_rfl) (fun _ _ _ h => h) (Or.inl ⟨by kernel_rfl, ?_⟩) (by assumption) ?_; rotate_left; (intro w hSw; (try dsimp only at hSw); obtain ⟨⟨r0, r1, r2, r3⟩, ⟨s0, s1, s2, s3⟩⟩ := hSw; dsimp only at r0 r1 r2 r3 s0 s1 s2 s3; go_simp; first | done | with_reducible rfl); (try simp only [Act.put, List.setIfInBounds_toArray, List.set_cons_zero, List.set_cons_succ])
              refine wpAnyH_take (i := 22) (oi := ⟨some 171, _, _, _, _, _⟩) (v := ?_) rfl (by kernel_rfl) (by kernel_rfl) (by kernel_rfl) (fun _ _ _ h => h) (Or.inl ⟨by kernel_rfl, ?_⟩) (by assumption) ?_; rotate_left; (intro w hSw; (try dsimp only at hSw); obtain ⟨⟨r0, r1, r2, r3⟩, ⟨s0, s1, s2, s3⟩⟩ := hSw; dsimp only at r0 r1 r2 r3 s0 s1 s2 s3; go_simp; first | done | with_reducible rfl); (try simp only [Act.put, List.setIfInBounds_toArray, List.set_cons_zero, List.set_cons_succ])
              refine wpAnyH_take (i := 23) (oi := ⟨some 172, _, _, _, _, _⟩) (v := ?_) rfl (by kernel_rfl) (by kernel_rfl) (by kernel_rfl) (fun _ _ _ h => h) (Or.inl ⟨by kernel_rfl, ?_⟩) (by assumption) ?_; rotate_left; (intro w hSw; (try dsimp only at hSw); obtain ⟨⟨r0, r1, r2, r3⟩, ⟨s0, s1, s2, s3⟩⟩ := hSw; dsimp only at r0 r1 r2 r3 s0 s1 s2 s3; go_simp; first | done | with_reducible rfl); (try simp only [Act.put, List.setIfInBounds_toArray, List.set_cons_zero, List.set_cons_succ])
              refine wpAnyH_take (i := 24) (oi := ⟨some 173, _, _, _, _, _⟩) (v := ?_) rfl (by kernel_rfl) (by kernel_rfl) (by kernel_rfl) (fun _ _ _ h => h) (Or.inl ⟨by kernel_rfl, ?_⟩) (by assumption) ?_; rotate_left; (intro w hSw; (try dsimp only at hSw); obtain ⟨⟨r0, r1, r2, r3⟩, ⟨s0, s1, s2, s3⟩⟩ := hSw; dsimp only at r0 r1 r2 r3 s0 s1 s2 s3; go_simp; first | done | with_reducible rfl); (try simp only [Act.put, List.setIfInBounds_toArray, List.set_cons_zero, List.set_cons_succ])
              refine wpAnyH_take (i := 25) (oi := ⟨some 174, _, _, _, _, _⟩) (v := ?_) rfl (by kernel_rfl) (by kernel_rfl) (by kernel_rfl) (fun _ _ _ h => h) (Or.inl ⟨by kernel_rfl, ?_⟩) (by assumption) ?_; rotate_left; (intro w hSw; (try dsimp only at hSw); obtain ⟨⟨r0, r1, r2, r3⟩, ⟨s0, s1, s2, s3⟩⟩ := hSw; dsimp only at r0 r1 r2 r3 s0 s1 s2 s3; go_simp; first | done | with_reducible rfl); (try simp only [Act.put, List.setIfInBounds_toArray, List.set_cons_zero, List.set_cons_succ])
              refine wpAnyH_take (i := 26) (oi := ⟨some 175, _, _, _, _, _⟩) (v := ?_) rfl (by kernel_rfl) (by kernel_rfl) (by kernel_rfl) (fun _ _ _ h => h) (Or.inl ⟨by kernel_rfl, ?_⟩) (by assumption) ?_; rotate_left; (intro w hSw; (try dsimp only at hSw); obtain ⟨⟨r0, r1, r2, r3⟩, ⟨s0, s1, s2, s3⟩⟩ := hSw; dsimp only at r0 r1 r2 r3 s0 s1 s2 s3; go_simp; first | done | with_reducible rfl); (try simp only [Act.put, List.setIfInBounds_toArray, List.set_cons_zero, List.set_cons_succ])
              refine wpAnyH_take (i := 27) (oi := ⟨some 176, _, _, _, _, _⟩) (v := ?_) rfl (by kernel_rfl) (by kernel_rfl) (by kernel_rfl) (fun _ _ _ h => h) (Or.inl ⟨by kernel_rfl, ?_⟩) (by assumption) ?_; rotate_left; (intro w hSw; (try dsimp only at hSw); obtain ⟨⟨r0, r1, r2, r3⟩, ⟨s0, s1, s2, s3⟩⟩ := hSw; dsimp only at r0 r1 r2 r3 s0 s1 s2 s3; go_simp; first | done | with_reducible rfl); (try simp only [Act.put, List.setIfInBounds_toArray, List.set_cons_zero, List.set_cons_succ])
              refine wpAnyH_take (i := 28) (oi := ⟨some 177, _, _, _, _, _⟩) (v := ?_) rfl (by kernel_rfl) (by kernel_rfl) (by kernel_rfl) (fun _ _ _ h => h) (Or.inl ⟨by kernel_rfl, ?_⟩) (by assumption) ?_; rotate_left; (intro w hSw; (try dsimp only at hSw); obtain ⟨⟨r0, r1, r2, r3⟩, ⟨s0, s1, s2, s3⟩⟩ := hSw; dsimp only at r0 r1 r2 r3 s0 s1 s2 s3; go_simp; first | done | with_reducible rfl); (try simp only [Act.put, List.setIfInBounds_toArray, List.set_cons_zero, List.set_cons_succ])
              refine wpAnyH_take (i := 29) (oi := ⟨some 178, _, _, _, _, _⟩) (v := ?_) rfl (by kernel_rfl) (by kernel_rfl) (by kernel_rfl) (fun _ _ _ h => h) (Or.inl ⟨by kernel_rfl, ?_⟩) (by assumption) ?_; rotate_left; (intro w hSw; (try dsimp only at hSw); obtain ⟨⟨r0, r1, r2, r3⟩, ⟨s0, s1, s2, s3⟩⟩ := hSw; dsimp only at r0 r1 r2 r3 s0 s1 s2 s3; go_simp; first | done | with_reducible rfl); (try simp only [Act.put, List.setIfInBounds_toArray, List.set_cons_zero, List.set_cons_succ])
              refine wpAnyH_take (i := 30) (oi := ⟨some 179, _, _, _, _, _⟩) (v := ?_) rfl (by kernel_rfl) (by kernel_rfl) (by kernel_rfl) (fun _ _ _ h => h) (Or.inl ⟨by kernel_rfl, ?_⟩) (by assumption) ?_; rotate_left; (intro w hSw; (try dsimp only at hSw); obtain ⟨⟨r0, r1, r2, r3⟩, ⟨s0, s1, s2, s3⟩⟩ := hSw; dsimp only at r0 r1 r2 r3 s0 s1 s2 s3; go_simp; first | done | with_reducible rfl); (try simp only [Act.put, List.setIfInBounds_toArray, List.set_cons_zero, List.set_cons_succ])
              refine wpAnyH_take (i := 31) (oi := ⟨some 180, _, _, _, _, _⟩) (v := ?_) rfl (by kernel_rfl) (by kernel_rfl) (by kernel_rfl) (fun _ _ _ h => h) (Or.inl ⟨by kernel_rfl, ?_⟩) (by assumption) ?_; rotate_left; (intro w hSw; (try dsimp only at hSw); obtain ⟨⟨r0, r1, r2, r3⟩, ⟨s0, s1, s2, s3⟩⟩ := hSw; dsimp only at r0 r1 r2 r3 s0 s1 s2 s3; go_simp; first | done | with_reducible rfl); (try simp only [Act.put, List.setIfInBounds_toArray, List.set_cons_zero, List.set_cons_succ])
              refine wpAnyH_take (i := 32) (oi := ⟨some 181, _, _, _, _, _⟩) (v := ?_) rfl (by kernel_rfl) (by kernel_rfl) (by kernel_rfl) (fun _ _ _ h => h) (Or.inl ⟨by kernel_rfl, ?_⟩) (by assumption) ?_; rotate_left; (intro w hSw; (try dsimp only at hSw); obtain ⟨⟨r0, r1, r2, r3⟩, ⟨s0, s1, s2, s3⟩⟩ := hSw; dsimp only at r0 r1 r2 r3 s0 s1 s2 s3; go_simp; first | done | with_reducible rfl); (try simp only [Act.put, List.setIfInBounds_toArray, List.set_cons_zero, List.set_cons_succ])
              refine wpAnyH_take (i := 33) (oi := ⟨some 182, _, _, _, _, _⟩) (v := ?_) rfl (by kernel_rfl) (by kernel_rfl) (by kernel_rfl) (fun _ _ _ h => h) (Or.inl ⟨by kernel_rfl, ?_⟩) (by assumption) ?_; rotate_left; (intro w hSw; (try dsimp only at hSw); obtain ⟨⟨r0, r1, r2, r3⟩, ⟨s0, s1, s2, s3⟩⟩ := hSw; dsimp only at r0 r1 r2 r3 s0 s1 s2 s3; go_simp; first | done | with_reducible rfl); (try simp only [Act.put, List.setIfInBounds_toArray, List.set_cons_zero, List.set_cons_succ])
              refine wpAnyH_take (i := 34) (oi := ⟨some 183, _, _, _, _, _⟩) (v := ?_) rfl (by kernel_rfl) (by kernel_rfl) (by kernel_rfl) (fun _ _ _ h => h) (Or.inl ⟨by kernel_rfl, ?_⟩) (by assumption) ?_; rotate_left; (intro w hSw; (try dsimp only at hSw); obtain ⟨⟨r0, r1, r2, r3⟩, ⟨s0, s1, s2, s3⟩⟩ := hSw; dsimp only at r0 r1 r2 r3 s0 s1 s2 s3; go_simp; first | done | with_reducible rfl); (try simp only [Act.put, List.setIfInBounds_toArray, List.set_cons_zero, List.set_cons_succ])
              refine wpAnyH_take (i := 35) (oi := ⟨some 184, _, _, _, _, _⟩) (v := ?_) rfl (by kernel_rfl) (by kernel_rfl) (by kernel_rfl) (fun _ _ _ h => h) (Or.inl ⟨by kernel_rfl, ?_⟩) (by assumption) ?_; rotate_left; (intro w hSw; (try dsimp only at hSw); obtain ⟨⟨r0, r1, r2, r3⟩, ⟨s0, s1, s2, s3⟩⟩ := hSw; dsimp only at r0 r1 r2 r3 s0 s1 s2 s3; go_simp; first | done | with_reducible rfl); (try simp only [Act.put, List.setIfInBounds_toArray, List.set_cons_zero, List.set_cons_succ])
              refine wpAnyH_take (i := 36) (oi := ⟨some 185, _, _, _, _, _⟩) (v := ?_) rfl (by kernel_rfl) (by kernel_rfl) (by kernel_rfl) (fun _ _ _ h => h) (Or.inl ⟨by kernel_rfl, ?_⟩) (by assumption) ?_; rotate_left; (intro w hSw; (try dsimp only at hSw); obtain ⟨⟨r0, r1, r2, r3⟩, ⟨s0, s1, s2, s3⟩⟩ := hSw; dsimp only at r0 r1 r2 r3 s0 s1 s2 s3; go_simp; first | done | with_reducible rfl); (try simp only [Act.put, List.setIfInBounds_toArray, List.set_cons_zero, List.set_cons_succ])
              refine wpAnyH_done (by kernel_rfl) ?_ _
              go_wp2_with fail
              go_roundw
              case rel => exact ⟨q + 1, by omega, by go_num, HB8.out⟩
              case measure => simp [intOf]; omega
            · go_wp2_with fail
              refine (wakes6_ok HE.out HC.out wr (HE.out _ _ HW.out (HB6.out.trans (HB7.out.mono HB6.out.size)))).mono ?_
              rintro e w9 ⟨rfl, b9⟩
              have HB9 := Lib.hid ((HB6.out.trans (HB7.out.mono HB6.out.size)).trans (b9.mono (HB6.out.trans (HB7.out.mono HB6.out.size)).size))
              clear b9
              go_wp2_with fail
              go_ret
              exact ⟨rfl, HB9.out⟩
end Go.Proofs.YtkaijnbefbggeaaDoor
