/- Layer 9: the document's own Check (written by gen_rf9h.py). -/
import Derived.Test.YtmdcdhdjojimeaaGreatDoorKRf9D
set_option linter.unusedVariables false
set_option linter.unusedSimpArgs false
namespace Go.Proofs.YtmdcdhdjojimeaaGreatDoor
open Go.RowKit

theorem least_twice (a : Int) (p : Nat) : leastI (leastI a p) p = leastI a p := by
 have h0 : leastI (p : Int) p = p := by unfold leastI; split <;> rfl
 by_cases h : a < 0 ∨ (0 ≤ (p : Int) ∧ (p : Int) < a)
 ·have e : leastI a p = p := if_pos h
  rw [e, h0]
 ·have e : leastI a p = a := if_neg h
  rw [e, e]
theorem at_foldC (ar : Int) : ∀ (l : List Tm) (S : CS), (l.foldl (stepC ar) S).at_ = S.at_ + (Tm.pres l).length
 | [], S => by simp [Tm.pres]
 | c :: l, S => by rw [List.foldl_cons, at_foldC ar l, nodes_pres_cons]; show S.at_ + c.nodes + _ = _; omega
theorem at_foldF (F : List Fn9) (ms : ByteArray) : ∀ (l : List Tm) (pre : List Tm) (S : CS), (foldF F ms pre S l).at_ = S.at_ + (Tm.pres l).length
 | [], pre, S => by simp [foldF, Tm.pres]
 | f :: l, pre, S => by
  have hz : f.nodes = (Tm.pres f.l).length + 1 := by cases f; exact nodes_mk9 _ _ _ _ _
  rw [foldF, at_foldF F ms l, nodes_pres_cons]
  unfold stepF
  rw [at_foldC]
  show S.at_ + 1 + _ + _ = _
  omega
theorem at_foldM (F : List Fn9) : ∀ (l : List Tm) (pre : List Tm) (S : CS), (foldM9 F pre S l).at_ = S.at_ + (Tm.pres l).length
 | [], pre, S => by simp [foldM9, Tm.pres]
 | f :: l, pre, S => by
  have hz : f.nodes = (Tm.pres f.l).length + 1 := by cases f; exact nodes_mk9 _ _ _ _ _
  rw [foldM9, at_foldM F l, nodes_pres_cons]
  unfold stepM
  rw [at_foldF]
  show S.at_ + 1 + _ + _ = _
  omega
theorem take_in {α β : Type} [DecidableEq β] {g : α → β} {l : List α} {j : Nat} {y : α} (h : l[j]? = some y) (b : β) : (b ∈ (l.take (j + 1)).map g) ↔ (b ∈ (l.take j).map g ∨ g y = b) := by
 rw [List.take_add_one, h, List.map_append, List.mem_append]
 simp only [Option.toList_some, List.map_cons, List.map_nil, List.mem_cons, List.not_mem_nil, or_false]
 constructor
 ·rintro (h | h)
  ·exact .inl h
  ·exact .inr h.symm
 ·rintro (h | h)
  ·exact .inl h
  ·exact .inr h.symm
def IfL (c : Prop) (a : Int) (p : Nat) (v : Int) : Prop := (c → v = leastI a p) ∧ (¬ c → v = a)
theorem IfL.ite {c : Prop} [Decidable c] {a v : Int} {p : Nat} (h : IfL c a p v) : (if c then leastI a p else a) = v := by
 split
 ·rename_i h1; exact (h.1 h1).symm
 ·rename_i h1; exact (h.2 h1).symm

attribute [local irreducible] Go.wpQuiet
set_option maxHeartbeats 64000000 in
set_option maxRecDepth 100000 in
theorem rCheck9_any (x : Tm) (v : Value) (w : World) (hT : TmAt (· < w.heap.size) w x v) (hN : x.nodes ≤ 8200) :
  Calls Tryz.prog 7 #[v] w fun e w' => e = .returned (.tuple #[.int .i64 (((chk9 x).2 : Nat) : Int), .int .i64 (chk9 x).1]) ∧ Below w.heap.size w w' := by
 obtain ⟨X, hX⟩ : ∃ X, X = x := ⟨_, rfl⟩
 rw [← hX]
 obtain ⟨k, n, s, t, l⟩ := x
 obtain ⟨A, cap, rfl, hR, -⟩ := hT.parts
 have hlen := hR.max
 unfold maxLen at hlen
 have HRow := Lib.hid hR
 have HXL : Hid (X.l = l) := Lib.hid (by rw [hX]; rfl)
 rw [nodes_mk9] at hN
 have HN : Hid ((Tm.pres l).length + 1 ≤ 8200) := Lib.hid hN
 have HT0 := Lib.hid hT
 rw [← hX] at hT
 have HT := Lib.hid hT
 obtain ⟨W1, hW1⟩ : ∃ W1, W1 = w.alloc (.cells #[.int .i8 k, .int .i64 n, .string s, .string t, .slice A l.length cap] 25) := ⟨_, rfl⟩
 have hbb : Below w.heap.size w W1 := by rw [hW1]; exact (Below.refl _ _).alloc (Nat.le_refl _) _
 have HG1 : Hid (W1.heap[w.heap.size]? = some (.cells #[.int .i8 k, .int .i64 n, .string s, .string t, .slice A l.length cap] 25 (0, 0))) := Lib.hid (by rw [hW1]; exact block_alloc _ _)
 have HB1 := Lib.hid hbb
 clear hbb
 have hg1 := HG1.out
 obtain ⟨x0, x1, x2, x3, x4⟩ := five_of hg1
 clear hR hT hX hN hg1
 go_enter Tryz.func7, Tryz.ntmps7
 go_upto_region 1 with fail
 rw [← hW1]
 clear hW1
 go_wp2_with fail
 refine (rcheck7_any X _ W1 (HT.out.laterN HB1.out)).mono ?_
 rintro e W3 ⟨rfl, b3⟩
 have HB3 := Lib.hid (HB1.out.trans (b3.mono HB1.out.size))
 have HG3 := Lib.hid ((b3.block _ (heap_lt HG1.out)).trans HG1.out)
 clear x0 x1 x2 x3 x4 b3
 rcases checkR_or X with ⟨hc, hf, hm⟩ | ⟨hc, hf⟩
 rotate_left
 ·rw [hc]
  have HF9 : Hid (chk9 X = (70, 0)) := Lib.hid (by unfold chk9; rw [if_neg hf])
  clear hc hf
  go_wp2_with fail
  go_ret2
  exact ⟨by rw [HF9.out]; rfl, HB3.out⟩
 rw [hc]
 have HANS := Lib.hid (ansC_chk hf hm)
 rw [HXL.out] at HANS
 have HM9 : Hid (∀ m ∈ l, Mod9 m) := Lib.hid (by have h9 := (modsB_9 hm).2; rw [HXL.out] at h9; exact h9)
 obtain ⟨FN, hFN⟩ : ∃ FN, FN = fnsW l := ⟨_, rfl⟩
 have HFN := Lib.hid hFN
 rw [← hFN] at HANS
 clear hc hf hm hFN
 go_wp2_with fail
 go_loopw [4, 5, 6, 7, 8, 9, 10, 11] (fun a4 a5 a6 a7 a8 a9 a10 i wr => ∃ (j : Nat) (mods funs nms own unk slt : Int) (p : Nat), j ≤ l.length ∧ i = .int .i64 (j : Int) ∧ a4 = .int .i64 mods ∧ a5 = .int .i64 funs ∧ a6 = .int .i64 nms ∧ a7 = .int .i64 own ∧ a8 = .int .i64 unk ∧ a9 = .int .i64 slt ∧ a10 = .int .i64 (p : Int) ∧ Hid (foldM9 FN [] CS0 (l.take j) = ⟨mods, funs, nms, own, unk, slt, p⟩) ∧ Hid (Below W3.heap.size W3 wr)) (fun _ _ _ _ _ _ _ i _ => l.length - (intOf i).toNat)
 case atStart => exact ⟨0, -1, -1, -1, -1, -1, -1, 1, Nat.zero_le _, rfl, rfl, rfl, rfl, rfl, rfl, rfl, rfl, Lib.hid rfl, Lib.hid (Below.refl _ _)⟩
 case round =>
  obtain ⟨j, mods, funs, nms, own, unk, slt, p, hj, rfl, rfl, rfl, rfl, rfl, rfl, rfl, rfl, HS, HB⟩ := hrel
  have hg9 := (HB.out.block _ (heap_lt HG3.out)).trans HG3.out
  have x4 : (wr).cell? ⟨w.heap.size, 4, none⟩ = some (.slice A l.length cap) := cell_of_row (i := 4) hg9 rfl
  clear hg9
  by_cases hlt : j < l.length
  ·obtain ⟨y, hy⟩ : ∃ y, l[j]? = some y := ⟨l[j], List.getElem?_eq_getElem hlt⟩
   have HMK := Lib.hid (HM9.out y (List.mem_of_getElem? hy))
   have hpb : p + y.nodes ≤ 8200 := by
    have h1 := at_foldM FN (l.take j) [] CS0
    rw [HS.out] at h1
    have h2 := nodes_take9 hy
    have h3 := HN.out
    have h4 : p = 1 + (Tm.pres (l.take j)).length := h1
    omega
   have HSN := Lib.hid (foldM_snoc FN l [] CS0 j y hy)
   rw [HS.out, List.nil_append] at HSN
   obtain ⟨mk, mn, ms, mt, ml⟩ := y
   rw [nodes_mk9] at hpb
   have HPB := Lib.hid hpb
   obtain ⟨ad, u, hA, had, hE, hTy⟩ := HRow.out.at_ j _ hy
   subst hA
   obtain ⟨MA, mc, rfl, hyR, -⟩ := hTy.parts
   have hylen := hyR.max
   unfold maxLen at hylen
   have HYR := Lib.hid hyR
   have HEL : Hid (∀ (V2 : World) (i : Nat) (z : Tm), Below W3.heap.size W3 V2 → l[i]? = some z → ∃ c0 c1 c3 c4, ElemAt V2 ad i (.agg #[c0, c1, .string z.s, c3, c4])) := Lib.hid (fun V2 i z hb2 hz => by
    obtain ⟨ad', u', hA', had', hE', hT'⟩ := HRow.out.at_ i z hz
    cases hA'
    obtain ⟨k', n', s', t', l'⟩ := z
    obtain ⟨A', c', rfl, -⟩ := hT'.parts
    exact ⟨_, _, _, _, hE'.keep ((HB3.out.trans (hb2.mono HB3.out.size)).block _ had')⟩)
   have hi0 : (0 : Int) ≤ (j : Int) := by omega
   have hi1 : (j : Int) < (l.length : Int) := by omega
   obtain ⟨d0, d1, d2, d3, d4, hag, e0, e1, e2, e3, e4⟩ := hE.keep ((HB3.out.trans (HB.out.mono HB3.out.size)).block _ had)
   cases hag
   obtain ⟨W4, hW4⟩ : ∃ W4, W4 = wr := ⟨_, rfl⟩
   subst hW4
   obtain ⟨W5, hW5⟩ : ∃ W5, W5 = W4.alloc (.cells #[.int .i8 mk, .int .i64 mn, .string ms, .string mt, .slice MA ml.length mc] 25) := ⟨_, rfl⟩
   have hbb : Below W4.heap.size W4 W5 := by rw [hW5]; exact (Below.refl _ _).alloc (Nat.le_refl _) _
   have HG5 : Hid (W5.heap[W4.heap.size]? = some (.cells #[.int .i8 mk, .int .i64 mn, .string ms, .string mt, .slice MA ml.length mc] 25 (0, 0))) := Lib.hid (by rw [hW5]; exact block_alloc _ _)
   have HB5 := Lib.hid hbb
   clear hbb
   have HB35 := Lib.hid (HB.out.trans (HB5.out.mono HB.out.size))
   clear hE had hTy hy hyR hpb
   go_upto_region 9 with fail
   rw [← hW5]
   clear hW5 e0 e1 e2 e3 e4 x4
   go_wp2_with fail
   go_loopw [4, 13] (fun a i wr => ∃ (k2 : Nat) (v : Int), k2 ≤ j ∧ i = .int .i64 (k2 : Int) ∧ a = .int .i64 v ∧ Hid (IfL (ms ∈ (l.take k2).map (·.s)) mods p v) ∧ Hid (Below W5.heap.size W5 wr)) (fun _ i _ => j - (intOf i).toNat)
   case atStart => exact ⟨0, mods, Nat.zero_le _, rfl, rfl, Lib.hid ⟨fun h => by simp at h, fun _ => rfl⟩, Lib.hid (Below.refl _ _)⟩
   case round =>
    obtain ⟨k2, v, hk2, rfl, rfl, HV, HBW⟩ := hrel
    by_cases hlt2 : k2 < j
    ·obtain ⟨z, hz⟩ : ∃ z, l[k2]? = some z := ⟨l[k2]'(by omega), List.getElem?_eq_getElem _⟩
     have HBX := Lib.hid (HB35.out.trans (HBW.out.mono HB35.out.size))
     have HZI := Lib.hid (take_in (g := fun y : Tm => y.s) hz ms)
     have HZE : Hid (∀ V2, Below wr.heap.size wr V2 → ∃ c0 c1 c3 c4, ElemAt V2 ad k2 (.agg #[c0, c1, .string z.s, c3, c4])) := Lib.hid (fun V2 hb2 => HEL.out V2 k2 z (HBX.out.trans (hb2.mono HBX.out.size)) hz)
     have HGXW : Hid (∀ V2, Below wr.heap.size wr V2 → V2.heap[w.heap.size]? = some (.cells #[.int .i8 k, .int .i64 n, .string s, .string t, .slice (some ad) l.length cap] 25 (0, 0))) := Lib.hid (fun V2 hb2 => ((HBX.out.trans (hb2.mono HBX.out.size)).block _ (heap_lt HG3.out)).trans HG3.out)
     have HGMW : Hid (∀ V2, Below wr.heap.size wr V2 → V2.heap[W4.heap.size]? = some (.cells #[.int .i8 mk, .int .i64 mn, .string ms, .string mt, .slice MA ml.length mc] 25 (0, 0))) := Lib.hid (fun V2 hb2 => ((HBW.out.trans (hb2.mono HBW.out.size)).block _ (heap_lt HG5.out)).trans HG5.out)
     have hk0 : (0 : Int) ≤ (k2 : Int) := by omega
     have hk1 : (k2 : Int) < (l.length : Int) := by omega
     obtain ⟨zs, hzs⟩ : ∃ zs, zs = z.s := ⟨_, rfl⟩
     rw [← hzs] at HZE
     have HZS := Lib.hid hzs
     clear hz hzs
     go_upto_region 12 with fail
     by_cases hms : zs.toList = ms.toList
     ·have hq1 : (zs.toList == ms.toList) = true := beq_iff_eq.2 hms
      have HNV : Hid (IfL (ms ∈ (l.take (k2 + 1)).map (·.s)) mods p (leastI v p)) := Lib.hid ⟨fun _ => by
       by_cases h9 : ms ∈ (l.take k2).map (·.s)
       ·rw [HV.out.1 h9, least_twice]
       ·rw [HV.out.2 h9], fun h => absurd (HZI.out.2 (.inr (by rw [← HZS.out]; exact bytes_eq9.1 hms))) h⟩
      clear hms
      refine wp_region_qC (C := fun V => Below (wr).heap.size (wr) V) (by kernel_rfl) (by kernel_rfl) (drewC (wr)) ?_
      refine wpq1 ?_; (try simp only [Act.put, sI, sZ, sS])
      refine wpqC (v := ?_) (by kernel_rfl) ?_ ?_; rotate_left; (intro V hV; (try dsimp only at hV); have hx9 := HGXW.out V hV; have x4 := cell_of_row (i := 4) hx9 rfl; go_simp; first | done | with_reducible rfl); (try simp only [Act.put, sI, sZ, sS])
      refine wpq1 ?_; (try simp only [Act.put, sI, sZ, sS])
      refine wpq1 ?_; (try simp only [Act.put, sI, sZ, sS])
      refine wpq1 ?_; (try simp only [Act.put, sI, sZ, sS])
      refine wpqC (v := ?_) (by kernel_rfl) ?_ ?_; rotate_left; (intro V hV; (try dsimp only at hV); obtain ⟨c0, c1, c3, c4, q0, q1, q2, q3, q4, hq, e0, e1, e2, e3, e4⟩ := HZE.out V hV; cases hq; go_simp; first | done | with_reducible rfl); (try simp only [Act.put, sI, sZ, sS])
      refine wpq1 ?_; (try simp only [Act.put, sI, sZ, sS])
      refine wpqC (v := ?_) (by kernel_rfl) ?_ ?_; rotate_left; (intro V hV; (try dsimp only at hV); have hm9 := HGMW.out V hV; have y2 := cell_of_row (i := 2) hm9 rfl; go_simp; first | done | with_reducible rfl); (try simp only [Act.put, sI, sZ, sS])
      refine wpq1 ?_; (try simp only [Act.put, sI, sZ, sS])
      refine wpQuiet_nil ?_
      intro V9 h9
      (try dsimp only at h9)
      have HB7 := Lib.hid h9
      clear h9
      go_wp2_with fail
      refine (rleast9_any v p _).mono ?_
      rintro e V10 ⟨rfl, rfl⟩
      have HB10 := Lib.hid (HBW.out.trans (HB7.out.mono HBW.out.size))
      go_wp2_with fail
      go_roundw
      case rel => exact ⟨k2 + 1, leastI v p, by omega, by go_num, rfl, HNV, HB10⟩
      case measure => simp [intOf]; omega
     ·have hq1 : (zs.toList == ms.toList) = false := beq_eq_false_iff_ne.2 hms
      have HNV : Hid (IfL (ms ∈ (l.take (k2 + 1)).map (·.s)) mods p v) := Lib.hid ⟨fun h => by
       rcases HZI.out.1 h with h9 | h9
       ·exact HV.out.1 h9
       ·exact absurd (bytes_eq9.2 (by rw [HZS.out]; exact h9)) hms, fun h => HV.out.2 (fun h9 => h (HZI.out.2 (.inl h9)))⟩
      clear hms
      refine wp_region_qC (C := fun V => Below (wr).heap.size (wr) V) (by kernel_rfl) (by kernel_rfl) (drewC (wr)) ?_
      refine wpq1 ?_; (try simp only [Act.put, sI, sZ, sS])
      refine wpqC (v := ?_) (by kernel_rfl) ?_ ?_; rotate_left; (intro V hV; (try dsimp only at hV); have hx9 := HGXW.out V hV; have x4 := cell_of_row (i := 4) hx9 rfl; go_simp; first | done | with_reducible rfl); (try simp only [Act.put, sI, sZ, sS])
      refine wpq1 ?_; (try simp only [Act.put, sI, sZ, sS])
      refine wpq1 ?_; (try simp only [Act.put, sI, sZ, sS])
      refine wpq1 ?_; (try simp only [Act.put, sI, sZ, sS])
      refine wpqC (v := ?_) (by kernel_rfl) ?_ ?_; rotate_left; (intro V hV; (try dsimp only at hV); obtain ⟨c0, c1, c3, c4, q0, q1, q2, q3, q4, hq, e0, e1, e2, e3, e4⟩ := HZE.out V hV; cases hq; go_simp; first | done | with_reducible rfl); (try simp only [Act.put, sI, sZ, sS])
      refine wpq1 ?_; (try simp only [Act.put, sI, sZ, sS])
      refine wpqC (v := ?_) (by kernel_rfl) ?_ ?_; rotate_left; (intro V hV; (try dsimp only at hV); have hm9 := HGMW.out V hV; have y2 := cell_of_row (i := 2) hm9 rfl; go_simp; first | done | with_reducible rfl); (try simp only [Act.put, sI, sZ, sS])
      refine wpq1 ?_; (try simp only [Act.put, sI, sZ, sS])
      refine wpQuiet_nil ?_
      intro V9 h9
      (try dsimp only at h9)
      have HB7 := Lib.hid h9
      clear h9
      have HB10 := Lib.hid (HBW.out.trans (HB7.out.mono HBW.out.size))
      go_wp2_with fail
      go_roundw
      case rel => exact ⟨k2 + 1, v, by omega, by go_num, rfl, HNV, HB10⟩
      case measure => simp [intOf]; omega
    ·obtain rfl : k2 = j := by omega
     have HHM : Hid (headM (l.take k2) ⟨mods, funs, nms, own, unk, slt, p⟩ (.mk mk mn ms mt ml) = ⟨v, funs, nms, own, unk, slt, p + 1⟩) := Lib.hid (by
      unfold headM
      show CS.mk (if ms ∈ (l.take k2).map (·.s) then leastI mods p else mods) _ _ _ _ _ _ = _
      rw [HV.out.ite])
     have HB36 := Lib.hid (HB35.out.trans (HBW.out.mono HB35.out.size))
     obtain ⟨W6, hW6⟩ : ∃ W6, W6 = wr := ⟨_, rfl⟩
     subst hW6
     have HG6 := Lib.hid ((HBW.out.block _ (heap_lt HG5.out)).trans HG5.out)
     clear HV hlt2 hk2 HBW
     obtain ⟨q, hq⟩ : ∃ q : Nat, q = p + 1 := ⟨_, rfl⟩
     have hbd : p ≤ 100000 := by have := HPB.out; omega
     have hw1 : IntKind.i64.wrap ((p : Int) + 1) = (q : Int) := by rw [IntKind.wrap_i64]; omega
     have hw2 : (p : Int) + 1 = (q : Int) := by omega
     have hw3 : IntKind.i64.wrap (q : Int) = (q : Int) := by rw [IntKind.wrap_i64]; omega
     have Hq := Lib.hid hq
     clear hq hbd
     go_upto_region 15 with fail
     clear hw1 hw2 hw3
     have HSM : Hid (foldM9 FN [] CS0 (l.take (k2 + 1)) = foldF FN ms [] ⟨v, funs, nms, own, unk, slt, q⟩ ml) := Lib.hid (by
      rw [HSN.out]
      unfold stepM
      rw [HHM.out, Hq.out]
      rfl)
     go_wp2_with fail
     go_loopw [5, 6, 7, 8, 9, 10, 14] (fun a5 a6 a7 a8 a9 a10 i wr => ∃ (i2 : Nat) (funs2 nms2 own2 unk2 slt2 : Int) (p2 : Nat), i2 ≤ ml.length ∧ i = .int .i64 (i2 : Int) ∧ a5 = .int .i64 funs2 ∧ a6 = .int .i64 nms2 ∧ a7 = .int .i64 own2 ∧ a8 = .int .i64 unk2 ∧ a9 = .int .i64 slt2 ∧ a10 = .int .i64 (p2 : Int) ∧ Hid (foldF FN ms [] ⟨v, funs, nms, own, unk, slt, q⟩ (ml.take i2) = ⟨v, funs2, nms2, own2, unk2, slt2, p2⟩) ∧ Hid (Below W6.heap.size W6 wr)) (fun _ _ _ _ _ _ i _ => ml.length - (intOf i).toNat)
     case atStart => exact ⟨0, funs, nms, own, unk, slt, q, Nat.zero_le _, rfl, rfl, rfl, rfl, rfl, rfl, rfl, Lib.hid rfl, Lib.hid (Below.refl _ _)⟩
     case round =>
      obtain ⟨i2, funs2, nms2, own2, unk2, slt2, p2, hi2, rfl, rfl, rfl, rfl, rfl, rfl, rfl, HS2, HBF⟩ := hrel
      have hg9 := (HBF.out.block _ (heap_lt HG6.out)).trans HG6.out
      have y4 : (wr).cell? ⟨W4.heap.size, 4, none⟩ = some (.slice MA ml.length mc) := cell_of_row (i := 4) hg9 rfl
      clear hg9
      by_cases hlt3 : i2 < ml.length
      ·obtain ⟨f, hf⟩ : ∃ f, ml[i2]? = some f := ⟨ml[i2], List.getElem?_eq_getElem hlt3⟩
       have HFK := Lib.hid (HMK.out.funs f (List.mem_of_getElem? hf))
       have hpb : p2 + f.nodes ≤ 8200 := by
        have h1 := at_foldF FN ms (ml.take i2) [] ⟨v, funs, nms, own, unk, slt, q⟩
        rw [HS2.out] at h1
        have h2 := nodes_take9 hf
        have h3 := HPB.out
        have h4 : p2 = q + (Tm.pres (ml.take i2)).length := h1
        have h5 := Hq.out
        omega
       have HSF := Lib.hid (foldF_snoc FN ms ml [] ⟨v, funs, nms, own, unk, slt, q⟩ i2 f hf)
       rw [HS2.out, List.nil_append] at HSF
       obtain ⟨fk, fn, fs, ft, fl⟩ := f
       obtain ⟨ar, har⟩ : ∃ ar : Nat, fn = (ar : Int) := ⟨fn.toNat, by have := HFK.out.arity; have h9 : (Tm.mk fk fn fs ft fl).n = fn := rfl; omega⟩
       subst har
       have HAR : Hid (ar ≤ 8) := Lib.hid (by have := HFK.out.arity.2; have h9 : (Tm.mk fk (ar : Int) fs ft fl).n = (ar : Int) := rfl; omega)
       rw [nodes_mk9] at hpb
       have HPF := Lib.hid hpb
       obtain ⟨bd, u, hA, had, hE, hTf⟩ := HYR.out.at_ i2 _ hf
       subst hA
       obtain ⟨FA, fc, rfl, hfR, -⟩ := hTf.parts
       have hflen := hfR.max
       unfold maxLen at hflen
       have HFR := Lib.hid hfR
       have HTF := Lib.hid hTf
       have HEM : Hid (∀ (V2 : World) (i : Nat) (z : Tm), Below W3.heap.size W3 V2 → ml[i]? = some z → ∃ c0 c3 c4, ElemAt V2 bd i (.agg #[c0, .int .i64 z.n, .string z.s, c3, c4])) := Lib.hid (fun V2 i z hb2 hz => by
        obtain ⟨ad', u', hA', had', hE', hT'⟩ := HYR.out.at_ i z hz
        cases hA'
        obtain ⟨k', n', s', t', l'⟩ := z
        obtain ⟨A', c', rfl, -⟩ := hT'.parts
        exact ⟨_, _, _, hE'.keep ((HB3.out.trans (hb2.mono HB3.out.size)).block _ had')⟩)
       have HB3F := Lib.hid (HB36.out.trans (HBF.out.mono HB36.out.size))
       obtain ⟨d0, d1, d2, d3, d4, hag, e0, e1, e2, e3, e4⟩ := hE.keep ((HB3.out.trans (HB3F.out.mono HB3.out.size)).block _ had)
       cases hag
       obtain ⟨W7, hW7⟩ : ∃ W7, W7 = wr := ⟨_, rfl⟩
       subst hW7
       have hj0 : (0 : Int) ≤ (i2 : Int) := by omega
       have hj1 : (i2 : Int) < (ml.length : Int) := by omega
       obtain ⟨W8, hW8⟩ : ∃ W8, W8 = W7.alloc (.cells #[.int .i8 fk, .int .i64 (ar : Int), .string fs, .string ft, .slice FA fl.length fc] 25) := ⟨_, rfl⟩
       have hbb : Below W7.heap.size W7 W8 := by rw [hW8]; exact (Below.refl _ _).alloc (Nat.le_refl _) _
       have HG8 : Hid (W8.heap[W7.heap.size]? = some (.cells #[.int .i8 fk, .int .i64 (ar : Int), .string fs, .string ft, .slice FA fl.length fc] 25 (0, 0))) := Lib.hid (by rw [hW8]; exact block_alloc _ _)
       have HB8 := Lib.hid hbb
       clear hbb
       have HB38 := Lib.hid (HB3F.out.trans (HB8.out.mono HB3F.out.size))
       have HB68 := Lib.hid (HBF.out.trans (HB8.out.mono HBF.out.size))
       clear hE had hTf hf hfR hpb
       go_upto_region 19 with fail
       rw [← hW8]
       clear hW8 e0 e1 e2 e3 e4 y4
       go_wp2_with fail
       go_loopw [5, 16] (fun a i wr => ∃ (k3 : Nat) (v3 : Int), k3 ≤ i2 ∧ i = .int .i64 (k3 : Int) ∧ a = .int .i64 v3 ∧ Hid (IfL ((fs, (ar : Int)) ∈ (ml.take k3).map (fun y => (y.s, y.n))) funs2 p2 v3) ∧ Hid (Below W8.heap.size W8 wr)) (fun _ i _ => i2 - (intOf i).toNat)
       case atStart => exact ⟨0, funs2, Nat.zero_le _, rfl, rfl, Lib.hid ⟨fun h => by simp at h, fun _ => rfl⟩, Lib.hid (Below.refl _ _)⟩
       case round =>
        obtain ⟨k3, v3, hk3, rfl, rfl, HV3, HBW⟩ := hrel
        by_cases hlt4 : k3 < i2
        ·obtain ⟨z, hz⟩ : ∃ z, ml[k3]? = some z := ⟨ml[k3]'(by omega), List.getElem?_eq_getElem _⟩
         have HBX := Lib.hid (HB38.out.trans (HBW.out.mono HB38.out.size))
         have HZI := Lib.hid (take_in (g := fun y : Tm => (y.s, y.n)) hz (fs, (ar : Int)))
         have HZE : Hid (∀ V2, Below wr.heap.size wr V2 → ∃ c0 c3 c4, ElemAt V2 bd k3 (.agg #[c0, .int .i64 z.n, .string z.s, c3, c4])) := Lib.hid (fun V2 hb2 => HEM.out V2 k3 z (HBX.out.trans (hb2.mono HBX.out.size)) hz)
         have HGMW : Hid (∀ V2, Below wr.heap.size wr V2 → V2.heap[W4.heap.size]? = some (.cells #[.int .i8 mk, .int .i64 mn, .string ms, .string mt, .slice (some bd) ml.length mc] 25 (0, 0))) := Lib.hid (fun V2 hb2 => ((HB68.out.trans ((HBW.out.trans (hb2.mono HBW.out.size)).mono HB68.out.size)).block _ (heap_lt HG6.out)).trans HG6.out)
         have HGFW : Hid (∀ V2, Below wr.heap.size wr V2 → V2.heap[W7.heap.size]? = some (.cells #[.int .i8 fk, .int .i64 (ar : Int), .string fs, .string ft, .slice FA fl.length fc] 25 (0, 0))) := Lib.hid (fun V2 hb2 => ((HBW.out.trans (hb2.mono HBW.out.size)).block _ (heap_lt HG8.out)).trans HG8.out)
         have hl0 : (0 : Int) ≤ (k3 : Int) := by omega
         have hl1 : (k3 : Int) < (ml.length : Int) := by omega
         obtain ⟨zs, hzs⟩ : ∃ zs, zs = z.s := ⟨_, rfl⟩
         obtain ⟨zn, hzn⟩ : ∃ zn, zn = z.n := ⟨_, rfl⟩
         rw [← hzs, ← hzn] at HZE
         have HZS := Lib.hid (And.intro hzs hzn)
         clear hz hzs hzn
         go_upto_region 22 with fail
         by_cases hms : zs.toList = fs.toList
         ·have hq1 : (zs.toList == fs.toList) = true := beq_iff_eq.2 hms
          by_cases hmn : zn = (ar : Int)
          ·have hq2 : (zn == (ar : Int)) = true := beq_iff_eq.2 hmn
           have HNV : Hid (IfL ((fs, (ar : Int)) ∈ (ml.take (k3 + 1)).map (fun y => (y.s, y.n))) funs2 p2 (leastI v3 p2)) := Lib.hid ⟨fun _ => by
            by_cases h9 : (fs, (ar : Int)) ∈ (ml.take k3).map (fun y => (y.s, y.n))
            ·rw [HV3.out.1 h9, least_twice]
            ·rw [HV3.out.2 h9], fun h => absurd (HZI.out.2 (.inr (by rw [← HZS.out.1, ← HZS.out.2, hmn, bytes_eq9.1 hms]))) h⟩
           clear hms hmn
           refine wp_region_qC (C := fun V => Below (wr).heap.size (wr) V) (by kernel_rfl) (by kernel_rfl) (drewC (wr)) ?_
           refine wpq1 ?_; (try simp only [Act.put, sI, sZ, sS])
           refine wpqC (v := ?_) (by kernel_rfl) ?_ ?_; rotate_left; (intro V hV; (try dsimp only at hV); have hm9 := HGMW.out V hV; have y4 := cell_of_row (i := 4) hm9 rfl; go_simp; first | done | with_reducible rfl); (try simp only [Act.put, sI, sZ, sS])
           refine wpq1 ?_; (try simp only [Act.put, sI, sZ, sS])
           refine wpq1 ?_; (try simp only [Act.put, sI, sZ, sS])
           refine wpq1 ?_; (try simp only [Act.put, sI, sZ, sS])
           refine wpqC (v := ?_) (by kernel_rfl) ?_ ?_; rotate_left; (intro V hV; (try dsimp only at hV); obtain ⟨c0, c3, c4, q0, q1, q2, q3, q4, hq, e0, e1, e2, e3, e4⟩ := HZE.out V hV; cases hq; go_simp; first | done | with_reducible rfl); (try simp only [Act.put, sI, sZ, sS])
           refine wpq1 ?_; (try simp only [Act.put, sI, sZ, sS])
           refine wpqC (v := ?_) (by kernel_rfl) ?_ ?_; rotate_left; (intro V hV; (try dsimp only at hV); have hf9 := HGFW.out V hV; have z2 := cell_of_row (i := 2) hf9 rfl; go_simp; first | done | with_reducible rfl); (try simp only [Act.put, sI, sZ, sS])
           refine wpq1 ?_; (try simp only [Act.put, sI, sZ, sS])
           refine wpq1 ?_; (try simp only [Act.put, sI, sZ, sS])
           refine wpq1 ?_; (try simp only [Act.put, sI, sZ, sS])
           refine wpqC (v := ?_) (by kernel_rfl) ?_ ?_; rotate_left; (intro V hV; (try dsimp only at hV); have hm9 := HGMW.out V hV; have y4 := cell_of_row (i := 4) hm9 rfl; go_simp; first | done | with_reducible rfl); (try simp only [Act.put, sI, sZ, sS])
           refine wpq1 ?_; (try simp only [Act.put, sI, sZ, sS])
           refine wpq1 ?_; (try simp only [Act.put, sI, sZ, sS])
           refine wpq1 ?_; (try simp only [Act.put, sI, sZ, sS])
           refine wpqC (v := ?_) (by kernel_rfl) ?_ ?_; rotate_left; (intro V hV; (try dsimp only at hV); obtain ⟨c0, c3, c4, q0, q1, q2, q3, q4, hq, e0, e1, e2, e3, e4⟩ := HZE.out V hV; cases hq; go_simp; first | done | with_reducible rfl); (try simp only [Act.put, sI, sZ, sS])
           refine wpq1 ?_; (try simp only [Act.put, sI, sZ, sS])
           refine wpqC (v := ?_) (by kernel_rfl) ?_ ?_; rotate_left; (intro V hV; (try dsimp only at hV); have hf9 := HGFW.out V hV; have z1 := cell_of_row (i := 1) hf9 rfl; go_simp; first | done | with_reducible rfl); (try simp only [Act.put, sI, sZ, sS])
           refine wpq1 ?_; (try simp only [Act.put, sI, sZ, sS])
           refine wpq1 ?_; (try simp only [Act.put, sI, sZ, sS])
           refine wpQuiet_nil ?_
           intro V9 h9
           (try dsimp only at h9)
           have HB7 := Lib.hid h9
           clear h9
           go_wp2_with fail
           refine (rleast9_any v3 p2 _).mono ?_
           rintro e V10 ⟨rfl, rfl⟩
           have HB10 := Lib.hid (HBW.out.trans (HB7.out.mono HBW.out.size))
           go_wp2_with fail
           go_roundw
           case rel => exact ⟨k3 + 1, leastI v3 p2, by omega, by go_num, rfl, HNV, HB10⟩
           case measure => simp [intOf]; omega
          ·have hq2 : (zn == (ar : Int)) = false := beq_eq_false_iff_ne.2 hmn
           have HNV : Hid (IfL ((fs, (ar : Int)) ∈ (ml.take (k3 + 1)).map (fun y => (y.s, y.n))) funs2 p2 v3) := Lib.hid ⟨fun h => by
            rcases HZI.out.1 h with h9 | h9
            ·exact HV3.out.1 h9
            ·exact absurd (by rw [HZS.out.2]; exact (Prod.mk.inj h9).2) hmn, fun h => HV3.out.2 (fun h9 => h (HZI.out.2 (.inl h9)))⟩
           clear hms hmn
           refine wp_region_qC (C := fun V => Below (wr).heap.size (wr) V) (by kernel_rfl) (by kernel_rfl) (drewC (wr)) ?_
           refine wpq1 ?_; (try simp only [Act.put, sI, sZ, sS])
           refine wpqC (v := ?_) (by kernel_rfl) ?_ ?_; rotate_left; (intro V hV; (try dsimp only at hV); have hm9 := HGMW.out V hV; have y4 := cell_of_row (i := 4) hm9 rfl; go_simp; first | done | with_reducible rfl); (try simp only [Act.put, sI, sZ, sS])
           refine wpq1 ?_; (try simp only [Act.put, sI, sZ, sS])
           refine wpq1 ?_; (try simp only [Act.put, sI, sZ, sS])
           refine wpq1 ?_; (try simp only [Act.put, sI, sZ, sS])
           refine wpqC (v := ?_) (by kernel_rfl) ?_ ?_; rotate_left; (intro V hV; (try dsimp only at hV); obtain ⟨c0, c3, c4, q0, q1, q2, q3, q4, hq, e0, e1, e2, e3, e4⟩ := HZE.out V hV; cases hq; go_simp; first | done | with_reducible rfl); (try simp only [Act.put, sI, sZ, sS])
           refine wpq1 ?_; (try simp only [Act.put, sI, sZ, sS])
           refine wpqC (v := ?_) (by kernel_rfl) ?_ ?_; rotate_left; (intro V hV; (try dsimp only at hV); have hf9 := HGFW.out V hV; have z2 := cell_of_row (i := 2) hf9 rfl; go_simp; first | done | with_reducible rfl); (try simp only [Act.put, sI, sZ, sS])
           refine wpq1 ?_; (try simp only [Act.put, sI, sZ, sS])
           refine wpq1 ?_; (try simp only [Act.put, sI, sZ, sS])
           refine wpq1 ?_; (try simp only [Act.put, sI, sZ, sS])
           refine wpqC (v := ?_) (by kernel_rfl) ?_ ?_; rotate_left; (intro V hV; (try dsimp only at hV); have hm9 := HGMW.out V hV; have y4 := cell_of_row (i := 4) hm9 rfl; go_simp; first | done | with_reducible rfl); (try simp only [Act.put, sI, sZ, sS])
           refine wpq1 ?_; (try simp only [Act.put, sI, sZ, sS])
           refine wpq1 ?_; (try simp only [Act.put, sI, sZ, sS])
           refine wpq1 ?_; (try simp only [Act.put, sI, sZ, sS])
           refine wpqC (v := ?_) (by kernel_rfl) ?_ ?_; rotate_left; (intro V hV; (try dsimp only at hV); obtain ⟨c0, c3, c4, q0, q1, q2, q3, q4, hq, e0, e1, e2, e3, e4⟩ := HZE.out V hV; cases hq; go_simp; first | done | with_reducible rfl); (try simp only [Act.put, sI, sZ, sS])
           refine wpq1 ?_; (try simp only [Act.put, sI, sZ, sS])
           refine wpqC (v := ?_) (by kernel_rfl) ?_ ?_; rotate_left; (intro V hV; (try dsimp only at hV); have hf9 := HGFW.out V hV; have z1 := cell_of_row (i := 1) hf9 rfl; go_simp; first | done | with_reducible rfl); (try simp only [Act.put, sI, sZ, sS])
           refine wpq1 ?_; (try simp only [Act.put, sI, sZ, sS])
           refine wpq1 ?_; (try simp only [Act.put, sI, sZ, sS])
           refine wpQuiet_nil ?_
           intro V9 h9
           (try dsimp only at h9)
           have HB7 := Lib.hid h9
           clear h9
           have HB10 := Lib.hid (HBW.out.trans (HB7.out.mono HBW.out.size))
           go_wp2_with fail
           go_roundw
           case rel => exact ⟨k3 + 1, v3, by omega, by go_num, rfl, HNV, HB10⟩
           case measure => simp [intOf]; omega
         ·have hq1 : (zs.toList == fs.toList) = false := beq_eq_false_iff_ne.2 hms
          have HNV : Hid (IfL ((fs, (ar : Int)) ∈ (ml.take (k3 + 1)).map (fun y => (y.s, y.n))) funs2 p2 v3) := Lib.hid ⟨fun h => by
           rcases HZI.out.1 h with h9 | h9
           ·exact HV3.out.1 h9
           ·exact absurd (bytes_eq9.2 (by rw [HZS.out.1]; exact (Prod.mk.inj h9).1)) hms, fun h => HV3.out.2 (fun h9 => h (HZI.out.2 (.inl h9)))⟩
          clear hms
          refine wp_region_qC (C := fun V => Below (wr).heap.size (wr) V) (by kernel_rfl) (by kernel_rfl) (drewC (wr)) ?_
          refine wpq1 ?_; (try simp only [Act.put, sI, sZ, sS])
          refine wpqC (v := ?_) (by kernel_rfl) ?_ ?_; rotate_left; (intro V hV; (try dsimp only at hV); have hm9 := HGMW.out V hV; have y4 := cell_of_row (i := 4) hm9 rfl; go_simp; first | done | with_reducible rfl); (try simp only [Act.put, sI, sZ, sS])
          refine wpq1 ?_; (try simp only [Act.put, sI, sZ, sS])
          refine wpq1 ?_; (try simp only [Act.put, sI, sZ, sS])
          refine wpq1 ?_; (try simp only [Act.put, sI, sZ, sS])
          refine wpqC (v := ?_) (by kernel_rfl) ?_ ?_; rotate_left; (intro V hV; (try dsimp only at hV); obtain ⟨c0, c3, c4, q0, q1, q2, q3, q4, hq, e0, e1, e2, e3, e4⟩ := HZE.out V hV; cases hq; go_simp; first | done | with_reducible rfl); (try simp only [Act.put, sI, sZ, sS])
          refine wpq1 ?_; (try simp only [Act.put, sI, sZ, sS])
          refine wpqC (v := ?_) (by kernel_rfl) ?_ ?_; rotate_left; (intro V hV; (try dsimp only at hV); have hf9 := HGFW.out V hV; have z2 := cell_of_row (i := 2) hf9 rfl; go_simp; first | done | with_reducible rfl); (try simp only [Act.put, sI, sZ, sS])
          refine wpq1 ?_; (try simp only [Act.put, sI, sZ, sS])
          refine wpq1 ?_; (try simp only [Act.put, sI, sZ, sS])
          refine wpqC_skip (by kernel_rfl) ?_; (try simp only [Act.put, sI, sZ, sS])
          refine wpqC_skip (by kernel_rfl) ?_; (try simp only [Act.put, sI, sZ, sS])
          refine wpqC_skip (by kernel_rfl) ?_; (try simp only [Act.put, sI, sZ, sS])
          refine wpqC_skip (by kernel_rfl) ?_; (try simp only [Act.put, sI, sZ, sS])
          refine wpqC_skip (by kernel_rfl) ?_; (try simp only [Act.put, sI, sZ, sS])
          refine wpqC_skip (by kernel_rfl) ?_; (try simp only [Act.put, sI, sZ, sS])
          refine wpqC_skip (by kernel_rfl) ?_; (try simp only [Act.put, sI, sZ, sS])
          refine wpqC_skip (by kernel_rfl) ?_; (try simp only [Act.put, sI, sZ, sS])
          refine wpqC_skip (by kernel_rfl) ?_; (try simp only [Act.put, sI, sZ, sS])
          refine wpq1 ?_; (try simp only [Act.put, sI, sZ, sS])
          refine wpQuiet_nil ?_
          intro V9 h9
          (try dsimp only at h9)
          have HB7 := Lib.hid h9
          clear h9
          have HB10 := Lib.hid (HBW.out.trans (HB7.out.mono HBW.out.size))
          go_wp2_with fail
          go_roundw
          case rel => exact ⟨k3 + 1, v3, by omega, by go_num, rfl, HNV, HB10⟩
          case measure => simp [intOf]; omega
        ·obtain rfl : k3 = i2 := by omega
         obtain ⟨W9, hW9⟩ : ∃ W9, W9 = wr := ⟨_, rfl⟩
         subst hW9
         have HB39 := Lib.hid (HB38.out.trans (HBW.out.mono HB38.out.size))
         have HB69 := Lib.hid (HB68.out.trans (HBW.out.mono HB68.out.size))
         have HG9X := Lib.hid ((HB39.out.block _ (heap_lt HG3.out)).trans HG3.out)
         have HG9M := Lib.hid ((HB69.out.block _ (heap_lt HG6.out)).trans HG6.out)
         have HG9F := Lib.hid ((HBW.out.block _ (heap_lt HG8.out)).trans HG8.out)
         have hgx := HG9X.out
         have hgm := HG9M.out
         have hgf := HG9F.out
         obtain ⟨x0, x1, x2, x3, x4⟩ := five_of hgx
         have y2 : (W9).cell? ⟨W4.heap.size, 2, none⟩ = some (.string ms) := cell_of_row (i := 2) hgm rfl
         have y4 : (W9).cell? ⟨W4.heap.size, 4, none⟩ = some (.slice (some bd) ml.length mc) := cell_of_row (i := 4) hgm rfl
         obtain ⟨z0, z1, z2, z3, z4⟩ := five_of hgf
         clear hgx hgm hgf hlt4 hk3
         have HCT := Lib.hid (rbuilt_any fs (ar : Int) W9)
         have hbel : Below w.heap.size w W9 := HB3.out.trans (HB39.out.mono HB3.out.size)
         have HCC := Lib.hid (rcalls9_any k n s t l (some ad) cap ms (.mk fk (ar : Int) fs ft fl) _ p2 W9 (HT0.out.keep (fun b hb => hbel.block b hb) (fun b hb => Nat.lt_of_lt_of_le hb hbel.size)) (HTF.out.keep (fun b hb => hbel.block b hb) (fun b hb => Nat.lt_of_lt_of_le hb hbel.size)) (by rw [nodes_mk9]; have := HPF.out; omega))
         rw [← HFN.out] at HCC
         clear hbel
         cases hbt : builtB fs (ar : Int) with
         | true =>
          go_wp2_with fail
          refine HCT.out.mono ?_
          rintro e W9 ⟨rfl, rfl⟩
          rw [hbt]
          go_wp2_with fail
          refine (rleast9_any own2 p2 _).mono ?_
          rintro e W9 ⟨rfl, rfl⟩
          go_wp2_with fail
          have hbtF : Hid (headF FN ms (ml.take k3) ⟨v, funs2, nms2, own2, unk2, slt2, p2⟩ (.mk fk (ar : Int) fs ft fl) = ⟨v, v3, nms2, (leastI own2 p2), leastI unk2 (oI (badW FN ms p2 (Tm.mk fk (ar : Int) fs ft fl).pre)), slt2, p2 + 1⟩) := Lib.hid (by
           unfold headF
           show CS.mk v (if (fs, (ar : Int)) ∈ (ml.take k3).map (fun y => (y.s, y.n)) then leastI funs2 p2 else funs2) nms2 (if builtB fs (ar : Int) = true then leastI own2 p2 else own2) _ _ _ = _
           rw [HV3.out.ite, hbt]
           rfl)
          clear hbt
          refine HCC.out.mono ?_
          rintro e W10 ⟨rfl, b10⟩
          have HB10 := Lib.hid b10
          clear b10 HCC x0 x1 x2 x3 x4 y2 y4 z0 z1 z2 z3 z4
          obtain ⟨bq, hbq⟩ : ∃ bq, bq = oI (badW FN ms p2 (Tm.mk fk (ar : Int) fs ft fl).pre) := ⟨_, rfl⟩
          rw [← hbq] at hbtF ⊢
          clear hbq
          go_wp2_with fail
          refine (rleast9_any unk2 bq _).mono ?_
          rintro e W10 ⟨rfl, rfl⟩
          obtain ⟨unk3, hu3⟩ : ∃ unk3, unk3 = leastI unk2 bq := ⟨_, rfl⟩
          rw [← hu3] at hbtF ⊢
          clear hu3
          obtain ⟨own3, ho3⟩ : ∃ own3, own3 = (leastI own2 p2) := ⟨_, rfl⟩
          have HO3 := Lib.hid ho3
          rw [← ho3]
          clear ho3
          obtain ⟨q2, hq⟩ : ∃ q2 : Nat, q2 = p2 + 1 := ⟨_, rfl⟩
          have hbd : p2 ≤ 100000 := by have := HPF.out; omega
          have hw1 : IntKind.i64.wrap ((p2 : Int) + 1) = (q2 : Int) := by rw [IntKind.wrap_i64]; omega
          have hw2 : (p2 : Int) + 1 = (q2 : Int) := by omega
          have hw3 : IntKind.i64.wrap (q2 : Int) = (q2 : Int) := by rw [IntKind.wrap_i64]; omega
          have Hq2 := Lib.hid hq
          clear hq hbd
          go_upto_region 28 with fail
          clear hw1 hw2 hw3
          have HHF : Hid (headF FN ms (ml.take k3) ⟨v, funs2, nms2, own2, unk2, slt2, p2⟩ (.mk fk (ar : Int) fs ft fl) = ⟨v, v3, nms2, own3, unk3, slt2, q2⟩) := Lib.hid (by rw [hbtF.out, Hq2.out, HO3.out])
          clear hbtF
          have HB310 := Lib.hid (HB39.out.trans (HB10.out.mono HB39.out.size))
          have HB610 := Lib.hid (HB69.out.trans (HB10.out.mono HB69.out.size))
          have HG10F := Lib.hid ((HB10.out.block _ (heap_lt HG9F.out)).trans HG9F.out)
          go_wp2_with fail
          go_loopw [6, 9, 10, 17] (fun a6 a9 a10 i wr => ∃ (i3 : Nat) (nms3 slt3 : Int) (p3 : Nat), i3 ≤ fl.length ∧ i = .int .i64 (i3 : Int) ∧ a6 = .int .i64 nms3 ∧ a9 = .int .i64 slt3 ∧ a10 = .int .i64 (p3 : Int) ∧ Hid ((fl.take i3).foldl (stepC (ar : Int)) ⟨v, v3, nms2, own3, unk3, slt2, q2⟩ = ⟨v, v3, nms3, own3, unk3, slt3, p3⟩) ∧ Hid (Below W10.heap.size W10 wr)) (fun _ _ _ i _ => fl.length - (intOf i).toNat)
          case atStart => exact ⟨0, nms2, slt2, q2, Nat.zero_le _, rfl, rfl, rfl, rfl, Lib.hid rfl, Lib.hid (Below.refl _ _)⟩
          case round =>
           obtain ⟨i3, nms3, slt3, p3, hi3, rfl, rfl, rfl, rfl, HS3, HBE⟩ := hrel
           have hg9 := (HBE.out.block _ (heap_lt HG10F.out)).trans HG10F.out
           have z1 : (wr).cell? ⟨W7.heap.size, 1, none⟩ = some (.int .i64 (ar : Int)) := cell_of_row (i := 1) hg9 rfl
           have z4 : (wr).cell? ⟨W7.heap.size, 4, none⟩ = some (.slice FA fl.length fc) := cell_of_row (i := 4) hg9 rfl
           clear hg9
           by_cases hlt5 : i3 < fl.length
           ·obtain ⟨c, hc⟩ : ∃ c, fl[i3]? = some c := ⟨fl[i3], List.getElem?_eq_getElem hlt5⟩
            have hcl := HFK.out.cls c (List.mem_of_getElem? hc)
            obtain ⟨cj, hcj⟩ := hcl.2.1
            have HPC : Hid (p3 + c.nodes ≤ 8200) := Lib.hid (by
             have h1 := at_foldC (ar : Int) (fl.take i3) ⟨v, v3, nms2, own3, unk3, slt2, q2⟩
             rw [HS3.out] at h1
             have h2 := nodes_take9 hc
             have h3 := HPF.out
             have h4 : p3 = q2 + (Tm.pres (fl.take i3)).length := h1
             have h5 := Hq2.out
             omega)
            have HSC := Lib.hid (foldC_snoc (ar : Int) ⟨v, v3, nms2, own3, unk3, slt2, q2⟩ fl i3 c hc)
            rw [HS3.out] at HSC
            have HB3E := Lib.hid (HB310.out.trans (HBE.out.mono HB310.out.size))
            have HBWE := Lib.hid (HB3.out.trans (HB3E.out.mono HB3.out.size))
            obtain ⟨cd, c0, c1, c2, c3, c4, hA9, hTc, hEc⟩ := relem HFR.out HBWE.out hc
            cases hA9
            have HEC : Hid (∀ V2, Below wr.heap.size wr V2 → ElemAt V2 cd i3 (.agg #[c0, c1, c2, c3, c4])) := Lib.hid (fun V2 hb2 => by
             obtain ⟨ad', u', hA', had', hE', hT'⟩ := HFR.out.at_ i3 c hc
             cases hA'
             exact hEc.keep (hb2.block _ (Nat.lt_of_lt_of_le had' HBWE.out.size)))
            obtain ⟨W11, hW11⟩ : ∃ W11, W11 = wr.alloc (.cells #[.slice none 0 0, .int .i64 (p3 : Int), .int .i64 (ar : Int), .int .i64 (-1), .int .i64 (-1), .slice none 0 0] 57) := ⟨_, rfl⟩
            have HR11 := Lib.hid (RAt.new p3 HAR.out hW11)
            have b11 : Below wr.heap.size wr W11 := by rw [hW11]; exact (Below.refl _ _).alloc (Nat.le_refl _) _
            have HB11 := Lib.hid b11
            have HC := Lib.hid ((rwalk_all ⟨wr, wr.heap.size, wr.heap.size, ar⟩ c).2.1 cj hcj _ ⟨[], [], []⟩ W11 p3 (hTc.keep (fun b hb => HBWE.out.block b hb) (fun b hb => Nat.lt_of_lt_of_le hb HBWE.out.size)) HR11.out (by have := HPC.out; omega) 0 ⟨Nat.zero_le _, Nat.zero_le _, Nat.zero_le _⟩ (by have := HPC.out; omega) (by unfold Seen9; show (-1 : Int) < _; omega))
            have HZ : Hid (∀ V2, Below wr.heap.size wr V2 → Calls Tryz.prog 27 #[.agg #[c0, c1, c2, c3, c4]] V2 fun e w' => e = .returned (.int .i64 (c.nodes : Int)) ∧ Below V2.heap.size V2 w') := Lib.hid (fun V2 hb2 => by
             have hb3 := HBWE.out.trans (hb2.mono HBWE.out.size)
             exact rsize9_any c _ V2 (hTc.keep (fun b hb => hb3.block b hb) (fun b hb => Nat.lt_of_lt_of_le hb hb3.size)) (by have := HPC.out; omega))
            obtain ⟨u90, hu90⟩ : ∃ u90, u90 = fst9 90 (clW (32 - (ar : Int)) p3 c).fl := ⟨_, rfl⟩
            obtain ⟨u11, hu11⟩ : ∃ u11, u11 = fst9 11 (clW (32 - (ar : Int)) p3 c).fl := ⟨_, rfl⟩
            have HU9 := Lib.hid (And.intro hu90 hu11)
            obtain ⟨cn, hcn⟩ : ∃ cn, cn = c.nodes := ⟨_, rfl⟩
            have HCN := Lib.hid hcn
            rw [← hcn] at HZ HPC
            have hm0 : (0 : Int) ≤ (i3 : Int) := by omega
            have hm1 : (i3 : Int) < (fl.length : Int) := by omega
            have hp3 : p3 + cn ≤ 8200 := HPC.out
            clear hcl hcj hTc hEc hc b11 hcn
            go_upto_region 32 with fail
            rw [← hW11]
            clear hW11 z1 z4
            have hgf := (HB11.out.block _ (heap_lt ((HBE.out.block _ (heap_lt HG10F.out)).trans HG10F.out))).trans ((HBE.out.block _ (heap_lt HG10F.out)).trans HG10F.out)
            have z4 : (W11).cell? ⟨W7.heap.size, 4, none⟩ = some (.slice (some cd) fl.length fc) := cell_of_row (i := 4) hgf rfl
            obtain ⟨q0, q1, q2', q3, q4, hq, e0, e1, e2, e3, e4⟩ := HEC.out W11 HB11.out
            cases hq
            clear hgf
            go_wp2_with fail
            refine HC.out.mono ?_
            rintro e W12 ⟨rfl, hR12, -⟩
            obtain ⟨-, bA, bc, aA, ac, hR⟩ := hR12
            have HB12 : Hid (Below wr.heap.size wr W12) := Lib.hid hR.below
            have r3 : W12.cell? ⟨wr.heap.size, 3, none⟩ = some (.int .i64 u90) := by rw [hu90]; exact cell_of_row (i := 3) hR.box rfl
            have r4 : W12.cell? ⟨wr.heap.size, 4, none⟩ = some (.int .i64 u11) := by rw [hu11]; exact cell_of_row (i := 4) hR.box rfl
            clear z4 e0 e1 e2 e3 e4 HC hR hu90 hu11
            have hgf := (HB12.out.block _ (heap_lt ((HBE.out.block _ (heap_lt HG10F.out)).trans HG10F.out))).trans ((HBE.out.block _ (heap_lt HG10F.out)).trans HG10F.out)
            have z4 : (W12).cell? ⟨W7.heap.size, 4, none⟩ = some (.slice (some cd) fl.length fc) := cell_of_row (i := 4) hgf rfl
            obtain ⟨q0, q1, q2', q3, q4, hq, e0, e1, e2, e3, e4⟩ := HEC.out W12 HB12.out
            cases hq
            clear hgf
            go_wp2_with fail
            refine (rleast9_any nms3 u90 _).mono ?_
            rintro e V13 ⟨rfl, rfl⟩
            go_wp2_with fail
            refine (rleast9_any slt3 u11 _).mono ?_
            rintro e V13 ⟨rfl, rfl⟩
            go_wp2_with fail
            refine (HZ.out _ HB12.out).mono ?_
            rintro e W13 ⟨rfl, b13⟩
            have HB13 := Lib.hid (HBE.out.trans ((HB12.out.trans (b13.mono HB12.out.size)).mono HBE.out.size))
            have HNS : Hid ((fl.take (i3 + 1)).foldl (stepC (ar : Int)) ⟨v, v3, nms2, own3, unk3, slt2, q2⟩ = ⟨v, v3, leastI nms3 u90, own3, unk3, leastI slt3 u11, p3 + cn⟩) := Lib.hid (by
             rw [HSC.out]
             unfold stepC
             rw [HU9.out.1, HU9.out.2, HCN.out])
            clear r3 r4 z4 e0 e1 e2 e3 e4 b13
            obtain ⟨n9, hn9⟩ : ∃ n9, n9 = leastI nms3 u90 := ⟨_, rfl⟩
            obtain ⟨s9, hs9⟩ : ∃ s9, s9 = leastI slt3 u11 := ⟨_, rfl⟩
            rw [← hn9, ← hs9] at HNS ⊢
            clear hn9 hs9
            go_wp2_with fail
            go_roundw
            case rel => exact ⟨i3 + 1, n9, s9, p3 + cn, by omega, by go_num, rfl, rfl, by go_num, HNS, HB13⟩
            case measure => simp [intOf]; omega
           ·obtain rfl : i3 = fl.length := by omega
            have HEND : Hid (foldF FN ms [] ⟨v, funs, nms, own, unk, slt, q⟩ (ml.take (k3 + 1)) = ⟨v, v3, nms3, own3, unk3, slt3, p3⟩) := Lib.hid (by
             rw [HSF.out]
             unfold stepF
             rw [HHF.out]
             have h9 := HS3.out
             rw [List.take_length] at h9
             exact h9)
            have HBF9 : Hid (Below W6.heap.size W6 wr) := Lib.hid (HB610.out.trans (HBE.out.mono HB610.out.size))
            go_wp2_with fail
            go_roundw
            case rel => exact ⟨k3 + 1, v3, nms3, own3, unk3, slt3, p3, by omega, by go_num, rfl, rfl, rfl, rfl, rfl, rfl, HEND, HBF9⟩
            case measure => simp [intOf]; omega
         | false =>
          go_wp2_with fail
          refine HCT.out.mono ?_
          rintro e W9 ⟨rfl, rfl⟩
          rw [hbt]
          go_wp2_with fail
          have hbtF : Hid (headF FN ms (ml.take k3) ⟨v, funs2, nms2, own2, unk2, slt2, p2⟩ (.mk fk (ar : Int) fs ft fl) = ⟨v, v3, nms2, own2, leastI unk2 (oI (badW FN ms p2 (Tm.mk fk (ar : Int) fs ft fl).pre)), slt2, p2 + 1⟩) := Lib.hid (by
           unfold headF
           show CS.mk v (if (fs, (ar : Int)) ∈ (ml.take k3).map (fun y => (y.s, y.n)) then leastI funs2 p2 else funs2) nms2 (if builtB fs (ar : Int) = true then leastI own2 p2 else own2) _ _ _ = _
           rw [HV3.out.ite, hbt]
           rfl)
          clear hbt
          refine HCC.out.mono ?_
          rintro e W10 ⟨rfl, b10⟩
          have HB10 := Lib.hid b10
          clear b10 HCC x0 x1 x2 x3 x4 y2 y4 z0 z1 z2 z3 z4
          obtain ⟨bq, hbq⟩ : ∃ bq, bq = oI (badW FN ms p2 (Tm.mk fk (ar : Int) fs ft fl).pre) := ⟨_, rfl⟩
          rw [← hbq] at hbtF ⊢
          clear hbq
          go_wp2_with fail
          refine (rleast9_any unk2 bq _).mono ?_
          rintro e W10 ⟨rfl, rfl⟩
          obtain ⟨unk3, hu3⟩ : ∃ unk3, unk3 = leastI unk2 bq := ⟨_, rfl⟩
          rw [← hu3] at hbtF ⊢
          clear hu3
          obtain ⟨own3, ho3⟩ : ∃ own3, own3 = own2 := ⟨_, rfl⟩
          have HO3 := Lib.hid ho3
          rw [← ho3]
          clear ho3
          obtain ⟨q2, hq⟩ : ∃ q2 : Nat, q2 = p2 + 1 := ⟨_, rfl⟩
          have hbd : p2 ≤ 100000 := by have := HPF.out; omega
          have hw1 : IntKind.i64.wrap ((p2 : Int) + 1) = (q2 : Int) := by rw [IntKind.wrap_i64]; omega
          have hw2 : (p2 : Int) + 1 = (q2 : Int) := by omega
          have hw3 : IntKind.i64.wrap (q2 : Int) = (q2 : Int) := by rw [IntKind.wrap_i64]; omega
          have Hq2 := Lib.hid hq
          clear hq hbd
          go_upto_region 28 with fail
          clear hw1 hw2 hw3
          have HHF : Hid (headF FN ms (ml.take k3) ⟨v, funs2, nms2, own2, unk2, slt2, p2⟩ (.mk fk (ar : Int) fs ft fl) = ⟨v, v3, nms2, own3, unk3, slt2, q2⟩) := Lib.hid (by rw [hbtF.out, Hq2.out, HO3.out])
          clear hbtF
          have HB310 := Lib.hid (HB39.out.trans (HB10.out.mono HB39.out.size))
          have HB610 := Lib.hid (HB69.out.trans (HB10.out.mono HB69.out.size))
          have HG10F := Lib.hid ((HB10.out.block _ (heap_lt HG9F.out)).trans HG9F.out)
          go_wp2_with fail
          go_loopw [6, 9, 10, 17] (fun a6 a9 a10 i wr => ∃ (i3 : Nat) (nms3 slt3 : Int) (p3 : Nat), i3 ≤ fl.length ∧ i = .int .i64 (i3 : Int) ∧ a6 = .int .i64 nms3 ∧ a9 = .int .i64 slt3 ∧ a10 = .int .i64 (p3 : Int) ∧ Hid ((fl.take i3).foldl (stepC (ar : Int)) ⟨v, v3, nms2, own3, unk3, slt2, q2⟩ = ⟨v, v3, nms3, own3, unk3, slt3, p3⟩) ∧ Hid (Below W10.heap.size W10 wr)) (fun _ _ _ i _ => fl.length - (intOf i).toNat)
          case atStart => exact ⟨0, nms2, slt2, q2, Nat.zero_le _, rfl, rfl, rfl, rfl, Lib.hid rfl, Lib.hid (Below.refl _ _)⟩
          case round =>
           obtain ⟨i3, nms3, slt3, p3, hi3, rfl, rfl, rfl, rfl, HS3, HBE⟩ := hrel
           have hg9 := (HBE.out.block _ (heap_lt HG10F.out)).trans HG10F.out
           have z1 : (wr).cell? ⟨W7.heap.size, 1, none⟩ = some (.int .i64 (ar : Int)) := cell_of_row (i := 1) hg9 rfl
           have z4 : (wr).cell? ⟨W7.heap.size, 4, none⟩ = some (.slice FA fl.length fc) := cell_of_row (i := 4) hg9 rfl
           clear hg9
           by_cases hlt5 : i3 < fl.length
           ·obtain ⟨c, hc⟩ : ∃ c, fl[i3]? = some c := ⟨fl[i3], List.getElem?_eq_getElem hlt5⟩
            have hcl := HFK.out.cls c (List.mem_of_getElem? hc)
            obtain ⟨cj, hcj⟩ := hcl.2.1
            have HPC : Hid (p3 + c.nodes ≤ 8200) := Lib.hid (by
             have h1 := at_foldC (ar : Int) (fl.take i3) ⟨v, v3, nms2, own3, unk3, slt2, q2⟩
             rw [HS3.out] at h1
             have h2 := nodes_take9 hc
             have h3 := HPF.out
             have h4 : p3 = q2 + (Tm.pres (fl.take i3)).length := h1
             have h5 := Hq2.out
             omega)
            have HSC := Lib.hid (foldC_snoc (ar : Int) ⟨v, v3, nms2, own3, unk3, slt2, q2⟩ fl i3 c hc)
            rw [HS3.out] at HSC
            have HB3E := Lib.hid (HB310.out.trans (HBE.out.mono HB310.out.size))
            have HBWE := Lib.hid (HB3.out.trans (HB3E.out.mono HB3.out.size))
            obtain ⟨cd, c0, c1, c2, c3, c4, hA9, hTc, hEc⟩ := relem HFR.out HBWE.out hc
            cases hA9
            have HEC : Hid (∀ V2, Below wr.heap.size wr V2 → ElemAt V2 cd i3 (.agg #[c0, c1, c2, c3, c4])) := Lib.hid (fun V2 hb2 => by
             obtain ⟨ad', u', hA', had', hE', hT'⟩ := HFR.out.at_ i3 c hc
             cases hA'
             exact hEc.keep (hb2.block _ (Nat.lt_of_lt_of_le had' HBWE.out.size)))
            obtain ⟨W11, hW11⟩ : ∃ W11, W11 = wr.alloc (.cells #[.slice none 0 0, .int .i64 (p3 : Int), .int .i64 (ar : Int), .int .i64 (-1), .int .i64 (-1), .slice none 0 0] 57) := ⟨_, rfl⟩
            have HR11 := Lib.hid (RAt.new p3 HAR.out hW11)
            have b11 : Below wr.heap.size wr W11 := by rw [hW11]; exact (Below.refl _ _).alloc (Nat.le_refl _) _
            have HB11 := Lib.hid b11
            have HC := Lib.hid ((rwalk_all ⟨wr, wr.heap.size, wr.heap.size, ar⟩ c).2.1 cj hcj _ ⟨[], [], []⟩ W11 p3 (hTc.keep (fun b hb => HBWE.out.block b hb) (fun b hb => Nat.lt_of_lt_of_le hb HBWE.out.size)) HR11.out (by have := HPC.out; omega) 0 ⟨Nat.zero_le _, Nat.zero_le _, Nat.zero_le _⟩ (by have := HPC.out; omega) (by unfold Seen9; show (-1 : Int) < _; omega))
            have HZ : Hid (∀ V2, Below wr.heap.size wr V2 → Calls Tryz.prog 27 #[.agg #[c0, c1, c2, c3, c4]] V2 fun e w' => e = .returned (.int .i64 (c.nodes : Int)) ∧ Below V2.heap.size V2 w') := Lib.hid (fun V2 hb2 => by
             have hb3 := HBWE.out.trans (hb2.mono HBWE.out.size)
             exact rsize9_any c _ V2 (hTc.keep (fun b hb => hb3.block b hb) (fun b hb => Nat.lt_of_lt_of_le hb hb3.size)) (by have := HPC.out; omega))
            obtain ⟨u90, hu90⟩ : ∃ u90, u90 = fst9 90 (clW (32 - (ar : Int)) p3 c).fl := ⟨_, rfl⟩
            obtain ⟨u11, hu11⟩ : ∃ u11, u11 = fst9 11 (clW (32 - (ar : Int)) p3 c).fl := ⟨_, rfl⟩
            have HU9 := Lib.hid (And.intro hu90 hu11)
            obtain ⟨cn, hcn⟩ : ∃ cn, cn = c.nodes := ⟨_, rfl⟩
            have HCN := Lib.hid hcn
            rw [← hcn] at HZ HPC
            have hm0 : (0 : Int) ≤ (i3 : Int) := by omega
            have hm1 : (i3 : Int) < (fl.length : Int) := by omega
            have hp3 : p3 + cn ≤ 8200 := HPC.out
            clear hcl hcj hTc hEc hc b11 hcn
            go_upto_region 32 with fail
            rw [← hW11]
            clear hW11 z1 z4
            have hgf := (HB11.out.block _ (heap_lt ((HBE.out.block _ (heap_lt HG10F.out)).trans HG10F.out))).trans ((HBE.out.block _ (heap_lt HG10F.out)).trans HG10F.out)
            have z4 : (W11).cell? ⟨W7.heap.size, 4, none⟩ = some (.slice (some cd) fl.length fc) := cell_of_row (i := 4) hgf rfl
            obtain ⟨q0, q1, q2', q3, q4, hq, e0, e1, e2, e3, e4⟩ := HEC.out W11 HB11.out
            cases hq
            clear hgf
            go_wp2_with fail
            refine HC.out.mono ?_
            rintro e W12 ⟨rfl, hR12, -⟩
            obtain ⟨-, bA, bc, aA, ac, hR⟩ := hR12
            have HB12 : Hid (Below wr.heap.size wr W12) := Lib.hid hR.below
            have r3 : W12.cell? ⟨wr.heap.size, 3, none⟩ = some (.int .i64 u90) := by rw [hu90]; exact cell_of_row (i := 3) hR.box rfl
            have r4 : W12.cell? ⟨wr.heap.size, 4, none⟩ = some (.int .i64 u11) := by rw [hu11]; exact cell_of_row (i := 4) hR.box rfl
            clear z4 e0 e1 e2 e3 e4 HC hR hu90 hu11
            have hgf := (HB12.out.block _ (heap_lt ((HBE.out.block _ (heap_lt HG10F.out)).trans HG10F.out))).trans ((HBE.out.block _ (heap_lt HG10F.out)).trans HG10F.out)
            have z4 : (W12).cell? ⟨W7.heap.size, 4, none⟩ = some (.slice (some cd) fl.length fc) := cell_of_row (i := 4) hgf rfl
            obtain ⟨q0, q1, q2', q3, q4, hq, e0, e1, e2, e3, e4⟩ := HEC.out W12 HB12.out
            cases hq
            clear hgf
            go_wp2_with fail
            refine (rleast9_any nms3 u90 _).mono ?_
            rintro e V13 ⟨rfl, rfl⟩
            go_wp2_with fail
            refine (rleast9_any slt3 u11 _).mono ?_
            rintro e V13 ⟨rfl, rfl⟩
            go_wp2_with fail
            refine (HZ.out _ HB12.out).mono ?_
            rintro e W13 ⟨rfl, b13⟩
            have HB13 := Lib.hid (HBE.out.trans ((HB12.out.trans (b13.mono HB12.out.size)).mono HBE.out.size))
            have HNS : Hid ((fl.take (i3 + 1)).foldl (stepC (ar : Int)) ⟨v, v3, nms2, own3, unk3, slt2, q2⟩ = ⟨v, v3, leastI nms3 u90, own3, unk3, leastI slt3 u11, p3 + cn⟩) := Lib.hid (by
             rw [HSC.out]
             unfold stepC
             rw [HU9.out.1, HU9.out.2, HCN.out])
            clear r3 r4 z4 e0 e1 e2 e3 e4 b13
            obtain ⟨n9, hn9⟩ : ∃ n9, n9 = leastI nms3 u90 := ⟨_, rfl⟩
            obtain ⟨s9, hs9⟩ : ∃ s9, s9 = leastI slt3 u11 := ⟨_, rfl⟩
            rw [← hn9, ← hs9] at HNS ⊢
            clear hn9 hs9
            go_wp2_with fail
            go_roundw
            case rel => exact ⟨i3 + 1, n9, s9, p3 + cn, by omega, by go_num, rfl, rfl, by go_num, HNS, HB13⟩
            case measure => simp [intOf]; omega
           ·obtain rfl : i3 = fl.length := by omega
            have HEND : Hid (foldF FN ms [] ⟨v, funs, nms, own, unk, slt, q⟩ (ml.take (k3 + 1)) = ⟨v, v3, nms3, own3, unk3, slt3, p3⟩) := Lib.hid (by
             rw [HSF.out]
             unfold stepF
             rw [HHF.out]
             have h9 := HS3.out
             rw [List.take_length] at h9
             exact h9)
            have HBF9 : Hid (Below W6.heap.size W6 wr) := Lib.hid (HB610.out.trans (HBE.out.mono HB610.out.size))
            go_wp2_with fail
            go_roundw
            case rel => exact ⟨k3 + 1, v3, nms3, own3, unk3, slt3, p3, by omega, by go_num, rfl, rfl, rfl, rfl, rfl, rfl, HEND, HBF9⟩
            case measure => simp [intOf]; omega
      ·obtain rfl : i2 = ml.length := by omega
       have HEND : Hid (foldM9 FN [] CS0 (l.take (k2 + 1)) = ⟨v, funs2, nms2, own2, unk2, slt2, p2⟩) := Lib.hid (by
        rw [HSM.out]
        have h9 := HS2.out
        rw [List.take_length] at h9
        exact h9)
       have HB3E := Lib.hid (HB36.out.trans (HBF.out.mono HB36.out.size))
       go_wp2_with fail
       go_roundw
       case rel => exact ⟨k2 + 1, v, funs2, nms2, own2, unk2, slt2, p2, by omega, by go_num, rfl, rfl, rfl, rfl, rfl, rfl, rfl, HEND, HB3E⟩
       case measure => simp [intOf]; omega
  ·obtain rfl : j = l.length := by omega
   have HA := HANS.out
   have HS9 := HS.out
   rw [List.take_length] at HS9
   rw [HS9] at HA
   unfold ansC at HA
   dsimp only at HA
   have HBE := Lib.hid (HB3.out.trans (HB.out.mono HB3.out.size))
   clear HS9
   by_cases h1 : 0 ≤ mods
   ·rw [if_pos h1] at HA
    obtain ⟨h8, h9⟩ := Prod.mk.inj HA
    have HE := Lib.hid (And.intro h8 h9)
    clear HA h8 h9
    go_wp2_with fail
    go_ret2
    exact ⟨by rw [← HE.out.1, ← HE.out.2]; rfl, HBE.out⟩
   rw [if_neg h1] at HA
   by_cases h2 : 0 ≤ funs
   ·rw [if_pos h2] at HA
    obtain ⟨h8, h9⟩ := Prod.mk.inj HA
    have HE := Lib.hid (And.intro h8 h9)
    clear HA h8 h9
    go_wp2_with fail
    go_ret2
    exact ⟨by rw [← HE.out.1, ← HE.out.2]; rfl, HBE.out⟩
   rw [if_neg h2] at HA
   by_cases h3 : 0 ≤ nms
   ·rw [if_pos h3] at HA
    obtain ⟨h8, h9⟩ := Prod.mk.inj HA
    have HE := Lib.hid (And.intro h8 h9)
    clear HA h8 h9
    go_wp2_with fail
    go_ret2
    exact ⟨by rw [← HE.out.1, ← HE.out.2]; rfl, HBE.out⟩
   rw [if_neg h3] at HA
   by_cases h4 : 0 ≤ own
   ·by_cases h5 : unk < 0
    ·rw [if_pos ⟨h4, .inl h5⟩] at HA
     obtain ⟨h8, h9⟩ := Prod.mk.inj HA
     have HE := Lib.hid (And.intro h8 h9)
     clear HA h8 h9
     go_wp2_with fail
     go_ret2
     exact ⟨by rw [← HE.out.1, ← HE.out.2]; rfl, HBE.out⟩
    by_cases h6 : own < unk
    ·rw [if_pos ⟨h4, .inr h6⟩] at HA
     obtain ⟨h8, h9⟩ := Prod.mk.inj HA
     have HE := Lib.hid (And.intro h8 h9)
     clear HA h8 h9
     go_wp2_with fail
     go_ret2
     exact ⟨by rw [← HE.out.1, ← HE.out.2]; rfl, HBE.out⟩
    have h7 : 0 ≤ unk := by omega
    rw [if_neg (by rintro ⟨-, h8 | h8⟩; exact h5 h8; exact h6 h8), if_pos h7] at HA
    obtain ⟨h8, h9⟩ := Prod.mk.inj HA
    have HE := Lib.hid (And.intro h8 h9)
    clear HA h8 h9
    go_wp2_with fail
    go_ret2
    exact ⟨by rw [← HE.out.1, ← HE.out.2]; rfl, HBE.out⟩
   rw [if_neg (fun h => h4 h.1)] at HA
   by_cases h5 : 0 ≤ unk
   ·rw [if_pos h5] at HA
    obtain ⟨h8, h9⟩ := Prod.mk.inj HA
    have HE := Lib.hid (And.intro h8 h9)
    clear HA h8 h9
    go_wp2_with fail
    go_ret2
    exact ⟨by rw [← HE.out.1, ← HE.out.2]; rfl, HBE.out⟩
   rw [if_neg h5] at HA
   by_cases h6 : 0 ≤ slt
   ·rw [if_pos h6] at HA
    obtain ⟨h8, h9⟩ := Prod.mk.inj HA
    have HE := Lib.hid (And.intro h8 h9)
    clear HA h8 h9
    go_wp2_with fail
    go_ret2
    exact ⟨by rw [← HE.out.1, ← HE.out.2]; rfl, HBE.out⟩
   rw [if_neg h6] at HA
   obtain ⟨h8, h9⟩ := Prod.mk.inj HA
   have HE := Lib.hid (And.intro h8 h9)
   clear HA h8 h9
   go_wp2_with fail
   go_ret2
   exact ⟨by rw [← HE.out.1, ← HE.out.2]; rfl, HBE.out⟩
end Go.Proofs.YtmdcdhdjojimeaaGreatDoor
