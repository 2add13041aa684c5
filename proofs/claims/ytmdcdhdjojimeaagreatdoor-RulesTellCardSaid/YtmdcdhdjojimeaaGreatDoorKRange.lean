/- A range over a function whose iterator keeps a state of its own in cells: what it promises (SeqC), and the law of the statement. What the iterator may turn lies at or above the end of the heap at its call; what a round may turn lies below that end. -/
import Derived.Test.YtmdcdhdjojimeaaGreatDoorKPat9
import Derived.Test.YtmdcdhdjojimeaaGreatDoorKIMay
import Derived.RangeFuncNested
import Derived.RangeFuncLeaves
import Derived.RangeFuncCalls
section
set_option linter.unusedVariables false
set_option linter.unusedSimpArgs false
namespace Go.Proofs.YtmdcdhdjojimeaaGreatDoor
open Go.RowKit

theorem grown_refl (w : World) (r : Option Nat) : w.grownBy w r := ⟨rfl, rfl, rfl, Nat.le_refl _, fun _ _ _ => rfl⟩
theorem own_at {w : World} {base g : Nat} {e : TypeId} {n cap : Nat} {L : List ByteArray} (h : w.ownsRow base e 1 (.slice (some ⟨g, 0, none⟩) n cap) n (L.map .string)) (j : Nat) (s : ByteArray) (hj : L[j]? = some s) : w.cell? ⟨g, j, none⟩ = some (.string s) := by
 have h1 : j < n * 1 := by have := (List.getElem?_eq_some_iff.1 hj).1; have := h.1; rw [List.length_map] at this; omega
 rw [h.cellAt j h1, List.getElem?_map, hj]; rfl
theorem drop_mem {A t : List ByteArray} {i : Nat} {s : ByteArray} (hn : (A ++ t).Nodup) (hs : t[i]? = some s) (u : ByteArray) : u ∈ (A ++ t.drop i).filter (fun x => decide (x ≠ s)) ↔ u ∈ A ++ t.drop (i + 1) := by
 obtain ⟨hi, hs2⟩ := List.getElem?_eq_some_iff.1 hs
 have hd : t.drop i = s :: t.drop (i + 1) := by rw [← hs2]; exact List.drop_eq_getElem_cons hi
 rw [List.mem_filter, decide_eq_true_eq, hd, List.mem_append, List.mem_append, List.mem_cons]
 have h1 : (A ++ (s :: t.drop (i + 1))).Nodup := by
  rw [← hd]
  exact hn.sublist (List.Sublist.append (List.Sublist.refl _) (List.drop_sublist _ _))
 rw [List.nodup_append] at h1
 obtain ⟨h2, h3, h4⟩ := h1
 rw [List.nodup_cons] at h3
 constructor
 ·rintro ⟨h | rfl | h, hne⟩
  ·exact .inl h
  ·exact (hne rfl).elim
  ·exact .inr h
 ·rintro (h | h)
  ·exact ⟨.inl h, fun e => h4 u h s (by simp) e⟩
  ·exact ⟨.inr (.inr h), fun e => h3.1 (e ▸ h)⟩
theorem add1 (b p : Nat) : (⟨b, 0, none⟩ : Addr).add p = ⟨b, p, none⟩ := by unfold Addr.add; split <;> simp_all

set_option maxHeartbeats 8000000 in
set_option maxRecDepth 100000 in
theorem within1_any (X : WCtx) (st st' : Wk) (V : World) (k0 k1 p : Nat) (y : Tm) (h : WkAt X st V) (hy : X.P[p]? = some y) (hf : Fwd st st') (hm : st'.lee 100000)
  (hC : Calls Tryz.prog 74 #[.pointer (some ⟨k0, 0, none⟩), .pointer (some ⟨k1, 0, none⟩)] V (WalkTo X st' V)) :
  Calls Tryz.prog 73 #[.pointer (some ⟨X.B, 0, none⟩), .func (.func 74) #[] #[.pointer (some ⟨k0, 0, none⟩), .pointer (some ⟨k1, 0, none⟩)]] V (WalkTo X (backW st st') V) := by
 obtain ⟨hX, hn, es, es', c, c', nv, ov, fv, fs, hR⟩ := h
 obtain ⟨-, -, -, b3, -, -, -, -, -, -, -, -, -, -, -, -⟩ := hR.look hX hy
 obtain ⟨A0, c0, rfl, hc0⟩ := own_slice hR.names
 have HC := Lib.hid hC
 have HF := Lib.hid hf
 have HY := Lib.hid hy
 have HX := Lib.hid hX
 have HM := Lib.hid hm
 obtain ⟨N, hN⟩ : ∃ N : Nat, N = st.bound.length := ⟨_, rfl⟩
 rw [← hN] at b3
 have HN := Lib.hid hN
 clear hC hf hy hX hm hR hn hc0 hN
 go_enter Tryz.func73, Tryz.ntmps73
 go_wp2_with fail
 refine HC.out.mono ?_
 rintro e V1 ⟨rfl, ⟨-, hn1, es, es', c, c', nv, ov, fv, fs, hR1⟩, hK1⟩
 clear b3
 obtain ⟨-, -, -, b3, -, -, -, -, -, -, -, -, -, -, -, -⟩ := hR1.look HX.out HY.out
 obtain ⟨A1, c1, rfl, hc1⟩ := own_slice hR1.names
 obtain ⟨t, ht⟩ := HF.out
 obtain ⟨M, hM⟩ : ∃ M : Nat, M = st'.bound.length := ⟨_, rfl⟩
 have hMN : M = N + t.length := by rw [hM, ht, List.length_append, HN.out]
 have hMb : M ≤ 100000 := by rw [hM]; exact HM.out.1
 rw [← hM] at b3 hc1
 have HR1 := Lib.hid hR1
 have HK1 := Lib.hid hK1
 have HT := Lib.hid ht
 have HMM := Lib.hid hM
 have hN2 : N ≤ M := by omega
 have HMN := Lib.hid hMN
 have HND : Hid ((st.bound ++ t).Nodup) := by show _; rw [← ht]; exact hn1
 clear hR1 hK1 ht hM hMN hn1
 have fin : Hid (∀ (W : World) (es2 : Array MapEntry) (c2 : Nat), WR X st.bound st'.bound st'.all st'.all st'.fl es2 es' c2 c' (.slice A1 st'.bound.length c1) ov fv fs W → KeepT X.mb X.me V W → WalkTo X (backW st st') V (.returned (.tuple #[])) (W.setCell ⟨X.B, 3, none⟩ (.slice A1 N c1))) := fun W es2 c2 hW hk => by
  have hcut := own_cut hW.names N (by rw [HN.out]; exact HF.out.len)
  have e1 : (st'.bound.map Value.string).take N = st.bound.map Value.string := by rw [HT.out, HN.out, List.map_append]; simp
  rw [e1] at hcut
  have hN9 := HN.out
  obtain ⟨hR9, kt9⟩ := hW.setn HX.out (bound2 := st.bound) (nv' := .slice A1 N c1) (grown_refl _ _) (by rw [← hN9]; exact hcut) (.inl (by cases A1 <;> rfl))
  refine ⟨rfl, ⟨HX.out, ?_, es2, es', c2, c', .slice A1 N c1, ov, fv, fs, ?_⟩, hk.trans kt9⟩
  ·rw [HF.out.back]; exact (List.nodup_append.1 HND.out).1
  ·rw [HF.out.back]; exact hR9
 by_cases hz : M = N
 ·have ht0 : t = [] := by have := HMN.out; exact List.length_eq_zero_iff.1 (by omega)
  have HB : Hid (WR X st.bound st'.bound st'.all st'.all st'.fl es es' c c' (.slice A1 st'.bound.length c1) ov fv fs V1) := by show WR _ _ _ _ _ _ _ _ _ _ _ _ _ _ _; have h1 := HR1.out; have h2 := HT.out; rw [ht0, List.append_nil] at h2; rw [h2] at h1 ⊢; exact h1
  have f3 := free_of_row (i := 3) HB.out.box
  rcases HR1.out.names.2 with ⟨e1, e2⟩ | ⟨gb, cap, cur, e1, e2⟩
  ·simp only [Value.slice.injEq] at e1
   obtain ⟨rfl, -, rfl⟩ := e1
   subst hz
   clear e2 ht0
   have hM0 : M = 0 := by omega
   subst hM0
   have had := add1 0 0
   go_wp2_with fail
   go_loopw [21] (fun q wr => q = .int .i64 0 ∧ wr = V1) (fun q _ => 0)
   case atStart => exact ⟨rfl, rfl⟩
   case round =>
    obtain ⟨rfl, rfl⟩ := hrel
    go_wp2_with fail
    go_end0
    exact fin.out _ _ _ HB.out HK1.out
  ·simp only [Value.slice.injEq] at e1
   obtain ⟨rfl, -, rfl⟩ := e1
   subst hz
   have had := add1 gb M
   clear e2 ht0
   by_cases hcc : c1 = M
   ·subst hcc
    go_wp2_with fail
    go_loopw [21] (fun q wr => q = .int .i64 0 ∧ wr = V1) (fun q _ => 0)
    case atStart => exact ⟨rfl, rfl⟩
    case round =>
     obtain ⟨rfl, rfl⟩ := hrel
     go_wp2_with fail
     go_end0
     exact fin.out _ _ _ HB.out HK1.out
   ·go_wp2_with fail
    go_loopw [21] (fun q wr => q = .int .i64 0 ∧ wr = V1) (fun q _ => 0)
    case atStart => exact ⟨rfl, rfl⟩
    case round =>
     obtain ⟨rfl, rfl⟩ := hrel
     go_wp2_with fail
     go_end0
     exact fin.out _ _ _ HB.out HK1.out
 ·rcases HR1.out.names.2 with ⟨e1, e2⟩ | ⟨gb, cap, cur, e1, e2⟩
  ·exfalso; have := HMM.out; omega
  ·simp only [Value.slice.injEq] at e1
   obtain ⟨rfl, -, rfl⟩ := e1
   have had := add1 gb N
   have hne : ¬ c1 = N := by omega
   have HZ := Lib.hid hz
   clear e2 hz
   go_wp2_with fail
   clear b3
   go_loopw [21] (fun q wr => ∃ i : Nat, i ≤ t.length ∧ q = .int .i64 (i : Int) ∧ (∃ es2 c2, WR X (st.bound ++ t.drop i) st'.bound st'.all st'.all st'.fl es2 es' c2 c' (.slice (some ⟨gb, 0, none⟩) st'.bound.length c1) ov fv fs wr) ∧ KeepT X.mb X.me V wr) (fun q _ => t.length - (intOf q).toNat)
   case atStart => exact ⟨0, Nat.zero_le _, rfl, ⟨es, c, by rw [List.drop_zero, ← HT.out]; exact HR1.out⟩, HK1.out⟩
   case round =>
    obtain ⟨i, hi, rfl, ⟨es2, c2, hW⟩, hK⟩ := hrel
    obtain ⟨-, -, b2, b3, -, -, -, f3, -, -, -, -, -, -, -, -⟩ := hW.look HX.out HY.out
    rw [← HMM.out] at b3
    have HW := Lib.hid hW
    have HK := Lib.hid hK
    have hiM : i ≤ M - N := by have := HMN.out; omega
    by_cases hlt : i < t.length
    ·obtain ⟨s, hs⟩ : ∃ s, t[i]? = some s := ⟨t[i], List.getElem?_eq_getElem hlt⟩
     have had2 : (⟨gb, N, none⟩ : Addr).add i = ⟨gb, N + i, none⟩ := by unfold Addr.add; split <;> simp_all
     have hcs : wr.cell? ⟨gb, N + i, none⟩ = some (.string s) := own_at hW.names (N + i) s (by rw [HT.out, HN.out, List.getElem?_append_right (by omega), Nat.add_sub_cancel_left]; exact hs)
     have hl1 : i < M - N := by have := HMN.out; omega
     have hmem : s ∈ st.bound ++ t.drop i := List.mem_append.2 (.inr (by rw [List.mem_iff_getElem?]; exact ⟨0, by rw [List.getElem?_drop]; exact hs⟩))
     obtain ⟨j, e0, hj, hj2, hj3⟩ := hW.sb.hit hmem
     have hdel : ∀ ty, (Builtin.delete_ #[67, 9] ty #[.map (some X.mb), .string s]).run Tryz.prog wr = .ok (.tuple #[]) (wr.putObj X.mb (.map (es2.eraseIdxIfInBounds j) c2)) := fun ty => run_delete_hit Tryz.underlying67 Tryz.underlying9 wr X.mb _ _ s j _ hW.bm hj
     obtain ⟨hR9, kt9⟩ := hW.putb HX.out (c2 := c2) ((hW.sb.erase hj2 hj3).ext (drop_mem HND.out hs))
     have HR9 := Lib.hid hR9
     have HK9 := Lib.hid (hK.trans kt9)
     have HLT := Lib.hid hlt
     have hi3 : (i : Int) < ((M - N : Nat) : Int) := by omega
     clear hW hK hs hlt hR9 kt9 hmem hj hj2 hj3 b3 f3 hi hiM e0
     go_wp2_with fail
     go_roundw
     case rel => exact ⟨i + 1, HLT.out, by go_num, ⟨_, _, HR9.out⟩, HK9.out⟩
     case measure => simp [intOf]; have := HLT.out; omega
    ·obtain rfl : i = t.length := by omega
     have hi4 : ¬ ((t.length : Int) < ((M - N : Nat) : Int)) := by have := HMN.out; omega
     clear b2 hW hK
     go_wp2_with fail
     go_end0
     exact fin.out _ _ _ (by have := HW.out; rw [List.drop_length, List.append_nil] at this; exact this) HK.out

set_option maxHeartbeats 8000000 in
set_option maxRecDepth 100000 in
theorem within2_any (X : WCtx) (st st' : Wk) (V : World) (k0 k1 k2 p : Nat) (y : Tm) (h : WkAt X st V) (hy : X.P[p]? = some y) (hf : Fwd st st') (hm : st'.lee 100000)
  (hC : Calls Tryz.prog 76 #[.pointer (some ⟨k0, 0, none⟩), .pointer (some ⟨k1, 0, none⟩), .pointer (some ⟨k2, 0, none⟩)] V (WalkTo X st' V)) :
  Calls Tryz.prog 73 #[.pointer (some ⟨X.B, 0, none⟩), .func (.func 76) #[] #[.pointer (some ⟨k0, 0, none⟩), .pointer (some ⟨k1, 0, none⟩), .pointer (some ⟨k2, 0, none⟩)]] V (WalkTo X (backW st st') V) := by
 obtain ⟨hX, hn, es, es', c, c', nv, ov, fv, fs, hR⟩ := h
 obtain ⟨-, -, -, b3, -, -, -, -, -, -, -, -, -, -, -, -⟩ := hR.look hX hy
 obtain ⟨A0, c0, rfl, hc0⟩ := own_slice hR.names
 have HC := Lib.hid hC
 have HF := Lib.hid hf
 have HY := Lib.hid hy
 have HX := Lib.hid hX
 have HM := Lib.hid hm
 obtain ⟨N, hN⟩ : ∃ N : Nat, N = st.bound.length := ⟨_, rfl⟩
 rw [← hN] at b3
 have HN := Lib.hid hN
 clear hC hf hy hX hm hR hn hc0 hN
 go_enter Tryz.func73, Tryz.ntmps73
 go_wp2_with fail
 refine HC.out.mono ?_
 rintro e V1 ⟨rfl, ⟨-, hn1, es, es', c, c', nv, ov, fv, fs, hR1⟩, hK1⟩
 clear b3
 obtain ⟨-, -, -, b3, -, -, -, -, -, -, -, -, -, -, -, -⟩ := hR1.look HX.out HY.out
 obtain ⟨A1, c1, rfl, hc1⟩ := own_slice hR1.names
 obtain ⟨t, ht⟩ := HF.out
 obtain ⟨M, hM⟩ : ∃ M : Nat, M = st'.bound.length := ⟨_, rfl⟩
 have hMN : M = N + t.length := by rw [hM, ht, List.length_append, HN.out]
 have hMb : M ≤ 100000 := by rw [hM]; exact HM.out.1
 rw [← hM] at b3 hc1
 have HR1 := Lib.hid hR1
 have HK1 := Lib.hid hK1
 have HT := Lib.hid ht
 have HMM := Lib.hid hM
 have hN2 : N ≤ M := by omega
 have HMN := Lib.hid hMN
 have HND : Hid ((st.bound ++ t).Nodup) := by show _; rw [← ht]; exact hn1
 clear hR1 hK1 ht hM hMN hn1
 have fin : Hid (∀ (W : World) (es2 : Array MapEntry) (c2 : Nat), WR X st.bound st'.bound st'.all st'.all st'.fl es2 es' c2 c' (.slice A1 st'.bound.length c1) ov fv fs W → KeepT X.mb X.me V W → WalkTo X (backW st st') V (.returned (.tuple #[])) (W.setCell ⟨X.B, 3, none⟩ (.slice A1 N c1))) := fun W es2 c2 hW hk => by
  have hcut := own_cut hW.names N (by rw [HN.out]; exact HF.out.len)
  have e1 : (st'.bound.map Value.string).take N = st.bound.map Value.string := by rw [HT.out, HN.out, List.map_append]; simp
  rw [e1] at hcut
  have hN9 := HN.out
  obtain ⟨hR9, kt9⟩ := hW.setn HX.out (bound2 := st.bound) (nv' := .slice A1 N c1) (grown_refl _ _) (by rw [← hN9]; exact hcut) (.inl (by cases A1 <;> rfl))
  refine ⟨rfl, ⟨HX.out, ?_, es2, es', c2, c', .slice A1 N c1, ov, fv, fs, ?_⟩, hk.trans kt9⟩
  ·rw [HF.out.back]; exact (List.nodup_append.1 HND.out).1
  ·rw [HF.out.back]; exact hR9
 by_cases hz : M = N
 ·have ht0 : t = [] := by have := HMN.out; exact List.length_eq_zero_iff.1 (by omega)
  have HB : Hid (WR X st.bound st'.bound st'.all st'.all st'.fl es es' c c' (.slice A1 st'.bound.length c1) ov fv fs V1) := by show WR _ _ _ _ _ _ _ _ _ _ _ _ _ _ _; have h1 := HR1.out; have h2 := HT.out; rw [ht0, List.append_nil] at h2; rw [h2] at h1 ⊢; exact h1
  have f3 := free_of_row (i := 3) HB.out.box
  rcases HR1.out.names.2 with ⟨e1, e2⟩ | ⟨gb, cap, cur, e1, e2⟩
  ·simp only [Value.slice.injEq] at e1
   obtain ⟨rfl, -, rfl⟩ := e1
   subst hz
   clear e2 ht0
   have hM0 : M = 0 := by omega
   subst hM0
   have had := add1 0 0
   go_wp2_with fail
   go_loopw [21] (fun q wr => q = .int .i64 0 ∧ wr = V1) (fun q _ => 0)
   case atStart => exact ⟨rfl, rfl⟩
   case round =>
    obtain ⟨rfl, rfl⟩ := hrel
    go_wp2_with fail
    go_end0
    exact fin.out _ _ _ HB.out HK1.out
  ·simp only [Value.slice.injEq] at e1
   obtain ⟨rfl, -, rfl⟩ := e1
   subst hz
   have had := add1 gb M
   clear e2 ht0
   by_cases hcc : c1 = M
   ·subst hcc
    go_wp2_with fail
    go_loopw [21] (fun q wr => q = .int .i64 0 ∧ wr = V1) (fun q _ => 0)
    case atStart => exact ⟨rfl, rfl⟩
    case round =>
     obtain ⟨rfl, rfl⟩ := hrel
     go_wp2_with fail
     go_end0
     exact fin.out _ _ _ HB.out HK1.out
   ·go_wp2_with fail
    go_loopw [21] (fun q wr => q = .int .i64 0 ∧ wr = V1) (fun q _ => 0)
    case atStart => exact ⟨rfl, rfl⟩
    case round =>
     obtain ⟨rfl, rfl⟩ := hrel
     go_wp2_with fail
     go_end0
     exact fin.out _ _ _ HB.out HK1.out
 ·rcases HR1.out.names.2 with ⟨e1, e2⟩ | ⟨gb, cap, cur, e1, e2⟩
  ·exfalso; have := HMM.out; omega
  ·simp only [Value.slice.injEq] at e1
   obtain ⟨rfl, -, rfl⟩ := e1
   have had := add1 gb N
   have hne : ¬ c1 = N := by omega
   have HZ := Lib.hid hz
   clear e2 hz
   go_wp2_with fail
   clear b3
   go_loopw [21] (fun q wr => ∃ i : Nat, i ≤ t.length ∧ q = .int .i64 (i : Int) ∧ (∃ es2 c2, WR X (st.bound ++ t.drop i) st'.bound st'.all st'.all st'.fl es2 es' c2 c' (.slice (some ⟨gb, 0, none⟩) st'.bound.length c1) ov fv fs wr) ∧ KeepT X.mb X.me V wr) (fun q _ => t.length - (intOf q).toNat)
   case atStart => exact ⟨0, Nat.zero_le _, rfl, ⟨es, c, by rw [List.drop_zero, ← HT.out]; exact HR1.out⟩, HK1.out⟩
   case round =>
    obtain ⟨i, hi, rfl, ⟨es2, c2, hW⟩, hK⟩ := hrel
    obtain ⟨-, -, b2, b3, -, -, -, f3, -, -, -, -, -, -, -, -⟩ := hW.look HX.out HY.out
    rw [← HMM.out] at b3
    have HW := Lib.hid hW
    have HK := Lib.hid hK
    have hiM : i ≤ M - N := by have := HMN.out; omega
    by_cases hlt : i < t.length
    ·obtain ⟨s, hs⟩ : ∃ s, t[i]? = some s := ⟨t[i], List.getElem?_eq_getElem hlt⟩
     have had2 : (⟨gb, N, none⟩ : Addr).add i = ⟨gb, N + i, none⟩ := by unfold Addr.add; split <;> simp_all
     have hcs : wr.cell? ⟨gb, N + i, none⟩ = some (.string s) := own_at hW.names (N + i) s (by rw [HT.out, HN.out, List.getElem?_append_right (by omega), Nat.add_sub_cancel_left]; exact hs)
     have hl1 : i < M - N := by have := HMN.out; omega
     have hmem : s ∈ st.bound ++ t.drop i := List.mem_append.2 (.inr (by rw [List.mem_iff_getElem?]; exact ⟨0, by rw [List.getElem?_drop]; exact hs⟩))
     obtain ⟨j, e0, hj, hj2, hj3⟩ := hW.sb.hit hmem
     have hdel : ∀ ty, (Builtin.delete_ #[67, 9] ty #[.map (some X.mb), .string s]).run Tryz.prog wr = .ok (.tuple #[]) (wr.putObj X.mb (.map (es2.eraseIdxIfInBounds j) c2)) := fun ty => run_delete_hit Tryz.underlying67 Tryz.underlying9 wr X.mb _ _ s j _ hW.bm hj
     obtain ⟨hR9, kt9⟩ := hW.putb HX.out (c2 := c2) ((hW.sb.erase hj2 hj3).ext (drop_mem HND.out hs))
     have HR9 := Lib.hid hR9
     have HK9 := Lib.hid (hK.trans kt9)
     have HLT := Lib.hid hlt
     have hi3 : (i : Int) < ((M - N : Nat) : Int) := by omega
     clear hW hK hs hlt hR9 kt9 hmem hj hj2 hj3 b3 f3 hi hiM e0
     go_wp2_with fail
     go_roundw
     case rel => exact ⟨i + 1, HLT.out, by go_num, ⟨_, _, HR9.out⟩, HK9.out⟩
     case measure => simp [intOf]; have := HLT.out; omega
    ·obtain rfl : i = t.length := by omega
     have hi4 : ¬ ((t.length : Int) < ((M - N : Nat) : Int)) := by have := HMN.out; omega
     clear b2 hW hK
     go_wp2_with fail
     go_end0
     exact fin.out _ _ _ (by have := HW.out; rw [List.drop_length, List.append_nil] at this; exact this) HK.out

set_option maxHeartbeats 8000000 in
set_option maxRecDepth 100000 in
theorem within3_any (X : WCtx) (st st' : Wk) (V : World) (k0 k1 p : Nat) (y : Tm) (h : WkAt X st V) (hy : X.P[p]? = some y) (hf : Fwd st st') (hm : st'.lee 100000)
  (hC : Calls Tryz.prog 78 #[.pointer (some ⟨k0, 0, none⟩), .pointer (some ⟨k1, 0, none⟩)] V (WalkTo X st' V)) :
  Calls Tryz.prog 73 #[.pointer (some ⟨X.B, 0, none⟩), .func (.func 78) #[] #[.pointer (some ⟨k0, 0, none⟩), .pointer (some ⟨k1, 0, none⟩)]] V (WalkTo X (backW st st') V) := by
 obtain ⟨hX, hn, es, es', c, c', nv, ov, fv, fs, hR⟩ := h
 obtain ⟨-, -, -, b3, -, -, -, -, -, -, -, -, -, -, -, -⟩ := hR.look hX hy
 obtain ⟨A0, c0, rfl, hc0⟩ := own_slice hR.names
 have HC := Lib.hid hC
 have HF := Lib.hid hf
 have HY := Lib.hid hy
 have HX := Lib.hid hX
 have HM := Lib.hid hm
 obtain ⟨N, hN⟩ : ∃ N : Nat, N = st.bound.length := ⟨_, rfl⟩
 rw [← hN] at b3
 have HN := Lib.hid hN
 clear hC hf hy hX hm hR hn hc0 hN
 go_enter Tryz.func73, Tryz.ntmps73
 go_wp2_with fail
 refine HC.out.mono ?_
 rintro e V1 ⟨rfl, ⟨-, hn1, es, es', c, c', nv, ov, fv, fs, hR1⟩, hK1⟩
 clear b3
 obtain ⟨-, -, -, b3, -, -, -, -, -, -, -, -, -, -, -, -⟩ := hR1.look HX.out HY.out
 obtain ⟨A1, c1, rfl, hc1⟩ := own_slice hR1.names
 obtain ⟨t, ht⟩ := HF.out
 obtain ⟨M, hM⟩ : ∃ M : Nat, M = st'.bound.length := ⟨_, rfl⟩
 have hMN : M = N + t.length := by rw [hM, ht, List.length_append, HN.out]
 have hMb : M ≤ 100000 := by rw [hM]; exact HM.out.1
 rw [← hM] at b3 hc1
 have HR1 := Lib.hid hR1
 have HK1 := Lib.hid hK1
 have HT := Lib.hid ht
 have HMM := Lib.hid hM
 have hN2 : N ≤ M := by omega
 have HMN := Lib.hid hMN
 have HND : Hid ((st.bound ++ t).Nodup) := by show _; rw [← ht]; exact hn1
 clear hR1 hK1 ht hM hMN hn1
 have fin : Hid (∀ (W : World) (es2 : Array MapEntry) (c2 : Nat), WR X st.bound st'.bound st'.all st'.all st'.fl es2 es' c2 c' (.slice A1 st'.bound.length c1) ov fv fs W → KeepT X.mb X.me V W → WalkTo X (backW st st') V (.returned (.tuple #[])) (W.setCell ⟨X.B, 3, none⟩ (.slice A1 N c1))) := fun W es2 c2 hW hk => by
  have hcut := own_cut hW.names N (by rw [HN.out]; exact HF.out.len)
  have e1 : (st'.bound.map Value.string).take N = st.bound.map Value.string := by rw [HT.out, HN.out, List.map_append]; simp
  rw [e1] at hcut
  have hN9 := HN.out
  obtain ⟨hR9, kt9⟩ := hW.setn HX.out (bound2 := st.bound) (nv' := .slice A1 N c1) (grown_refl _ _) (by rw [← hN9]; exact hcut) (.inl (by cases A1 <;> rfl))
  refine ⟨rfl, ⟨HX.out, ?_, es2, es', c2, c', .slice A1 N c1, ov, fv, fs, ?_⟩, hk.trans kt9⟩
  ·rw [HF.out.back]; exact (List.nodup_append.1 HND.out).1
  ·rw [HF.out.back]; exact hR9
 by_cases hz : M = N
 ·have ht0 : t = [] := by have := HMN.out; exact List.length_eq_zero_iff.1 (by omega)
  have HB : Hid (WR X st.bound st'.bound st'.all st'.all st'.fl es es' c c' (.slice A1 st'.bound.length c1) ov fv fs V1) := by show WR _ _ _ _ _ _ _ _ _ _ _ _ _ _ _; have h1 := HR1.out; have h2 := HT.out; rw [ht0, List.append_nil] at h2; rw [h2] at h1 ⊢; exact h1
  have f3 := free_of_row (i := 3) HB.out.box
  rcases HR1.out.names.2 with ⟨e1, e2⟩ | ⟨gb, cap, cur, e1, e2⟩
  ·simp only [Value.slice.injEq] at e1
   obtain ⟨rfl, -, rfl⟩ := e1
   subst hz
   clear e2 ht0
   have hM0 : M = 0 := by omega
   subst hM0
   have had := add1 0 0
   go_wp2_with fail
   go_loopw [21] (fun q wr => q = .int .i64 0 ∧ wr = V1) (fun q _ => 0)
   case atStart => exact ⟨rfl, rfl⟩
   case round =>
    obtain ⟨rfl, rfl⟩ := hrel
    go_wp2_with fail
    go_end0
    exact fin.out _ _ _ HB.out HK1.out
  ·simp only [Value.slice.injEq] at e1
   obtain ⟨rfl, -, rfl⟩ := e1
   subst hz
   have had := add1 gb M
   clear e2 ht0
   by_cases hcc : c1 = M
   ·subst hcc
    go_wp2_with fail
    go_loopw [21] (fun q wr => q = .int .i64 0 ∧ wr = V1) (fun q _ => 0)
    case atStart => exact ⟨rfl, rfl⟩
    case round =>
     obtain ⟨rfl, rfl⟩ := hrel
     go_wp2_with fail
     go_end0
     exact fin.out _ _ _ HB.out HK1.out
   ·go_wp2_with fail
    go_loopw [21] (fun q wr => q = .int .i64 0 ∧ wr = V1) (fun q _ => 0)
    case atStart => exact ⟨rfl, rfl⟩
    case round =>
     obtain ⟨rfl, rfl⟩ := hrel
     go_wp2_with fail
     go_end0
     exact fin.out _ _ _ HB.out HK1.out
 ·rcases HR1.out.names.2 with ⟨e1, e2⟩ | ⟨gb, cap, cur, e1, e2⟩
  ·exfalso; have := HMM.out; omega
  ·simp only [Value.slice.injEq] at e1
   obtain ⟨rfl, -, rfl⟩ := e1
   have had := add1 gb N
   have hne : ¬ c1 = N := by omega
   have HZ := Lib.hid hz
   clear e2 hz
   go_wp2_with fail
   clear b3
   go_loopw [21] (fun q wr => ∃ i : Nat, i ≤ t.length ∧ q = .int .i64 (i : Int) ∧ (∃ es2 c2, WR X (st.bound ++ t.drop i) st'.bound st'.all st'.all st'.fl es2 es' c2 c' (.slice (some ⟨gb, 0, none⟩) st'.bound.length c1) ov fv fs wr) ∧ KeepT X.mb X.me V wr) (fun q _ => t.length - (intOf q).toNat)
   case atStart => exact ⟨0, Nat.zero_le _, rfl, ⟨es, c, by rw [List.drop_zero, ← HT.out]; exact HR1.out⟩, HK1.out⟩
   case round =>
    obtain ⟨i, hi, rfl, ⟨es2, c2, hW⟩, hK⟩ := hrel
    obtain ⟨-, -, b2, b3, -, -, -, f3, -, -, -, -, -, -, -, -⟩ := hW.look HX.out HY.out
    rw [← HMM.out] at b3
    have HW := Lib.hid hW
    have HK := Lib.hid hK
    have hiM : i ≤ M - N := by have := HMN.out; omega
    by_cases hlt : i < t.length
    ·obtain ⟨s, hs⟩ : ∃ s, t[i]? = some s := ⟨t[i], List.getElem?_eq_getElem hlt⟩
     have had2 : (⟨gb, N, none⟩ : Addr).add i = ⟨gb, N + i, none⟩ := by unfold Addr.add; split <;> simp_all
     have hcs : wr.cell? ⟨gb, N + i, none⟩ = some (.string s) := own_at hW.names (N + i) s (by rw [HT.out, HN.out, List.getElem?_append_right (by omega), Nat.add_sub_cancel_left]; exact hs)
     have hl1 : i < M - N := by have := HMN.out; omega
     have hmem : s ∈ st.bound ++ t.drop i := List.mem_append.2 (.inr (by rw [List.mem_iff_getElem?]; exact ⟨0, by rw [List.getElem?_drop]; exact hs⟩))
     obtain ⟨j, e0, hj, hj2, hj3⟩ := hW.sb.hit hmem
     have hdel : ∀ ty, (Builtin.delete_ #[67, 9] ty #[.map (some X.mb), .string s]).run Tryz.prog wr = .ok (.tuple #[]) (wr.putObj X.mb (.map (es2.eraseIdxIfInBounds j) c2)) := fun ty => run_delete_hit Tryz.underlying67 Tryz.underlying9 wr X.mb _ _ s j _ hW.bm hj
     obtain ⟨hR9, kt9⟩ := hW.putb HX.out (c2 := c2) ((hW.sb.erase hj2 hj3).ext (drop_mem HND.out hs))
     have HR9 := Lib.hid hR9
     have HK9 := Lib.hid (hK.trans kt9)
     have HLT := Lib.hid hlt
     have hi3 : (i : Int) < ((M - N : Nat) : Int) := by omega
     clear hW hK hs hlt hR9 kt9 hmem hj hj2 hj3 b3 f3 hi hiM e0
     go_wp2_with fail
     go_roundw
     case rel => exact ⟨i + 1, HLT.out, by go_num, ⟨_, _, HR9.out⟩, HK9.out⟩
     case measure => simp [intOf]; have := HLT.out; omega
    ·obtain rfl : i = t.length := by omega
     have hi4 : ¬ ((t.length : Int) < ((M - N : Nat) : Int)) := by have := HMN.out; omega
     clear b2 hW hK
     go_wp2_with fail
     go_end0
     exact fin.out _ _ _ (by have := HW.out; rw [List.drop_length, List.append_nil] at this; exact this) HK.out
end Go.Proofs.YtmdcdhdjojimeaaGreatDoor
end
section
set_option linter.unusedVariables false
namespace Go.Proofs.YtmdcdhdjojimeaaGreatDoor
open Go.RowKit

theorem Mod.put {F : Nat → Prop} (w : World) (l : Nat) (o : Obj) (hl : F l) : Mod F w (w.putObj l o) := Mod.putObj w l o hl
def SeqC {α : Type} (n : Nat) (P : Program) (g : Nat) (lb : Array Value) (encs : α → Array Value) (n₀ : Nat) (E : α → Prop) (S Sp : List α → Prop) (N : Nat) (w : World) : Prop :=
 ∀ (l : Nat) (J Jx : List α → World → Prop) (W : World), Below w.heap.size w W →
  (∀ s A B, J s A → Mod (fun k => W.heap.size ≤ k) A B → J s B) → (∀ s A B, Jx s A → Mod (fun k => W.heap.size ≤ k) A B → Jx s B) →
  (∀ pre x W1, J pre W1 → E x → pre.length < N → YieldAt Fence.wide (n - 1) P l (encs x) W1 fun e W' =>
   (e = .returned (.bool true) ∧ J (pre ++ [x]) W' ∧ Mod (fun k => n₀ ≤ k ∧ k < W.heap.size) W1 W') ∨ (e = .returned (.bool false) ∧ Jx (pre ++ [x]) W')) →
  J [] W →
  CallsIn Fence.wide n P g (#[.func (.yield l) #[] #[]] ++ lb) W fun e W' => (∃ v, e = .returned v) ∧ ((∃ xs, S xs ∧ J xs W') ∨ (∃ pre, Sp pre ∧ Jx pre W'))

def roundEnd {α : Type} (n₀ B : Nat) (I : List α → World → Prop) (Ix : Code → List α → World → Prop) (xs : List α) (W : World) : Exit → Act → World → Prop
 | .normal, _, W' => Mod (fun k => n₀ ≤ k ∧ k < B) W W' ∧ I xs W'
 | .ret, _, W' => Mod (fun k => n₀ ≤ k ∧ k < B) W W' ∧ Ix .ret xs W'
 | .exit id, _, W' => Mod (fun k => n₀ ≤ k ∧ k < B) W W' ∧ Ix (.exit id) xs W'
 | .goto t, _, W' => Mod (fun k => n₀ ≤ k ∧ k < B) W W' ∧ Ix (.goto t) xs W'
 | .panic _, _, _ => False
 | .outgrown, _, _ => False

theorem range_cells {α : Type} {n : Nat} {P : Program} {w : World} {g : Operand} {ps : Array Tmp} {assign body : Code} {Q : Exit → Act → World → Prop} {a : Act}
  {gf : Nat} {lb : Array Value} (hg : a.eval g = .func (.func gf) #[] lb) (eg : ∀ args w, (callFunc gf args).run P w = .ok (.enter gf args) w)
  {encs : α → Array Value} (hps : ∀ x, (encs x).size = ps.size) {n₀ : Nat} {E : α → Prop} {S Sp : List α → Prop} {N : Nat} (hseq : SeqC (n - 1) P gf lb encs n₀ E S Sp N w) (hn₀ : n₀ ≤ w.heap.size)
  (I : List α → World → Prop) (Ix : Code → List α → World → Prop) (hI : ∀ s X Y, Below w.heap.size X Y → I s X → I s Y) (hIx : ∀ c s X Y, Below w.heap.size X Y → Ix c s X → Ix c s Y) (h0 : I [] w)
  (Ax : α → Act → World → Prop) (hAx : ∀ x a' X Y, Mod (fun k => k = w.heap.size + 1) X Y → Ax x a' X → Ax x a' Y)
  (hassign : ∀ (l : Nat) (pre : List α) (x : α) (W : World) (K : Act → World → Prop), I pre W → E x → w.heap.size + 2 ≤ W.heap.size → (∀ a' W', Below W.heap.size W W' → Ax x a' W' → K a' W') →
   assign.wpIn (Fence.wide.inRound l) (n - 1 - 1) P (Exit.then K (fun _ _ _ => False)) { tmps := (ps.zip (encs x)).foldl (fun t (p, v) => t.setIfInBounds p v) a.tmps, defers := [] } W)
  (hbody : ∀ (l : Nat) (pre : List α) (x : α) (a' : Act) (W : World), I pre W → E x → Ax x a' W → pre.length < N → w.heap.size + 2 ≤ W.heap.size → body.wpIn (Fence.wide.inRound l) (n - 1 - 1) P (roundEnd n₀ w.heap.size I Ix (pre ++ [x]) W) a' W)
  (hdone : ∀ (xs : List α) (W : World), S xs → I xs W → W.heap[w.heap.size]? = some (.deferred (some [])) → Q .normal { a with defers := { target := .collected w.heap.size, args := #[] } :: a.defers } W)
  (hstop : ∀ (c : Code) (pre : List α) (W : World), Sp pre → Ix c pre W → W.heap[w.heap.size]? = some (.deferred (some [])) → c.wpIn Fence.wide n P Q { a with defers := { target := .collected w.heap.size, args := #[] } :: a.defers } W)
  (h1 : 1 ≤ n) : (Code.rangeFunc g ps assign body).wpIn Fence.wide n P Q a w := by
 obtain ⟨B, hB⟩ : ∃ B, B = w.heap.size := ⟨_, rfl⟩
 refine wpIn_rangeFunc fun fn hfn => ?_
 -- the record, in each of its states
 let rec_ (st : LoopState) (pe : Option Code) : Loop := { state := st, pending := pe, fn, tmps := a.tmps, params := ps, assign, body, defers := w.heap.size }
 obtain ⟨W1, hW1⟩ : ∃ W1, W1 = (w.alloc (.deferred (some []))).alloc (.loop (rec_ .ready none)) := ⟨_, rfl⟩
 have hsz : W1.heap.size = B + 2 := by rw [hW1, hB]; simp
 have hrec : W1.heap[B + 1]? = some (.loop (rec_ .ready none)) := by
  have := World.alloc_heap_new (w.alloc (.deferred (some []))) (.loop (rec_ .ready none))
  rw [World.size_alloc] at this; rw [hW1, hB]; exact this
 have hdef : W1.heap[B]? = some (.deferred (some [])) := by
  rw [hW1, hB]; exact (Below.heap_alloc _ _ _ (by simp)).trans (World.alloc_heap_new w _)
 have hwW : Below w.heap.size w W1 := by rw [hW1]; exact ((Below.refl _ w).alloc (Nat.le_refl _) _).alloc (by simp) _
 -- what a step at or above B leaves of the invariant and of the two blocks
 have up : ∀ {X Y : World} {F : Nat → Prop}, Mod F X Y → (∀ k, F k → B ≤ k) → B ≤ X.heap.size → Below w.heap.size X Y := fun h hF hX => by rw [← hB]; exact h.below hX hF
 have keep : ∀ {X Y : World} {F : Nat → Prop} {k : Nat} {o : Obj}, Mod F X Y → ¬ F k → X.heap[k]? = some o → Y.heap[k]? = some o := fun h hF hk => (h.block _ (heap_lt hk) hF).trans hk
 have putB : ∀ (X : World) (o : Obj), Mod (fun k => k = B + 1) X (X.putObj (B + 1) o) := fun X o => Mod.put X _ o rfl
 have getB : ∀ (X : World) (o : Obj), B + 1 < X.heap.size → (X.putObj (B + 1) o).heap[B + 1]? = some o := fun X o h => World.putObj_heap_same h
 have in1 : ∀ k, k = B + 1 → n₀ ≤ k ∧ k < W1.heap.size := fun k e => by omega
 have in2 : ∀ k, n₀ ≤ k ∧ k < w.heap.size → n₀ ≤ k ∧ k < W1.heap.size := fun k e => by omega
 refine ⟨B + 1, [{ target := .collected w.heap.size, args := #[] }], W1, { target := .fn (.func gf) lb, args := #[.func (.yield (B + 1)) #[] #[]] }, W1, gf, #[.func (.yield (B + 1)) #[] #[]] ++ lb, W1, ?_, ?_, fun _ _ => trivial, ?_, fun _ => h1, ?_⟩
 ·rw [hB, hW1]; exact run_enterLoop_outer _ _ _ _ _
 ·simp only [resolve, hg]; simp [go_sem]
 ·simp [invoke, go_sem, eg]
 refine (hseq (B + 1) (fun pre W => I pre W ∧ W.heap[B + 1]? = some (.loop (rec_ .ready none)) ∧ W.heap[B]? = some (.deferred (some [])))
  (fun pre W => ∃ c, Ix c pre W ∧ W.heap[B + 1]? = some (.loop (rec_ .done (some c))) ∧ W.heap[B]? = some (.deferred (some []))) W1 hwW ?_ ?_ ?_ ⟨hI _ _ _ hwW h0, hrec, hdef⟩).mono ?_
 ·rintro s X Y ⟨i, r, d⟩ hm
  exact ⟨hI _ _ _ (up hm (fun k hk => by omega) (by have := heap_lt d; omega)) i, keep hm (by omega) r, keep hm (by omega) d⟩
 ·rintro s X Y ⟨c, i, r, d⟩ hm
  exact ⟨c, hIx _ _ _ _ (up hm (fun k hk => by omega) (by have := heap_lt d; omega)) i, keep hm (by omega) r, keep hm (by omega) d⟩
 ·rintro pre x W ⟨i, r, d⟩ hex hlen
  have hlt := heap_lt r
  refine ⟨fn, _, assign, body, run_yield (P := P) (args := encs x) r (hps x), roundIn_of_wpIn hfn (hassign _ pre x W _ i hex (by omega) ?_)⟩
  intro a' Wa hba hax
  have ia : I pre Wa := hI _ _ _ (hba.mono (by omega)) i
  have ra : Wa.heap[B + 1]? = some (.loop (rec_ .ready none)) := (hba.block _ hlt).trans r
  have da : Wa.heap[B]? = some (.deferred (some [])) := (hba.block _ (by omega)).trans d
  have hla := heap_lt ra
  refine ⟨_, run_beginRound ra rfl, ?_⟩
  have m1 := putB Wa (.loop { rec_ .ready none with state := .busy })
  have rb := getB Wa (.loop { rec_ .ready none with state := .busy }) hla
  have db : (Wa.putObj (B + 1) (.loop { rec_ .ready none with state := .busy })).heap[B]? = some (.deferred (some [])) := keep m1 (by omega) da
  refine wpIn_mono (hbody _ pre x a' _ (hI _ _ _ (up m1 (fun k (hk : k = B + 1) => by omega) (by omega)) ia) hex (hAx _ _ _ _ (by rw [← hB]; exact m1) hax) hlen (by rw [World.putObj_size]; omega)) ?_
  have m0 : Mod (fun k => n₀ ≤ k ∧ k < W1.heap.size) W (Wa.putObj (B + 1) (.loop { rec_ .ready none with state := .busy })) :=
   (Mod.of_below hba).trans (m1.mono (fun k _ e => in1 k e)) (fun _ _ h => h)
  have fin : ∀ (jump : Option Code) (W3 : World), Mod (fun k => n₀ ≤ k ∧ k < w.heap.size) (Wa.putObj (B + 1) (.loop { rec_ .ready none with state := .busy })) W3 →
    (Instr.endRound (B + 1) jump).run P W3 = .ok (.bool jump.isNone) (W3.putObj (B + 1) (.loop (rec_ (if jump.isNone then .ready else .done) jump))) ∧
    (W3.putObj (B + 1) (.loop (rec_ (if jump.isNone then .ready else .done) jump))).heap[B + 1]? = some (.loop (rec_ (if jump.isNone then .ready else .done) jump)) ∧
    (W3.putObj (B + 1) (.loop (rec_ (if jump.isNone then .ready else .done) jump))).heap[B]? = some (.deferred (some [])) ∧
    Below w.heap.size W3 (W3.putObj (B + 1) (.loop (rec_ (if jump.isNone then .ready else .done) jump))) ∧
    Mod (fun k => n₀ ≤ k ∧ k < W1.heap.size) W (W3.putObj (B + 1) (.loop (rec_ (if jump.isNone then .ready else .done) jump))) := fun jump W3 hm3 => by
   have r3 := keep hm3 (k := B + 1) (by omega) rb
   have d3 := keep hm3 (k := B) (by omega) db
   have hl3 := heap_lt r3
   exact ⟨run_endRound (P := P) jump r3, getB _ _ hl3, keep (putB _ _) (by omega) d3, up (putB _ _) (fun k hk => by omega) (by omega),
    m0.trans ((hm3.mono (fun k _ e => in2 k e)).trans ((putB W3 _).mono (fun k _ e => in1 k e)) (fun _ _ h => h)) (fun _ _ h => h)⟩
  rintro e a3 W3 hp
  cases e with
  | normal =>
   obtain ⟨hm3, i3⟩ := hp
   obtain ⟨hr, r4, d4, b4, m4⟩ := fin none W3 hm3
   exact ⟨_, _, hr, .inl ⟨rfl, ⟨hI _ _ _ b4 i3, r4, d4⟩, m4⟩⟩
  | ret =>
   obtain ⟨hm3, i3⟩ := hp
   obtain ⟨hr, r4, d4, b4, m4⟩ := fin (some .ret) W3 hm3
   exact ⟨_, _, hr, .inr ⟨rfl, .ret, hIx _ _ _ _ b4 i3, r4, d4⟩⟩
  | exit id =>
   obtain ⟨hm3, i3⟩ := hp
   obtain ⟨hr, r4, d4, b4, m4⟩ := fin (some (.exit id)) W3 hm3
   exact ⟨_, _, hr, .inr ⟨rfl, .exit id, hIx _ _ _ _ b4 i3, r4, d4⟩⟩
  | goto t =>
   obtain ⟨hm3, i3⟩ := hp
   obtain ⟨hr, r4, d4, b4, m4⟩ := fin (some (.goto t)) W3 hm3
   exact ⟨_, _, hr, .inr ⟨rfl, .goto t, hIx _ _ _ _ b4 i3, r4, d4⟩⟩
  | panic ch => exact hp.elim
  | outgrown => exact hp.elim
 ·rintro e W2 ⟨⟨v, rfl⟩, (⟨xs, hS, i, r, d⟩ | ⟨pre, hSp, c, i, r, d⟩)⟩
  ·have h := run_endLoop (P := P) r (by simp [rec_])
   exact ⟨none, _, h, hdone xs _ hS (hI _ _ _ (up (putB _ _) (fun k hk => by omega) (by have := heap_lt d; omega)) i) (by rw [← hB]; exact keep (putB _ _) (by omega) d)⟩
  ·have h := run_endLoop (P := P) r (by simp [rec_])
   exact ⟨some c, _, h, hstop c pre _ hSp (hIx _ _ _ _ (up (putB _ _) (fun k hk => by omega) (by have := heap_lt d; omega)) i) (by rw [← hB]; exact keep (putB _ _) (by omega) d)⟩
end Go.Proofs.YtmdcdhdjojimeaaGreatDoor
end
