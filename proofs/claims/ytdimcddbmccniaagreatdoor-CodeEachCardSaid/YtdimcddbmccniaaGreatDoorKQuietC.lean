/- A region that draws its order, all of whose operations are quiet in a class of worlds, walked once. -/
import Derived.Test.YtdimcddbmccniaaGreatDoorKCd6
import Derived.Test.YtdimcddbmccniaaGreatDoorKCd1
import Derived.BigQuiet
import Derived.Deep.QuietTactic
import Derived.Below
section
set_option linter.unusedVariables false
set_option linter.unusedSimpArgs false
namespace Go.Proofs.YtdimcddbmccniaaGreatDoor
open Go.RowKit

set_option maxHeartbeats 2000000 in
theorem inSlot1_any (s : ByteArray) (hs : s.size ≤ maxLen) (w : World) (hp : PowTab7 w) :
    Calls Tryz.prog 216 #[.string s] w fun e w' => e = .returned (.bool (!slotB s)) ∧ Below w.heap.size w w' := by
  have HC := Lib.hid (slot13_any s w hs hp)
  obtain ⟨r1, hr1⟩ : ∃ r1, r1 = (if slotB s = true then slotN s else 0) := ⟨_, rfl⟩
  obtain ⟨rb, hrb⟩ : ∃ rb, rb = slotB s := ⟨_, rfl⟩
  rw [← hr1, ← hrb] at HC
  rw [← hrb]
  clear hp hr1 hrb
  go_enter Tryz.func216, Tryz.ntmps216
  go_wp2_with fail
  refine HC.out.mono ?_
  rintro e w2 ⟨rfl, b2⟩
  go_wp2_with fail
  go_ret
  exact ⟨rfl, b2⟩
set_option maxHeartbeats 2000000 in
set_option maxRecDepth 100000 in
theorem idxS13_any (ps : List ByteArray) (A : Option Addr) (cap : Nat) (W : World) (hR : SRow W A ps) (hlen : ps.length ≤ 8200) (hsz : ∀ s ∈ ps, s.size ≤ maxLen) (hp : PowTab7 W) :
    Calls Tryz.prog 256 #[.slice A ps.length cap, .func (.func 216) #[] #[]] W
      fun e w' => (∃ r : Int, e = .returned (.int .i64 r) ∧ decide (0 ≤ r) = !ps.all slotB) ∧ Below W.heap.size W w' := by
  have HR := Lib.hid hR
  have HSZ := Lib.hid hsz
  have HPW := Lib.hid hp
  clear hR hsz hp
  go_enter Tryz.func256, Tryz.ntmps256
  go_wp2_with fail
  go_loopw [8] (fun i wr => ∃ j : Nat, j ≤ ps.length ∧ i = .int .i64 j ∧ Hid ((ps.take j).all slotB = true) ∧ Hid (Below W.heap.size W wr)) (fun i _ => ps.length - (intOf i).toNat)
  case atStart => exact ⟨0, Nat.zero_le _, rfl, Lib.hid (by simp), Lib.hid (Below.refl _ _)⟩
  case round =>
    obtain ⟨j, hj, rfl, HM, HB⟩ := hrel
    by_cases hlt : j < ps.length
    · obtain ⟨y, hy⟩ : ∃ y, ps[j]? = some y := ⟨ps[j], List.getElem?_eq_getElem hlt⟩
      obtain ⟨ad, rfl, had, hc⟩ := HR.out j y hy
      have e0 : wr.cell? (ad.add j) = some (.string y) := (HB.out.cell (by rw [add_block]; exact had)).trans hc
      have HC := Lib.hid (inSlot1_any y (HSZ.out y (List.mem_of_getElem? hy)) wr (fun h => Go.Lib.tabBelow_of_tabIs (HPW.out h) _ HB.out))
      have HY := Lib.hid hy
      clear hy had hc
      go_wp2_with fail
      refine HC.out.mono ?_
      rintro e w2 ⟨rfl, b2⟩
      have HB2 := Lib.hid (HB.out.trans (b2.mono HB.out.size))
      clear b2 e0
      cases hc : slotB y
      · go_wp2_with fail
        go_ret
        refine ⟨⟨_, rfl, ?_⟩, HB2.out⟩
        have hm : ps.all slotB = false := by
          rw [List.all_eq_false]
          exact ⟨y, List.mem_of_getElem? HY.out, by simp [hc]⟩
        rw [hm]
        simp
      · go_wp2_with fail
        go_roundw
        case rel =>
          refine ⟨j + 1, by omega, by go_num, Lib.hid ?_, HB2⟩
          rw [List.take_add_one, HY.out, List.all_append, HM.out]
          simp [hc]
        case measure => simp [intOf]; omega
    · obtain rfl : j = ps.length := by omega
      go_wp2_with fail
      go_ret
      refine ⟨⟨_, rfl, ?_⟩, HB.out⟩
      have hm := HM.out
      rw [List.take_length] at hm
      rw [hm]
      rfl
set_option maxHeartbeats 1000000 in
set_option maxRecDepth 100000 in
theorem hasS13_any (ps : List ByteArray) (A : Option Addr) (cap : Nat) (W : World) (hR : SRow W A ps) (hlen : ps.length ≤ 8200) (hsz : ∀ s ∈ ps, s.size ≤ maxLen) (hp : PowTab7 W) :
    Calls Tryz.prog 214 #[.slice A ps.length cap, .func (.func 216) #[] #[]] W
      fun e w' => e = .returned (.bool (!ps.all slotB)) ∧ Below W.heap.size W w' := by
  have HC := Lib.hid (idxS13_any ps A cap W hR hlen hsz hp)
  clear hR hsz hp
  go_enter Tryz.func214, Tryz.ntmps214
  go_wp2_with fail
  refine HC.out.mono ?_
  rintro e w2 ⟨⟨r, rfl, hr⟩, b2⟩
  have HRR := Lib.hid hr
  clear hr
  go_wp2_with fail
  go_ret
  exact ⟨ret_bool HRR.out, b2⟩
theorem foldl_addV (l : List Tm) : ∀ acc, (l.foldl addV acc).length ≤ acc.length + l.length ∧ ∀ s ∈ l.foldl addV acc, s ∈ acc ∨ ∃ y ∈ l, s = y.s := by
  induction l with
  | nil => intro acc; exact ⟨by simp, fun s h => .inl h⟩
  | cons y l ih =>
    intro acc
    rw [List.foldl_cons]
    obtain ⟨h1, h2⟩ := ih (addV acc y)
    unfold addV at h1 h2 ⊢
    by_cases hc : (y.k == 5 && !(y.s.data.toList == [95]) && !(acc.any fun b => b.data.toList == y.s.data.toList)) = true
    · rw [if_pos hc] at h1 h2 ⊢
      refine ⟨by simp at h1 ⊢; omega, fun s hs => ?_⟩
      rcases h2 s hs with h | ⟨z, hz, e⟩
      · rcases List.mem_append.1 h with h | h
        · exact .inl h
        · exact .inr ⟨y, List.mem_cons_self, by simpa using h⟩
      · exact .inr ⟨z, List.mem_cons_of_mem _ hz, e⟩
    · rw [if_neg hc] at h1 h2 ⊢
      refine ⟨by simp at h1 ⊢; omega, fun s hs => ?_⟩
      rcases h2 s hs with h | ⟨z, hz, e⟩
      · exact .inl h
      · exact .inr ⟨z, List.mem_cons_of_mem _ hz, e⟩
theorem varsL_fit {x : Tm} (h : Szd x) : (varsL x).length ≤ 8200 ∧ ∀ s ∈ varsL x, s.size ≤ maxLen := by
  unfold varsL
  by_cases hf : fitsB x = true
  · rw [if_pos hf]
    obtain ⟨h1, h2⟩ := foldl_addV x.pre []
    unfold fitsB at hf
    have h3 := (of_decide_eq_true hf).1
    unfold Tm.nodes at h3
    refine ⟨by simp at h1; omega, fun s hs => ?_⟩
    rcases h2 s hs with h | ⟨z, hz, rfl⟩
    · cases h
    · have := h z hz; unfold maxLen; omega
  · rw [if_neg hf]; exact ⟨by simp, fun s h => by cases h⟩
set_option maxHeartbeats 2000000 in
theorem inSlots_any (x : Tm) (v : Value) (w : World) (hT : TmAt (· < w.heap.size) w x v) (hn : x.nodes ≤ 8200) (hz : Szd x) (hE : Env7 w) :
    Calls Tryz.prog 153 #[v] w fun e w' => e = .returned (.bool (inSlotsB x)) ∧ Below w.heap.size w w' := by
  obtain ⟨k, n, s, t9, A, m, c, rfl⟩ : ∃ k n s t A m c, v = .agg #[.int .i8 k, .int .i64 n, .string s, .string t, .slice A m c] := by cases hT; exact ⟨_, _, _, _, _, _, _, rfl⟩
  obtain ⟨w1, hw1⟩ : ∃ w1, w1 = w.alloc (.cells #[.int .i8 k, .int .i64 n, .string s, .string t9, .slice A m c] 25) := ⟨_, rfl⟩
  have hb1 : Below w.heap.size w w1 := by rw [hw1]; exact (Below.refl _ w).alloc (Nat.le_refl _) _
  have hg1 : w1.heap[w.heap.size]? = some (.cells #[.int .i8 k, .int .i64 n, .string s, .string t9, .slice A m c] 25 (0, 0)) := by rw [hw1]; exact block_alloc _ _
  have HC := Lib.hid (vars7_ok x _ w1 (hT.laterN hb1) hn hz (hE.under hb1))
  have HB1 := Lib.hid hb1
  have HE1 := Lib.hid (hE.under hb1)
  have HV := Lib.hid (varsL_fit hz)
  obtain ⟨x0, x1, x2, x3, x4⟩ := five_of hg1
  clear hb1 hg1 hT hE hz
  go_enter Tryz.func153, Tryz.ntmps153
  go_upto_region 1 with fail
  rw [← hw1]
  clear hw1
  go_wp2_with fail
  refine HC.out.mono ?_
  rintro e w2 ⟨A2, cap2, rfl, hS, b2⟩
  have HC2 := Lib.hid (hasS13_any (varsL x) A2 cap2 w2 hS HV.out.1 HV.out.2 (HE1.out.under b2).pow)
  have HB2 := Lib.hid (HB1.out.trans (b2.mono HB1.out.size))
  clear hS b2
  go_wp2_with fail
  refine HC2.out.mono ?_
  rintro e w3 ⟨rfl, b3⟩
  go_wp2_with fail
  go_ret
  refine ⟨ret_bool ?_, HB2.out.trans (b3.mono HB2.out.size)⟩
  unfold inSlotsB
  simp

set_option maxHeartbeats 4000000 in
set_option maxRecDepth 100000 in
theorem takes_any (x : Tm) (v : Value) (w : World) (hT : TmAt (· < w.heap.size) w x v) (hn : x.nodes ≤ 8200) (hE : Env7 w) :
    Calls Tryz.prog 157 #[v] w fun e w' => e = .returned (.bool (takesB x)) ∧ Below w.heap.size w w' := by
  obtain ⟨k, n, s, t, l⟩ := x
  obtain ⟨A, cap, rfl, hR, -⟩ := hT.parts
  obtain ⟨X, hX⟩ : ∃ X, X = Tm.mk k n s t l := ⟨_, rfl⟩
  have hXl : X.l = l := by rw [hX]; rfl
  rw [← hX] at hT hn ⊢
  obtain ⟨R, hRR⟩ : ∃ R, R = takesB X := ⟨_, rfl⟩
  rw [← hRR]
  have HR : Hid (R = (clauseR X 1 && (l.length == 3 && ((match l[2]? with | some y => y.k == 8 | none => false) && inSlotsB X)))) := Lib.hid (by rw [hRR]; unfold takesB; rw [hXl]; rfl)
  clear hRR hX hXl
  obtain ⟨w1, hw1⟩ : ∃ w1, w1 = w.alloc (.cells #[.int .i8 k, .int .i64 n, .string s, .string t, .slice A l.length cap] 25) := ⟨_, rfl⟩
  have hb1 : Below w.heap.size w w1 := by rw [hw1]; exact (Below.refl _ w).alloc (Nat.le_refl _) _
  have hg1 : w1.heap[w.heap.size]? = some (.cells #[.int .i8 k, .int .i64 n, .string s, .string t, .slice A l.length cap] 25 (0, 0)) := by rw [hw1]; exact block_alloc _ _
  have HC := Lib.hid (clause7_ok X 1 _ w1 (hT.laterN hb1) hn (hE.under hb1))
  have HB1 := Lib.hid hb1
  have HE1 := Lib.hid (hE.under hb1)
  have HT1 := Lib.hid (hT.laterN hb1)
  have HR1 := Lib.hid (hR.keep (Q := (· < w1.heap.size)) (w' := w1) (fun b hb => hb1.block b hb) (fun b hb => Nat.lt_of_lt_of_le hb hb1.size))
  have HG1 := Lib.hid hg1
  obtain ⟨x0, x1, x2, x3, x4⟩ := five_of hg1
  clear hb1 hg1 hT hE hR
  go_enter Tryz.func157, Tryz.ntmps157
  go_upto_region 1 with fail
  rw [← hw1]
  clear hw1
  go_wp2_with fail
  refine HC.out.mono ?_
  rintro e w2 ⟨rfl, b2⟩
  have HB2 := Lib.hid (HB1.out.trans (b2.mono HB1.out.size))
  have HT2 := Lib.hid (HT1.out.laterN b2)
  have HE2 := Lib.hid (HE1.out.under b2)
  have HR2 := Lib.hid (HR1.out.keep (Q := (· < w2.heap.size)) (w' := w2) (fun b hb => b2.block b hb) (fun b hb => Nat.lt_of_lt_of_le hb b2.size))
  obtain ⟨z0, z1, z2, z3, z4⟩ := five_of ((b2.block _ (heap_lt HG1.out)).trans HG1.out)
  clear b2 x0 x1 x2 x3 x4 HB1 HT1 HE1 HR1
  cases h0 : clauseR X 1
  case false =>
    have HF : Hid (R = false) := Lib.hid (by rw [HR.out, h0]; rfl)
    go_wp2_with fail
    go_ret
    exact ⟨ret_bool HF.out.symm, HB2.out⟩
  have HSZ := Lib.hid (clause_szd h0)
  by_cases h3 : l.length = 3
  case neg =>
    have h3b : ((l.length : Int) == 3) = false := by rw [beq_eq_false_iff_ne]; omega
    have HF : Hid (R = false) := Lib.hid (by rw [HR.out, h0, show (l.length == 3) = false from by rw [beq_eq_false_iff_ne]; exact h3]; rfl)
    clear h3
    go_wp2_with fail
    go_ret
    exact ⟨ret_bool HF.out.symm, HB2.out⟩
  obtain ⟨y, hy⟩ : ∃ y, l[2]? = some y := ⟨l[2], List.getElem?_eq_getElem (by omega)⟩
  obtain ⟨ad, u, hA, had, hE, hTy⟩ := HR2.out.at_ 2 y hy
  subst hA
  obtain ⟨yk, yn, ys, yt, yl⟩ := y
  obtain ⟨A', m', rfl, -⟩ := hTy.parts
  obtain ⟨c0, c1, c2, c3, c4, hcc, e0, -, -, -, -⟩ := hE
  simp only [Value.agg.injEq, Array.mk.injEq, List.cons.injEq, and_true] at hcc
  obtain ⟨rfl, rfl, rfl, rfl, rfl⟩ := hcc
  have e0b : w2.cell? ⟨ad.block, ad.off + 10, none⟩ = some (.int .i8 yk) := e0
  have HR3 : Hid (R = ((yk == 8) && inSlotsB X)) := Lib.hid (by rw [HR.out, h0, hy, h3]; rfl)
  have HCC := Lib.hid (inSlots_any X _ w2 HT2.out hn HSZ.out HE2.out)
  have h3b : ((l.length : Int) == 3) = true := by rw [h3]; rfl
  rw [h3] at z4 HCC ⊢
  clear hy hTy h3 had HR h3b
  cases h8 : (yk == 8)
  case false =>
    have HF : Hid (R = false) := Lib.hid (by rw [HR3.out, h8]; rfl)
    go_wp2_with fail
    go_ret
    exact ⟨ret_bool HF.out.symm, HB2.out⟩
  have HF : Hid (R = inSlotsB X) := Lib.hid (by rw [HR3.out, h8]; rfl)
  go_wp2_with fail
  refine HCC.out.mono ?_
  rintro e w3 ⟨rfl, b3⟩
  go_wp2_with fail
  go_ret
  exact ⟨ret_bool HF.out.symm, HB2.out.trans (b3.mono HB2.out.size)⟩
end Go.Proofs.YtdimcddbmccniaaGreatDoor
end
section
set_option linter.unusedVariables false
namespace Go
open Go.RowKit
section
variable {P : Program} {C : World → Prop}
theorem wp_region_qC {id : Nat} {Q : Exit → Act → World → Prop} {a : Act} {w : World} {l : List Oper} (hm : P.follows .mixedOrders = true) (hB : Region.lexB .any l.toArray = true) (hC : C w.drew)
    (h : wpQuiet P l.toArray C (fun a' => ∀ w', C w' → Q .normal a' w') l a) : (Code.region id l.toArray true).wp P Q a w :=
  wp_region_quiet (C := C) hm hB hC (by simpa using h)
theorem wpqC {ops : Array Oper} {Q : Act → Prop} {a : Act} {o : Oper} {rest : List Oper} {v : Value} (hw : Region.wanted o (yielded ops a.tmps) = true) (h : ∀ V, C V → o.quietAt P a C V v) (hr : wpQuiet P ops C Q rest (a.put o.dst v)) : wpQuiet P ops C Q (o :: rest) a :=
  wpQuiet_step fun K hK => by rw [if_pos hw]; exact ⟨v, h, hK _ hr⟩
theorem wpqC_skip {ops : Array Oper} {Q : Act → Prop} {a : Act} {o : Oper} {rest : List Oper} (hw : Region.wanted o (yielded ops a.tmps) = false) (h : wpQuiet P ops C Q rest (a.put o.dst undef)) : wpQuiet P ops C Q (o :: rest) a :=
  wpQuiet_step fun K hK => by rw [if_neg (by rw [hw]; exact Bool.false_ne_true)]; exact hK _ h
end
theorem drewC (w : World) : Below w.heap.size w w.drew := ⟨rfl, rfl, rfl, Nat.le_refl _, fun _ _ => rfl⟩
end Go
end
