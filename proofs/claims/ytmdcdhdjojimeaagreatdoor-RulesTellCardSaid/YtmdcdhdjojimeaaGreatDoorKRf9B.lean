/- Layer 9: the document's own least and calls (written by gen_rf9b.py). -/
import Derived.Test.YtmdcdhdjojimeaaGreatDoorKRf9A
import Derived.Test.YtmdcdhdjojimeaaGreatDoorKWr6
import Derived.Test.YtmdcdhdjojimeaaGreatDoorKBuiltR9
set_option linter.unusedVariables false
set_option linter.unusedSimpArgs false
namespace Go.Proofs.YtmdcdhdjojimeaaGreatDoor
open Go.RowKit

def leastI (a b : Int) : Int := if a < 0 ∨ (0 ≤ b ∧ b < a) then b else a
theorem rleast9_any (a b : Int) (w : World) : Calls Tryz.prog 24 #[.int .i64 a, .int .i64 b] w fun e w' => e = .returned (.int .i64 (leastI a b)) ∧ w' = w := by
 by_cases ha : a < 0
 ·have hl : leastI a b = b := if_pos (.inl ha)
  rw [hl]
  clear hl
  go_enter Tryz.func24, Tryz.ntmps24
  go_wp2_with fail
  go_ret
  exact ⟨ret_int rfl, rfl⟩
 by_cases hb : 0 ≤ b
 ·by_cases hba : b < a
  ·have hl : leastI a b = b := if_pos (.inr ⟨hb, hba⟩)
   rw [hl]
   clear hl
   go_enter Tryz.func24, Tryz.ntmps24
   go_wp2_with fail
   go_ret
   exact ⟨ret_int rfl, rfl⟩
  ·have hl : leastI a b = a := if_neg (by rintro (h | h); exact ha h; exact hba h.2)
   rw [hl]
   clear hl
   go_enter Tryz.func24, Tryz.ntmps24
   go_wp2_with fail
   go_ret
   exact ⟨ret_int rfl, rfl⟩
 ·have hl : leastI a b = a := if_neg (by rintro (h | h); exact ha h; exact hb h.1)
  rw [hl]
  clear hl
  go_enter Tryz.func24, Tryz.ntmps24
  go_wp2_with fail
  go_ret
  exact ⟨ret_int rfl, rfl⟩
def oI : Option Nat → Int
 | some q => (q : Int)
 | none => -1
def badW (F : List Fn9) (m : ByteArray) (p : Nat) : List Tm → Option Nat
 | [] => none
 | y :: l => if thereE F m y = 92 then some p else badW F m (p + 1) l
theorem badW_append (F : List Fn9) (m : ByteArray) : ∀ (a b : List Tm) (p : Nat), badW F m p (a ++ b) = (badW F m p a).or (badW F m (p + a.length) b)
 | [], b, p => by simp [badW]
 | y :: a, b, p => by
  simp only [List.cons_append, badW]
  by_cases h : thereE F m y = 92
  ·simp [h]
  ·simp [h, badW_append F m a b, Nat.add_comm, Nat.add_left_comm]
theorem findT_mem (key : Fn9) : ∀ (L : List (Fn9 × Tm)), (findT key L).isSome = decide (key ∈ L.map (·.1))
 | [] => by simp [findT]
 | x :: L => by
  rw [findT]
  by_cases h : x.1 = key
  ·simp [h]
  ·rw [if_neg h, findT_mem key L]
   simp [Ne.symm h]
theorem find_in (key : Fn9) (l : List Tm) : (findT key (fnsT l)).isSome = decide (key ∈ fnsW l) := by rw [findT_mem, fnsT_W]

attribute [local irreducible] Go.wpQuiet
set_option maxHeartbeats 32000000 in
set_option maxRecDepth 100000 in
theorem rcalls9_any (xk xn : Int) (xs xt : ByteArray) (xl : List Tm) (XA : Option Addr) (xc : Nat) (md : ByteArray) (y : Tm) : ∀ (v : Value) (p : Nat) (w : World), TmAt (· < w.heap.size) w (.mk xk xn xs xt xl) (.agg #[.int .i8 xk, .int .i64 xn, .string xs, .string xt, .slice XA xl.length xc]) → TmAt (· < w.heap.size) w y v → p + y.nodes ≤ 100000 →
  Calls Tryz.prog 25 #[.agg #[.int .i8 xk, .int .i64 xn, .string xs, .string xt, .slice XA xl.length xc], .string md, v, .int .i64 (p : Int)] w fun e w' => e = .returned (.int .i64 (oI (badW (fnsW xl) md p y.pre))) ∧ Below w.heap.size w w' := by
 induction y using Tm.ind with
 | h k n s t l ih =>
  intro v p w hTX hT hp
  obtain ⟨A, cap, rfl, hRow, hk, hn, hs, ht⟩ := hT.parts
  have hlen := hRow.max
  unfold maxLen at hlen
  rw [nodes_mk9] at hp
  have HRow := Lib.hid hRow
  have HTX := Lib.hid hTX
  have HIH := Lib.hid ih
  have HP : Hid (p + ((Tm.pres l).length + 1) ≤ 100000) := Lib.hid hp
  have hpp : p ≤ 100000 := by omega
  obtain ⟨q, hq⟩ : ∃ q : Nat, q = p + 1 := ⟨_, rfl⟩
  have hw1 : IntKind.i64.wrap ((p : Int) + 1) = (q : Int) := by rw [IntKind.wrap_i64]; omega
  have hw2 : (p : Int) + 1 = (q : Int) := by omega
  have hw3 : IntKind.i64.wrap (q : Int) = (q : Int) := by rw [IntKind.wrap_i64]; omega
  have HQ := Lib.hid hq
  obtain ⟨R, hRR⟩ : ∃ R, R = badW (fnsW xl) md p (Tm.mk k n s t l).pre := ⟨_, rfl⟩
  have HR := Lib.hid hRR
  rw [← hRR]
  obtain ⟨W2, hW2⟩ : ∃ W2, W2 = (w.alloc (.cells #[.int .i8 xk, .int .i64 xn, .string xs, .string xt, .slice XA xl.length xc] 25)).alloc (.cells #[.int .i8 k, .int .i64 n, .string s, .string t, .slice A l.length cap] 25) := ⟨_, rfl⟩
  obtain ⟨g0, g1, b2, z2⟩ := two9b w _ _ W2 hW2
  have HG0 := Lib.hid g0
  have HG1 := Lib.hid g1
  have HB2 := Lib.hid b2
  have HTX2 := Lib.hid (hTX.laterN b2)
  clear hRow hTX hT ih hp hq hRR b2 z2
  obtain ⟨a0, a1, a2, a3, a4⟩ := five_of g0
  obtain ⟨x0, x1, x2, x3, x4⟩ := five_of g1
  clear g0 g1
  go_enter Tryz.func25, Tryz.ntmps25
  go_upto_region 1 with fail
  rw [← hW2]
  clear hW2
  by_cases h14 : k = 14
  ·subst h14
   have HC := Lib.hid (rfind9_any (.mk xk xn xs xt xl) _ md s (l.length : Int) W2 HTX2.out)
   go_wp2_with fail
   refine HC.out.mono ?_
   rintro e W3 ⟨u, ⟨k', n', s', t', A', m', c', rfl⟩, rfl, -, b3⟩
   obtain ⟨W4, hW4⟩ : ∃ W4, W4 = W3.alloc (.cells #[.int .i8 k', .int .i64 n', .string s', .string t', .slice A' m' c'] 25) := ⟨_, rfl⟩
   have b4 : Below W3.heap.size W3 W4 := by rw [hW4]; exact (Below.refl _ _).alloc (Nat.le_refl _) _
   have b24 := b3.trans (b4.mono b3.size)
   have HBW := Lib.hid (HB2.out.trans (b24.mono HB2.out.size))
   have HA0 := Lib.hid ((b24.block _ (heap_lt HG0.out)).trans HG0.out)
   have HX0 := Lib.hid ((b24.block _ (heap_lt HG1.out)).trans HG1.out)
   have HB24 := Lib.hid b24
   clear b3 b4 b24 HC
   clear a0 a1 a2 a3 a4 x0 x1 x2 x3 x4
   have hfi : (findT (md, s, (l.length : Int)) (fnsT (Tm.mk xk xn xs xt xl).l)).isSome = decide ((md, s, (l.length : Int)) ∈ fnsW xl) := find_in _ _
   rw [hfi]
   clear hfi
   by_cases hmem : (md, s, (l.length : Int)) ∈ fnsW xl
   ·have hd : decide ((md, s, (l.length : Int)) ∈ fnsW xl) = true := decide_eq_true hmem
    rw [hd]
    have HNB : Hid (¬ thereE (fnsW xl) md (.mk 14 n s t l) = 92) := Lib.hid (by simp [thereE, Tm.k, Tm.s, Tm.t, Tm.n, Tm.l, hmem])
    clear hd hmem
    go_upto_region 12 with fail
    rw [← hW4]
    clear hW4
    have hgx := HX0.out
    have x4 : (W4).cell? ⟨w.heap.size + 1, 4, none⟩ = some (.slice A l.length cap) := cell_of_row (i := 4) hgx rfl
    clear hgx
    have HST : Hid (R = badW (fnsW xl) md q (Tm.pres l)) := Lib.hid (by rw [HR.out, Tm.pre, badW, if_neg HNB.out, ← HQ.out])
    go_upto_region 15 with fail
    clear x4 hw1 hw2 hw3 hpp
    go_wp2_with fail
    go_loopw [3, 16] (fun a i wr => ∃ j r : Nat, j ≤ l.length ∧ i = .int .i64 (j : Int) ∧ a = .int .i64 (r : Int) ∧ Hid (r = q + (Tm.pres (l.take j)).length) ∧ Hid (Below W4.heap.size W4 wr) ∧ Hid (R = badW (fnsW xl) md r (Tm.pres (l.drop j)))) (fun _ i _ => l.length - (intOf i).toNat)
    case atStart => exact ⟨0, q, Nat.zero_le _, rfl, rfl, Lib.hid (by simp [Tm.pres]), Lib.hid (Below.refl _ _), HST⟩
    case round =>
     obtain ⟨j, r, hj, rfl, rfl, hr, HB, HF⟩ := hrel
     have HBX := Lib.hid (HBW.out.trans (HB.out.mono HBW.out.size))
     have HGA := Lib.hid ((HB.out.block _ (heap_lt HA0.out)).trans HA0.out)
     have HGX := Lib.hid ((HB.out.block _ (heap_lt HX0.out)).trans HX0.out)
     have hgx := HGX.out
     have x4 : (wr).cell? ⟨w.heap.size + 1, 4, none⟩ = some (.slice A l.length cap) := cell_of_row (i := 4) hgx rfl
     clear hgx
     by_cases hlt : j < l.length
     ·obtain ⟨z, hz⟩ : ∃ z, l[j]? = some z := ⟨l[j], List.getElem?_eq_getElem hlt⟩
      obtain ⟨ad, c0, c1, c2, c3, c4, hA9, hTz, hEz⟩ := relem HRow.out HBX.out hz
      cases hA9
      have hsz := nodes_take9 hz
      have HEV : Hid (∀ V2, Below wr.heap.size wr V2 → ElemAt V2 ad j (.agg #[c0, c1, c2, c3, c4])) := Lib.hid (fun V2 hb2 => by
       obtain ⟨ad', u', hA', had', hE', hT'⟩ := HRow.out.at_ j z hz
       cases hA'
       exact hEz.keep (hb2.block _ (Nat.lt_of_lt_of_le had' HBX.out.size)))
      have hij : (j : Int) < (l.length : Int) := by omega
      have hi0 : (0 : Int) ≤ (j : Int) := by omega
      have HRB : Hid (r + z.nodes ≤ 100000) := Lib.hid (by have := HP.out; have := HQ.out; have := hr.out; omega)
      have HC : Hid (∀ V2, Below wr.heap.size wr V2 → Calls Tryz.prog 25 #[.agg #[.int .i8 xk, .int .i64 xn, .string xs, .string xt, .slice XA xl.length xc], .string md, .agg #[c0, c1, c2, c3, c4], .int .i64 (r : Int)] V2 fun e w' => e = .returned (.int .i64 (oI (badW (fnsW xl) md r z.pre))) ∧ Below V2.heap.size V2 w') := Lib.hid (fun V2 hb2 => by
       have hb3 := HBX.out.trans (hb2.mono HBX.out.size)
       exact HIH.out z (List.mem_of_getElem? hz) _ r V2 (HTX.out.keep (fun b hb => hb3.block b hb) (fun b hb => Nat.lt_of_lt_of_le hb hb3.size)) (hTz.keep (fun b hb => hb3.block b hb) (fun b hb => Nat.lt_of_lt_of_le hb hb3.size)) HRB.out)
      have HZ : Hid (∀ V2, Below wr.heap.size wr V2 → Calls Tryz.prog 27 #[.agg #[c0, c1, c2, c3, c4]] V2 fun e w' => e = .returned (.int .i64 (z.nodes : Int)) ∧ Below V2.heap.size V2 w') := Lib.hid (fun V2 hb2 => by
       have hb3 := HBX.out.trans (hb2.mono HBX.out.size)
       exact rsize9_any z _ V2 (hTz.keep (fun b hb => hb3.block b hb) (fun b hb => Nat.lt_of_lt_of_le hb hb3.size)) (by have := HRB.out; omega))
      have HFD : Hid (R = (badW (fnsW xl) md r z.pre).or (badW (fnsW xl) md (r + z.nodes) (Tm.pres (l.drop (j + 1))))) := Lib.hid (by
       rw [HF.out, List.drop_eq_getElem_cons hlt]
       have hz2 := hz
       rw [List.getElem?_eq_getElem hlt] at hz2
       rw [Option.some.inj hz2, Tm.pres, badW_append, show z.nodes = z.pre.length from rfl])
      have HRN : Hid (r + z.nodes = q + (Tm.pres (l.take (j + 1))).length) := Lib.hid (by rw [Tm.pres_take_succ hz, List.length_append, hr.out]; unfold Tm.nodes; omega)
      clear hTz hEz hsz hz HF
      obtain ⟨zn, hzn⟩ : ∃ zn, zn = z.nodes := ⟨_, rfl⟩
      rw [← hzn] at HRB HZ HFD HRN
      clear hzn
      go_upto_region 18 with fail
      clear x4
      refine wp_region_held (S := fun V => Below wr.heap.size wr V) (by kernel_rfl) ?_
      show wpAnyH _ _ _ _ _ _ _ _ wr.drew
      have hS0 : Below wr.heap.size wr wr.drew := ⟨rfl, rfl, rfl, Nat.le_refl _, fun _ _ => rfl⟩
      generalize wr.drew = D at hS0 ⊢
      refine wpAnyH_take (i := 0) (oi := ⟨some 86, _, _, _, _, _⟩) (v := ?_) rfl (by kernel_rfl) (by kernel_rfl) (by kernel_rfl) (fun _ _ _ h => h) (Or.inl ⟨by kernel_rfl, ?_⟩) (by assumption) ?_; rotate_left; (intro V hV; (try dsimp only at hV); have a0 := cell_of_row (i := 0) ((hV.block _ (heap_lt HGA.out)).trans HGA.out) rfl; have a1 := cell_of_row (i := 1) ((hV.block _ (heap_lt HGA.out)).trans HGA.out) rfl; have a2 := cell_of_row (i := 2) ((hV.block _ (heap_lt HGA.out)).trans HGA.out) rfl; have a3 := cell_of_row (i := 3) ((hV.block _ (heap_lt HGA.out)).trans HGA.out) rfl; have a4 := cell_of_row (i := 4) ((hV.block _ (heap_lt HGA.out)).trans HGA.out) rfl; go_simp; first | done | with_reducible rfl); (try simp only [Act.put, sI, sZ, sS])
      refine tkq 1 ?_; (try simp only [Act.put, sI, sZ, sS])
      refine tkq 2 ?_; (try simp only [Act.put, sI, sZ, sS])
      refine wpAnyH_take (i := 3) (oi := ⟨some 89, _, _, _, _, _⟩) (v := ?_) rfl (by kernel_rfl) (by kernel_rfl) (by kernel_rfl) (fun _ _ _ h => h) (Or.inl ⟨by kernel_rfl, ?_⟩) (by assumption) ?_; rotate_left; (intro V hV; (try dsimp only at hV); have x4 := cell_of_row (i := 4) ((hV.block _ (heap_lt HGX.out)).trans HGX.out) rfl; go_simp; first | done | with_reducible rfl); (try simp only [Act.put, sI, sZ, sS])
      refine tkq 4 ?_; (try simp only [Act.put, sI, sZ, sS])
      refine tkq 5 ?_; (try simp only [Act.put, sI, sZ, sS])
      refine wpAnyH_take (i := 6) (oi := ⟨some 92, _, _, _, _, _⟩) (v := ?_) rfl (by kernel_rfl) (by kernel_rfl) (by kernel_rfl) (fun _ _ _ h => h) (Or.inl ⟨by kernel_rfl, ?_⟩) (by assumption) ?_; rotate_left; (intro V hV; (try dsimp only at hV); obtain ⟨q0, q1, q2, q3, q4, hq, e0, e1, e2, e3, e4⟩ := HEV.out V hV; cases hq; go_simp; first | done | with_reducible rfl); (try simp only [Act.put, sI, sZ, sS])
      refine tkq 7 ?_; (try simp only [Act.put, sI, sZ, sS])
      refine wpAnyH_ready (rs := [8]) (by kernel_rfl) (by simp) ?_
      refine AllReadyH.cons (o := ⟨some 94, _, _, _, _, _⟩) rfl (fun K hK => ?_) AllReadyH.nil
      rw [if_pos (by rfl)]
      go_simp
      refine (HC.out D hS0).mono ?_
      rintro e Y ⟨rfl, bY⟩
      have hSY := hS0.trans (bY.mono hS0.size)
      clear bY
      refine hK.out _ _ hSY (fun hSn => ?_)
      clear hK K hSn; (try simp only [Act.put, sI, sZ, sS])
      clear hS0
      refine tkq 9 ?_; (try simp only [Act.put, sI, sZ, sS])
      refine wpAnyH_done (by kernel_rfl) ?_ _
      have HBY := Lib.hid hSY
      clear hSY HC
      cases hb : badW (fnsW xl) md r z.pre with
      | some p9 =>
       have HRS : Hid (R = some p9) := Lib.hid (by rw [HFD.out, hb]; rfl)
       have hoi : oI (some p9) = (p9 : Int) := rfl
       rw [hoi]
       have hp9 : (0 : Int) ≤ (p9 : Int) := by omega
       clear hb hoi
       go_wp2_with fail
       go_ret
       exact ⟨ret_int (by rw [HRS.out]; rfl), HBX.out.trans (HBY.out.mono HBX.out.size)⟩
      | none =>
       have HRS : Hid (R = badW (fnsW xl) md (r + zn) (Tm.pres (l.drop (j + 1)))) := Lib.hid (by rw [HFD.out, hb]; rfl)
       have hoi : oI none = -1 := rfl
       rw [hoi]
       clear hb hoi
       have hgx := (HBY.out.block _ (heap_lt HGX.out)).trans HGX.out
       have x4 : (Y).cell? ⟨w.heap.size + 1, 4, none⟩ = some (.slice (some ad) l.length cap) := cell_of_row (i := 4) hgx rfl
       obtain ⟨q0, q1, q2, q3, q4, hq, e0, e1, e2, e3, e4⟩ := HEV.out Y HBY.out
       cases hq
       have HZ2 := Lib.hid (HZ.out Y HBY.out)
       have hrz : r + zn ≤ 100000 := HRB.out
       clear hgx HZ
       go_wp2_with fail
       refine HZ2.out.mono ?_
       rintro e Y2 ⟨rfl, b2⟩
       have HBY2 := Lib.hid (HB.out.trans ((HBY.out.trans (b2.mono HBY.out.size)).mono HB.out.size))
       clear b2 HZ2 e0 e1 e2 e3 e4 x4
       go_wp2_with fail
       go_roundw
       case rel => exact ⟨j + 1, r + zn, by omega, by go_num, by go_num, HRN, HBY2, HRS⟩
       case measure => simp [intOf]; omega
     ·obtain rfl : j = l.length := by omega
      have HRS : Hid (R = none) := Lib.hid (by rw [HF.out, List.drop_length]; rfl)
      go_wp2_with fail
      go_ret
      exact ⟨ret_int (by rw [HRS.out]; rfl), HBX.out⟩
   ·have hd : decide ((md, s, (l.length : Int)) ∈ fnsW xl) = false := decide_eq_false hmem
    rw [hd]
    clear hd
    cases hbt : builtB s (l.length : Int) with
    | true =>
     have HNB : Hid (¬ thereE (fnsW xl) md (.mk 14 n s t l) = 92) := Lib.hid (by simp [thereE, Tm.k, Tm.s, Tm.l, hbt])
     have HC2 := Lib.hid (rbuilt_any s (l.length : Int) W4)
     rw [hbt] at HC2
     have hgx := HX0.out
     have x2 : (W4).cell? ⟨w.heap.size + 1, 2, none⟩ = some (.string s) := cell_of_row (i := 2) hgx rfl
     have x4 : (W4).cell? ⟨w.heap.size + 1, 4, none⟩ = some (.slice A l.length cap) := cell_of_row (i := 4) hgx rfl
     clear hmem hbt hgx
     go_upto_region 5 with fail
     rw [← hW4]
     clear hW4
     go_wp2_with fail
     refine HC2.out.mono ?_
     rintro e W5 ⟨rfl, rfl⟩
     clear x2 x4 HC2
     go_upto_region 12 with fail
     have hgx := HX0.out
     have x4 : (W5).cell? ⟨w.heap.size + 1, 4, none⟩ = some (.slice A l.length cap) := cell_of_row (i := 4) hgx rfl
     clear hgx
     have HST : Hid (R = badW (fnsW xl) md q (Tm.pres l)) := Lib.hid (by rw [HR.out, Tm.pre, badW, if_neg HNB.out, ← HQ.out])
     go_upto_region 15 with fail
     clear x4 hw1 hw2 hw3 hpp
     go_wp2_with fail
     go_loopw [3, 16] (fun a i wr => ∃ j r : Nat, j ≤ l.length ∧ i = .int .i64 (j : Int) ∧ a = .int .i64 (r : Int) ∧ Hid (r = q + (Tm.pres (l.take j)).length) ∧ Hid (Below W5.heap.size W5 wr) ∧ Hid (R = badW (fnsW xl) md r (Tm.pres (l.drop j)))) (fun _ i _ => l.length - (intOf i).toNat)
     case atStart => exact ⟨0, q, Nat.zero_le _, rfl, rfl, Lib.hid (by simp [Tm.pres]), Lib.hid (Below.refl _ _), HST⟩
     case round =>
      obtain ⟨j, r, hj, rfl, rfl, hr, HB, HF⟩ := hrel
      have HBX := Lib.hid (HBW.out.trans (HB.out.mono HBW.out.size))
      have HGA := Lib.hid ((HB.out.block _ (heap_lt HA0.out)).trans HA0.out)
      have HGX := Lib.hid ((HB.out.block _ (heap_lt HX0.out)).trans HX0.out)
      have hgx := HGX.out
      have x4 : (wr).cell? ⟨w.heap.size + 1, 4, none⟩ = some (.slice A l.length cap) := cell_of_row (i := 4) hgx rfl
      clear hgx
      by_cases hlt : j < l.length
      ·obtain ⟨z, hz⟩ : ∃ z, l[j]? = some z := ⟨l[j], List.getElem?_eq_getElem hlt⟩
       obtain ⟨ad, c0, c1, c2, c3, c4, hA9, hTz, hEz⟩ := relem HRow.out HBX.out hz
       cases hA9
       have hsz := nodes_take9 hz
       have HEV : Hid (∀ V2, Below wr.heap.size wr V2 → ElemAt V2 ad j (.agg #[c0, c1, c2, c3, c4])) := Lib.hid (fun V2 hb2 => by
        obtain ⟨ad', u', hA', had', hE', hT'⟩ := HRow.out.at_ j z hz
        cases hA'
        exact hEz.keep (hb2.block _ (Nat.lt_of_lt_of_le had' HBX.out.size)))
       have hij : (j : Int) < (l.length : Int) := by omega
       have hi0 : (0 : Int) ≤ (j : Int) := by omega
       have HRB : Hid (r + z.nodes ≤ 100000) := Lib.hid (by have := HP.out; have := HQ.out; have := hr.out; omega)
       have HC : Hid (∀ V2, Below wr.heap.size wr V2 → Calls Tryz.prog 25 #[.agg #[.int .i8 xk, .int .i64 xn, .string xs, .string xt, .slice XA xl.length xc], .string md, .agg #[c0, c1, c2, c3, c4], .int .i64 (r : Int)] V2 fun e w' => e = .returned (.int .i64 (oI (badW (fnsW xl) md r z.pre))) ∧ Below V2.heap.size V2 w') := Lib.hid (fun V2 hb2 => by
        have hb3 := HBX.out.trans (hb2.mono HBX.out.size)
        exact HIH.out z (List.mem_of_getElem? hz) _ r V2 (HTX.out.keep (fun b hb => hb3.block b hb) (fun b hb => Nat.lt_of_lt_of_le hb hb3.size)) (hTz.keep (fun b hb => hb3.block b hb) (fun b hb => Nat.lt_of_lt_of_le hb hb3.size)) HRB.out)
       have HZ : Hid (∀ V2, Below wr.heap.size wr V2 → Calls Tryz.prog 27 #[.agg #[c0, c1, c2, c3, c4]] V2 fun e w' => e = .returned (.int .i64 (z.nodes : Int)) ∧ Below V2.heap.size V2 w') := Lib.hid (fun V2 hb2 => by
        have hb3 := HBX.out.trans (hb2.mono HBX.out.size)
        exact rsize9_any z _ V2 (hTz.keep (fun b hb => hb3.block b hb) (fun b hb => Nat.lt_of_lt_of_le hb hb3.size)) (by have := HRB.out; omega))
       have HFD : Hid (R = (badW (fnsW xl) md r z.pre).or (badW (fnsW xl) md (r + z.nodes) (Tm.pres (l.drop (j + 1))))) := Lib.hid (by
        rw [HF.out, List.drop_eq_getElem_cons hlt]
        have hz2 := hz
        rw [List.getElem?_eq_getElem hlt] at hz2
        rw [Option.some.inj hz2, Tm.pres, badW_append, show z.nodes = z.pre.length from rfl])
       have HRN : Hid (r + z.nodes = q + (Tm.pres (l.take (j + 1))).length) := Lib.hid (by rw [Tm.pres_take_succ hz, List.length_append, hr.out]; unfold Tm.nodes; omega)
       clear hTz hEz hsz hz HF
       obtain ⟨zn, hzn⟩ : ∃ zn, zn = z.nodes := ⟨_, rfl⟩
       rw [← hzn] at HRB HZ HFD HRN
       clear hzn
       go_upto_region 18 with fail
       clear x4
       refine wp_region_held (S := fun V => Below wr.heap.size wr V) (by kernel_rfl) ?_
       show wpAnyH _ _ _ _ _ _ _ _ wr.drew
       have hS0 : Below wr.heap.size wr wr.drew := ⟨rfl, rfl, rfl, Nat.le_refl _, fun _ _ => rfl⟩
       generalize wr.drew = D at hS0 ⊢
       refine wpAnyH_take (i := 0) (oi := ⟨some 86, _, _, _, _, _⟩) (v := ?_) rfl (by kernel_rfl) (by kernel_rfl) (by kernel_rfl) (fun _ _ _ h => h) (Or.inl ⟨by kernel_rfl, ?_⟩) (by assumption) ?_; rotate_left; (intro V hV; (try dsimp only at hV); have a0 := cell_of_row (i := 0) ((hV.block _ (heap_lt HGA.out)).trans HGA.out) rfl; have a1 := cell_of_row (i := 1) ((hV.block _ (heap_lt HGA.out)).trans HGA.out) rfl; have a2 := cell_of_row (i := 2) ((hV.block _ (heap_lt HGA.out)).trans HGA.out) rfl; have a3 := cell_of_row (i := 3) ((hV.block _ (heap_lt HGA.out)).trans HGA.out) rfl; have a4 := cell_of_row (i := 4) ((hV.block _ (heap_lt HGA.out)).trans HGA.out) rfl; go_simp; first | done | with_reducible rfl); (try simp only [Act.put, sI, sZ, sS])
       refine tkq 1 ?_; (try simp only [Act.put, sI, sZ, sS])
       refine tkq 2 ?_; (try simp only [Act.put, sI, sZ, sS])
       refine wpAnyH_take (i := 3) (oi := ⟨some 89, _, _, _, _, _⟩) (v := ?_) rfl (by kernel_rfl) (by kernel_rfl) (by kernel_rfl) (fun _ _ _ h => h) (Or.inl ⟨by kernel_rfl, ?_⟩) (by assumption) ?_; rotate_left; (intro V hV; (try dsimp only at hV); have x4 := cell_of_row (i := 4) ((hV.block _ (heap_lt HGX.out)).trans HGX.out) rfl; go_simp; first | done | with_reducible rfl); (try simp only [Act.put, sI, sZ, sS])
       refine tkq 4 ?_; (try simp only [Act.put, sI, sZ, sS])
       refine tkq 5 ?_; (try simp only [Act.put, sI, sZ, sS])
       refine wpAnyH_take (i := 6) (oi := ⟨some 92, _, _, _, _, _⟩) (v := ?_) rfl (by kernel_rfl) (by kernel_rfl) (by kernel_rfl) (fun _ _ _ h => h) (Or.inl ⟨by kernel_rfl, ?_⟩) (by assumption) ?_; rotate_left; (intro V hV; (try dsimp only at hV); obtain ⟨q0, q1, q2, q3, q4, hq, e0, e1, e2, e3, e4⟩ := HEV.out V hV; cases hq; go_simp; first | done | with_reducible rfl); (try simp only [Act.put, sI, sZ, sS])
       refine tkq 7 ?_; (try simp only [Act.put, sI, sZ, sS])
       refine wpAnyH_ready (rs := [8]) (by kernel_rfl) (by simp) ?_
       refine AllReadyH.cons (o := ⟨some 94, _, _, _, _, _⟩) rfl (fun K hK => ?_) AllReadyH.nil
       rw [if_pos (by rfl)]
       go_simp
       refine (HC.out D hS0).mono ?_
       rintro e Y ⟨rfl, bY⟩
       have hSY := hS0.trans (bY.mono hS0.size)
       clear bY
       refine hK.out _ _ hSY (fun hSn => ?_)
       clear hK K hSn; (try simp only [Act.put, sI, sZ, sS])
       clear hS0
       refine tkq 9 ?_; (try simp only [Act.put, sI, sZ, sS])
       refine wpAnyH_done (by kernel_rfl) ?_ _
       have HBY := Lib.hid hSY
       clear hSY HC
       cases hb : badW (fnsW xl) md r z.pre with
       | some p9 =>
        have HRS : Hid (R = some p9) := Lib.hid (by rw [HFD.out, hb]; rfl)
        have hoi : oI (some p9) = (p9 : Int) := rfl
        rw [hoi]
        have hp9 : (0 : Int) ≤ (p9 : Int) := by omega
        clear hb hoi
        go_wp2_with fail
        go_ret
        exact ⟨ret_int (by rw [HRS.out]; rfl), HBX.out.trans (HBY.out.mono HBX.out.size)⟩
       | none =>
        have HRS : Hid (R = badW (fnsW xl) md (r + zn) (Tm.pres (l.drop (j + 1)))) := Lib.hid (by rw [HFD.out, hb]; rfl)
        have hoi : oI none = -1 := rfl
        rw [hoi]
        clear hb hoi
        have hgx := (HBY.out.block _ (heap_lt HGX.out)).trans HGX.out
        have x4 : (Y).cell? ⟨w.heap.size + 1, 4, none⟩ = some (.slice (some ad) l.length cap) := cell_of_row (i := 4) hgx rfl
        obtain ⟨q0, q1, q2, q3, q4, hq, e0, e1, e2, e3, e4⟩ := HEV.out Y HBY.out
        cases hq
        have HZ2 := Lib.hid (HZ.out Y HBY.out)
        have hrz : r + zn ≤ 100000 := HRB.out
        clear hgx HZ
        go_wp2_with fail
        refine HZ2.out.mono ?_
        rintro e Y2 ⟨rfl, b2⟩
        have HBY2 := Lib.hid (HB.out.trans ((HBY.out.trans (b2.mono HBY.out.size)).mono HB.out.size))
        clear b2 HZ2 e0 e1 e2 e3 e4 x4
        go_wp2_with fail
        go_roundw
        case rel => exact ⟨j + 1, r + zn, by omega, by go_num, by go_num, HRN, HBY2, HRS⟩
        case measure => simp [intOf]; omega
      ·obtain rfl : j = l.length := by omega
       have HRS : Hid (R = none) := Lib.hid (by rw [HF.out, List.drop_length]; rfl)
       go_wp2_with fail
       go_ret
       exact ⟨ret_int (by rw [HRS.out]; rfl), HBX.out⟩
    | false =>
     have HBAD : Hid (R = some p) := Lib.hid (by rw [HR.out, Tm.pre, badW, if_pos (by simp [thereE, Tm.k, Tm.s, Tm.l, hbt, hmem])])
     have HC2 := Lib.hid (rbuilt_any s (l.length : Int) W4)
     rw [hbt] at HC2
     have hgx := HX0.out
     have x2 : (W4).cell? ⟨w.heap.size + 1, 2, none⟩ = some (.string s) := cell_of_row (i := 2) hgx rfl
     have x4 : (W4).cell? ⟨w.heap.size + 1, 4, none⟩ = some (.slice A l.length cap) := cell_of_row (i := 4) hgx rfl
     clear hmem hbt hgx
     go_upto_region 5 with fail
     rw [← hW4]
     clear hW4
     go_wp2_with fail
     refine HC2.out.mono ?_
     rintro e W5 ⟨rfl, rfl⟩
     clear x2 x4 HC2
     go_wp2_with fail
     go_ret
     exact ⟨ret_int (by rw [HBAD.out]; rfl), HBW.out⟩
  by_cases h15 : k = 15
  ·subst h15
   have HC := Lib.hid (rfind9_any (.mk xk xn xs xt xl) _ s t (l.length : Int) W2 HTX2.out)
   go_wp2_with fail
   refine HC.out.mono ?_
   rintro e W3 ⟨u, ⟨k', n', s', t', A', m', c', rfl⟩, rfl, -, b3⟩
   obtain ⟨W4, hW4⟩ : ∃ W4, W4 = W3.alloc (.cells #[.int .i8 k', .int .i64 n', .string s', .string t', .slice A' m' c'] 25) := ⟨_, rfl⟩
   have b4 : Below W3.heap.size W3 W4 := by rw [hW4]; exact (Below.refl _ _).alloc (Nat.le_refl _) _
   have b24 := b3.trans (b4.mono b3.size)
   have HBW := Lib.hid (HB2.out.trans (b24.mono HB2.out.size))
   have HA0 := Lib.hid ((b24.block _ (heap_lt HG0.out)).trans HG0.out)
   have HX0 := Lib.hid ((b24.block _ (heap_lt HG1.out)).trans HG1.out)
   have HB24 := Lib.hid b24
   clear b3 b4 b24 HC
   clear a0 a1 a2 a3 a4 x0 x1 x2 x3 x4
   have hfi : (findT (s, t, (l.length : Int)) (fnsT (Tm.mk xk xn xs xt xl).l)).isSome = decide ((s, t, (l.length : Int)) ∈ fnsW xl) := find_in _ _
   rw [hfi]
   clear hfi
   by_cases hmem : (s, t, (l.length : Int)) ∈ fnsW xl
   ·have hd : decide ((s, t, (l.length : Int)) ∈ fnsW xl) = true := decide_eq_true hmem
    rw [hd]
    have HNB : Hid (¬ thereE (fnsW xl) md (.mk 15 n s t l) = 92) := Lib.hid (by simp [thereE, Tm.k, Tm.s, Tm.t, Tm.n, Tm.l, hmem])
    clear hd hmem
    go_upto_region 12 with fail
    rw [← hW4]
    clear hW4
    have hgx := HX0.out
    have x4 : (W4).cell? ⟨w.heap.size + 1, 4, none⟩ = some (.slice A l.length cap) := cell_of_row (i := 4) hgx rfl
    clear hgx
    have HST : Hid (R = badW (fnsW xl) md q (Tm.pres l)) := Lib.hid (by rw [HR.out, Tm.pre, badW, if_neg HNB.out, ← HQ.out])
    go_upto_region 15 with fail
    clear x4 hw1 hw2 hw3 hpp
    go_wp2_with fail
    go_loopw [3, 16] (fun a i wr => ∃ j r : Nat, j ≤ l.length ∧ i = .int .i64 (j : Int) ∧ a = .int .i64 (r : Int) ∧ Hid (r = q + (Tm.pres (l.take j)).length) ∧ Hid (Below W4.heap.size W4 wr) ∧ Hid (R = badW (fnsW xl) md r (Tm.pres (l.drop j)))) (fun _ i _ => l.length - (intOf i).toNat)
    case atStart => exact ⟨0, q, Nat.zero_le _, rfl, rfl, Lib.hid (by simp [Tm.pres]), Lib.hid (Below.refl _ _), HST⟩
    case round =>
     obtain ⟨j, r, hj, rfl, rfl, hr, HB, HF⟩ := hrel
     have HBX := Lib.hid (HBW.out.trans (HB.out.mono HBW.out.size))
     have HGA := Lib.hid ((HB.out.block _ (heap_lt HA0.out)).trans HA0.out)
     have HGX := Lib.hid ((HB.out.block _ (heap_lt HX0.out)).trans HX0.out)
     have hgx := HGX.out
     have x4 : (wr).cell? ⟨w.heap.size + 1, 4, none⟩ = some (.slice A l.length cap) := cell_of_row (i := 4) hgx rfl
     clear hgx
     by_cases hlt : j < l.length
     ·obtain ⟨z, hz⟩ : ∃ z, l[j]? = some z := ⟨l[j], List.getElem?_eq_getElem hlt⟩
      obtain ⟨ad, c0, c1, c2, c3, c4, hA9, hTz, hEz⟩ := relem HRow.out HBX.out hz
      cases hA9
      have hsz := nodes_take9 hz
      have HEV : Hid (∀ V2, Below wr.heap.size wr V2 → ElemAt V2 ad j (.agg #[c0, c1, c2, c3, c4])) := Lib.hid (fun V2 hb2 => by
       obtain ⟨ad', u', hA', had', hE', hT'⟩ := HRow.out.at_ j z hz
       cases hA'
       exact hEz.keep (hb2.block _ (Nat.lt_of_lt_of_le had' HBX.out.size)))
      have hij : (j : Int) < (l.length : Int) := by omega
      have hi0 : (0 : Int) ≤ (j : Int) := by omega
      have HRB : Hid (r + z.nodes ≤ 100000) := Lib.hid (by have := HP.out; have := HQ.out; have := hr.out; omega)
      have HC : Hid (∀ V2, Below wr.heap.size wr V2 → Calls Tryz.prog 25 #[.agg #[.int .i8 xk, .int .i64 xn, .string xs, .string xt, .slice XA xl.length xc], .string md, .agg #[c0, c1, c2, c3, c4], .int .i64 (r : Int)] V2 fun e w' => e = .returned (.int .i64 (oI (badW (fnsW xl) md r z.pre))) ∧ Below V2.heap.size V2 w') := Lib.hid (fun V2 hb2 => by
       have hb3 := HBX.out.trans (hb2.mono HBX.out.size)
       exact HIH.out z (List.mem_of_getElem? hz) _ r V2 (HTX.out.keep (fun b hb => hb3.block b hb) (fun b hb => Nat.lt_of_lt_of_le hb hb3.size)) (hTz.keep (fun b hb => hb3.block b hb) (fun b hb => Nat.lt_of_lt_of_le hb hb3.size)) HRB.out)
      have HZ : Hid (∀ V2, Below wr.heap.size wr V2 → Calls Tryz.prog 27 #[.agg #[c0, c1, c2, c3, c4]] V2 fun e w' => e = .returned (.int .i64 (z.nodes : Int)) ∧ Below V2.heap.size V2 w') := Lib.hid (fun V2 hb2 => by
       have hb3 := HBX.out.trans (hb2.mono HBX.out.size)
       exact rsize9_any z _ V2 (hTz.keep (fun b hb => hb3.block b hb) (fun b hb => Nat.lt_of_lt_of_le hb hb3.size)) (by have := HRB.out; omega))
      have HFD : Hid (R = (badW (fnsW xl) md r z.pre).or (badW (fnsW xl) md (r + z.nodes) (Tm.pres (l.drop (j + 1))))) := Lib.hid (by
       rw [HF.out, List.drop_eq_getElem_cons hlt]
       have hz2 := hz
       rw [List.getElem?_eq_getElem hlt] at hz2
       rw [Option.some.inj hz2, Tm.pres, badW_append, show z.nodes = z.pre.length from rfl])
      have HRN : Hid (r + z.nodes = q + (Tm.pres (l.take (j + 1))).length) := Lib.hid (by rw [Tm.pres_take_succ hz, List.length_append, hr.out]; unfold Tm.nodes; omega)
      clear hTz hEz hsz hz HF
      obtain ⟨zn, hzn⟩ : ∃ zn, zn = z.nodes := ⟨_, rfl⟩
      rw [← hzn] at HRB HZ HFD HRN
      clear hzn
      go_upto_region 18 with fail
      clear x4
      refine wp_region_held (S := fun V => Below wr.heap.size wr V) (by kernel_rfl) ?_
      show wpAnyH _ _ _ _ _ _ _ _ wr.drew
      have hS0 : Below wr.heap.size wr wr.drew := ⟨rfl, rfl, rfl, Nat.le_refl _, fun _ _ => rfl⟩
      generalize wr.drew = D at hS0 ⊢
      refine wpAnyH_take (i := 0) (oi := ⟨some 86, _, _, _, _, _⟩) (v := ?_) rfl (by kernel_rfl) (by kernel_rfl) (by kernel_rfl) (fun _ _ _ h => h) (Or.inl ⟨by kernel_rfl, ?_⟩) (by assumption) ?_; rotate_left; (intro V hV; (try dsimp only at hV); have a0 := cell_of_row (i := 0) ((hV.block _ (heap_lt HGA.out)).trans HGA.out) rfl; have a1 := cell_of_row (i := 1) ((hV.block _ (heap_lt HGA.out)).trans HGA.out) rfl; have a2 := cell_of_row (i := 2) ((hV.block _ (heap_lt HGA.out)).trans HGA.out) rfl; have a3 := cell_of_row (i := 3) ((hV.block _ (heap_lt HGA.out)).trans HGA.out) rfl; have a4 := cell_of_row (i := 4) ((hV.block _ (heap_lt HGA.out)).trans HGA.out) rfl; go_simp; first | done | with_reducible rfl); (try simp only [Act.put, sI, sZ, sS])
      refine tkq 1 ?_; (try simp only [Act.put, sI, sZ, sS])
      refine tkq 2 ?_; (try simp only [Act.put, sI, sZ, sS])
      refine wpAnyH_take (i := 3) (oi := ⟨some 89, _, _, _, _, _⟩) (v := ?_) rfl (by kernel_rfl) (by kernel_rfl) (by kernel_rfl) (fun _ _ _ h => h) (Or.inl ⟨by kernel_rfl, ?_⟩) (by assumption) ?_; rotate_left; (intro V hV; (try dsimp only at hV); have x4 := cell_of_row (i := 4) ((hV.block _ (heap_lt HGX.out)).trans HGX.out) rfl; go_simp; first | done | with_reducible rfl); (try simp only [Act.put, sI, sZ, sS])
      refine tkq 4 ?_; (try simp only [Act.put, sI, sZ, sS])
      refine tkq 5 ?_; (try simp only [Act.put, sI, sZ, sS])
      refine wpAnyH_take (i := 6) (oi := ⟨some 92, _, _, _, _, _⟩) (v := ?_) rfl (by kernel_rfl) (by kernel_rfl) (by kernel_rfl) (fun _ _ _ h => h) (Or.inl ⟨by kernel_rfl, ?_⟩) (by assumption) ?_; rotate_left; (intro V hV; (try dsimp only at hV); obtain ⟨q0, q1, q2, q3, q4, hq, e0, e1, e2, e3, e4⟩ := HEV.out V hV; cases hq; go_simp; first | done | with_reducible rfl); (try simp only [Act.put, sI, sZ, sS])
      refine tkq 7 ?_; (try simp only [Act.put, sI, sZ, sS])
      refine wpAnyH_ready (rs := [8]) (by kernel_rfl) (by simp) ?_
      refine AllReadyH.cons (o := ⟨some 94, _, _, _, _, _⟩) rfl (fun K hK => ?_) AllReadyH.nil
      rw [if_pos (by rfl)]
      go_simp
      refine (HC.out D hS0).mono ?_
      rintro e Y ⟨rfl, bY⟩
      have hSY := hS0.trans (bY.mono hS0.size)
      clear bY
      refine hK.out _ _ hSY (fun hSn => ?_)
      clear hK K hSn; (try simp only [Act.put, sI, sZ, sS])
      clear hS0
      refine tkq 9 ?_; (try simp only [Act.put, sI, sZ, sS])
      refine wpAnyH_done (by kernel_rfl) ?_ _
      have HBY := Lib.hid hSY
      clear hSY HC
      cases hb : badW (fnsW xl) md r z.pre with
      | some p9 =>
       have HRS : Hid (R = some p9) := Lib.hid (by rw [HFD.out, hb]; rfl)
       have hoi : oI (some p9) = (p9 : Int) := rfl
       rw [hoi]
       have hp9 : (0 : Int) ≤ (p9 : Int) := by omega
       clear hb hoi
       go_wp2_with fail
       go_ret
       exact ⟨ret_int (by rw [HRS.out]; rfl), HBX.out.trans (HBY.out.mono HBX.out.size)⟩
      | none =>
       have HRS : Hid (R = badW (fnsW xl) md (r + zn) (Tm.pres (l.drop (j + 1)))) := Lib.hid (by rw [HFD.out, hb]; rfl)
       have hoi : oI none = -1 := rfl
       rw [hoi]
       clear hb hoi
       have hgx := (HBY.out.block _ (heap_lt HGX.out)).trans HGX.out
       have x4 : (Y).cell? ⟨w.heap.size + 1, 4, none⟩ = some (.slice (some ad) l.length cap) := cell_of_row (i := 4) hgx rfl
       obtain ⟨q0, q1, q2, q3, q4, hq, e0, e1, e2, e3, e4⟩ := HEV.out Y HBY.out
       cases hq
       have HZ2 := Lib.hid (HZ.out Y HBY.out)
       have hrz : r + zn ≤ 100000 := HRB.out
       clear hgx HZ
       go_wp2_with fail
       refine HZ2.out.mono ?_
       rintro e Y2 ⟨rfl, b2⟩
       have HBY2 := Lib.hid (HB.out.trans ((HBY.out.trans (b2.mono HBY.out.size)).mono HB.out.size))
       clear b2 HZ2 e0 e1 e2 e3 e4 x4
       go_wp2_with fail
       go_roundw
       case rel => exact ⟨j + 1, r + zn, by omega, by go_num, by go_num, HRN, HBY2, HRS⟩
       case measure => simp [intOf]; omega
     ·obtain rfl : j = l.length := by omega
      have HRS : Hid (R = none) := Lib.hid (by rw [HF.out, List.drop_length]; rfl)
      go_wp2_with fail
      go_ret
      exact ⟨ret_int (by rw [HRS.out]; rfl), HBX.out⟩
   ·have hd : decide ((s, t, (l.length : Int)) ∈ fnsW xl) = false := decide_eq_false hmem
    rw [hd]
    clear hd
    have HBAD : Hid (R = some p) := Lib.hid (by rw [HR.out, Tm.pre, badW, if_pos (by simp [thereE, Tm.k, Tm.s, Tm.t, Tm.n, Tm.l, hmem])])
    clear hmem
    go_upto_region 12 with fail
    rw [← hW4]
    clear hW4
    go_wp2_with fail
    go_ret
    exact ⟨ret_int (by rw [HBAD.out]; rfl), HBW.out⟩
  by_cases h17 : k = 17
  ·subst h17
   have HC := Lib.hid (rfind9_any (.mk xk xn xs xt xl) _ s t (n : Int) W2 HTX2.out)
   go_wp2_with fail
   refine HC.out.mono ?_
   rintro e W3 ⟨u, ⟨k', n', s', t', A', m', c', rfl⟩, rfl, -, b3⟩
   obtain ⟨W4, hW4⟩ : ∃ W4, W4 = W3.alloc (.cells #[.int .i8 k', .int .i64 n', .string s', .string t', .slice A' m' c'] 25) := ⟨_, rfl⟩
   have b4 : Below W3.heap.size W3 W4 := by rw [hW4]; exact (Below.refl _ _).alloc (Nat.le_refl _) _
   have b24 := b3.trans (b4.mono b3.size)
   have HBW := Lib.hid (HB2.out.trans (b24.mono HB2.out.size))
   have HA0 := Lib.hid ((b24.block _ (heap_lt HG0.out)).trans HG0.out)
   have HX0 := Lib.hid ((b24.block _ (heap_lt HG1.out)).trans HG1.out)
   have HB24 := Lib.hid b24
   clear b3 b4 b24 HC
   clear a0 a1 a2 a3 a4 x0 x1 x2 x3 x4
   have hfi : (findT (s, t, (n : Int)) (fnsT (Tm.mk xk xn xs xt xl).l)).isSome = decide ((s, t, (n : Int)) ∈ fnsW xl) := find_in _ _
   rw [hfi]
   clear hfi
   by_cases hmem : (s, t, (n : Int)) ∈ fnsW xl
   ·have hd : decide ((s, t, (n : Int)) ∈ fnsW xl) = true := decide_eq_true hmem
    rw [hd]
    have HNB : Hid (¬ thereE (fnsW xl) md (.mk 17 n s t l) = 92) := Lib.hid (by simp [thereE, Tm.k, Tm.s, Tm.t, Tm.n, Tm.l, hmem])
    clear hd hmem
    go_upto_region 12 with fail
    rw [← hW4]
    clear hW4
    have hgx := HX0.out
    have x4 : (W4).cell? ⟨w.heap.size + 1, 4, none⟩ = some (.slice A l.length cap) := cell_of_row (i := 4) hgx rfl
    clear hgx
    have HST : Hid (R = badW (fnsW xl) md q (Tm.pres l)) := Lib.hid (by rw [HR.out, Tm.pre, badW, if_neg HNB.out, ← HQ.out])
    go_upto_region 15 with fail
    clear x4 hw1 hw2 hw3 hpp
    go_wp2_with fail
    go_loopw [3, 16] (fun a i wr => ∃ j r : Nat, j ≤ l.length ∧ i = .int .i64 (j : Int) ∧ a = .int .i64 (r : Int) ∧ Hid (r = q + (Tm.pres (l.take j)).length) ∧ Hid (Below W4.heap.size W4 wr) ∧ Hid (R = badW (fnsW xl) md r (Tm.pres (l.drop j)))) (fun _ i _ => l.length - (intOf i).toNat)
    case atStart => exact ⟨0, q, Nat.zero_le _, rfl, rfl, Lib.hid (by simp [Tm.pres]), Lib.hid (Below.refl _ _), HST⟩
    case round =>
     obtain ⟨j, r, hj, rfl, rfl, hr, HB, HF⟩ := hrel
     have HBX := Lib.hid (HBW.out.trans (HB.out.mono HBW.out.size))
     have HGA := Lib.hid ((HB.out.block _ (heap_lt HA0.out)).trans HA0.out)
     have HGX := Lib.hid ((HB.out.block _ (heap_lt HX0.out)).trans HX0.out)
     have hgx := HGX.out
     have x4 : (wr).cell? ⟨w.heap.size + 1, 4, none⟩ = some (.slice A l.length cap) := cell_of_row (i := 4) hgx rfl
     clear hgx
     by_cases hlt : j < l.length
     ·obtain ⟨z, hz⟩ : ∃ z, l[j]? = some z := ⟨l[j], List.getElem?_eq_getElem hlt⟩
      obtain ⟨ad, c0, c1, c2, c3, c4, hA9, hTz, hEz⟩ := relem HRow.out HBX.out hz
      cases hA9
      have hsz := nodes_take9 hz
      have HEV : Hid (∀ V2, Below wr.heap.size wr V2 → ElemAt V2 ad j (.agg #[c0, c1, c2, c3, c4])) := Lib.hid (fun V2 hb2 => by
       obtain ⟨ad', u', hA', had', hE', hT'⟩ := HRow.out.at_ j z hz
       cases hA'
       exact hEz.keep (hb2.block _ (Nat.lt_of_lt_of_le had' HBX.out.size)))
      have hij : (j : Int) < (l.length : Int) := by omega
      have hi0 : (0 : Int) ≤ (j : Int) := by omega
      have HRB : Hid (r + z.nodes ≤ 100000) := Lib.hid (by have := HP.out; have := HQ.out; have := hr.out; omega)
      have HC : Hid (∀ V2, Below wr.heap.size wr V2 → Calls Tryz.prog 25 #[.agg #[.int .i8 xk, .int .i64 xn, .string xs, .string xt, .slice XA xl.length xc], .string md, .agg #[c0, c1, c2, c3, c4], .int .i64 (r : Int)] V2 fun e w' => e = .returned (.int .i64 (oI (badW (fnsW xl) md r z.pre))) ∧ Below V2.heap.size V2 w') := Lib.hid (fun V2 hb2 => by
       have hb3 := HBX.out.trans (hb2.mono HBX.out.size)
       exact HIH.out z (List.mem_of_getElem? hz) _ r V2 (HTX.out.keep (fun b hb => hb3.block b hb) (fun b hb => Nat.lt_of_lt_of_le hb hb3.size)) (hTz.keep (fun b hb => hb3.block b hb) (fun b hb => Nat.lt_of_lt_of_le hb hb3.size)) HRB.out)
      have HZ : Hid (∀ V2, Below wr.heap.size wr V2 → Calls Tryz.prog 27 #[.agg #[c0, c1, c2, c3, c4]] V2 fun e w' => e = .returned (.int .i64 (z.nodes : Int)) ∧ Below V2.heap.size V2 w') := Lib.hid (fun V2 hb2 => by
       have hb3 := HBX.out.trans (hb2.mono HBX.out.size)
       exact rsize9_any z _ V2 (hTz.keep (fun b hb => hb3.block b hb) (fun b hb => Nat.lt_of_lt_of_le hb hb3.size)) (by have := HRB.out; omega))
      have HFD : Hid (R = (badW (fnsW xl) md r z.pre).or (badW (fnsW xl) md (r + z.nodes) (Tm.pres (l.drop (j + 1))))) := Lib.hid (by
       rw [HF.out, List.drop_eq_getElem_cons hlt]
       have hz2 := hz
       rw [List.getElem?_eq_getElem hlt] at hz2
       rw [Option.some.inj hz2, Tm.pres, badW_append, show z.nodes = z.pre.length from rfl])
      have HRN : Hid (r + z.nodes = q + (Tm.pres (l.take (j + 1))).length) := Lib.hid (by rw [Tm.pres_take_succ hz, List.length_append, hr.out]; unfold Tm.nodes; omega)
      clear hTz hEz hsz hz HF
      obtain ⟨zn, hzn⟩ : ∃ zn, zn = z.nodes := ⟨_, rfl⟩
      rw [← hzn] at HRB HZ HFD HRN
      clear hzn
      go_upto_region 18 with fail
      clear x4
      refine wp_region_held (S := fun V => Below wr.heap.size wr V) (by kernel_rfl) ?_
      show wpAnyH _ _ _ _ _ _ _ _ wr.drew
      have hS0 : Below wr.heap.size wr wr.drew := ⟨rfl, rfl, rfl, Nat.le_refl _, fun _ _ => rfl⟩
      generalize wr.drew = D at hS0 ⊢
      refine wpAnyH_take (i := 0) (oi := ⟨some 86, _, _, _, _, _⟩) (v := ?_) rfl (by kernel_rfl) (by kernel_rfl) (by kernel_rfl) (fun _ _ _ h => h) (Or.inl ⟨by kernel_rfl, ?_⟩) (by assumption) ?_; rotate_left; (intro V hV; (try dsimp only at hV); have a0 := cell_of_row (i := 0) ((hV.block _ (heap_lt HGA.out)).trans HGA.out) rfl; have a1 := cell_of_row (i := 1) ((hV.block _ (heap_lt HGA.out)).trans HGA.out) rfl; have a2 := cell_of_row (i := 2) ((hV.block _ (heap_lt HGA.out)).trans HGA.out) rfl; have a3 := cell_of_row (i := 3) ((hV.block _ (heap_lt HGA.out)).trans HGA.out) rfl; have a4 := cell_of_row (i := 4) ((hV.block _ (heap_lt HGA.out)).trans HGA.out) rfl; go_simp; first | done | with_reducible rfl); (try simp only [Act.put, sI, sZ, sS])
      refine tkq 1 ?_; (try simp only [Act.put, sI, sZ, sS])
      refine tkq 2 ?_; (try simp only [Act.put, sI, sZ, sS])
      refine wpAnyH_take (i := 3) (oi := ⟨some 89, _, _, _, _, _⟩) (v := ?_) rfl (by kernel_rfl) (by kernel_rfl) (by kernel_rfl) (fun _ _ _ h => h) (Or.inl ⟨by kernel_rfl, ?_⟩) (by assumption) ?_; rotate_left; (intro V hV; (try dsimp only at hV); have x4 := cell_of_row (i := 4) ((hV.block _ (heap_lt HGX.out)).trans HGX.out) rfl; go_simp; first | done | with_reducible rfl); (try simp only [Act.put, sI, sZ, sS])
      refine tkq 4 ?_; (try simp only [Act.put, sI, sZ, sS])
      refine tkq 5 ?_; (try simp only [Act.put, sI, sZ, sS])
      refine wpAnyH_take (i := 6) (oi := ⟨some 92, _, _, _, _, _⟩) (v := ?_) rfl (by kernel_rfl) (by kernel_rfl) (by kernel_rfl) (fun _ _ _ h => h) (Or.inl ⟨by kernel_rfl, ?_⟩) (by assumption) ?_; rotate_left; (intro V hV; (try dsimp only at hV); obtain ⟨q0, q1, q2, q3, q4, hq, e0, e1, e2, e3, e4⟩ := HEV.out V hV; cases hq; go_simp; first | done | with_reducible rfl); (try simp only [Act.put, sI, sZ, sS])
      refine tkq 7 ?_; (try simp only [Act.put, sI, sZ, sS])
      refine wpAnyH_ready (rs := [8]) (by kernel_rfl) (by simp) ?_
      refine AllReadyH.cons (o := ⟨some 94, _, _, _, _, _⟩) rfl (fun K hK => ?_) AllReadyH.nil
      rw [if_pos (by rfl)]
      go_simp
      refine (HC.out D hS0).mono ?_
      rintro e Y ⟨rfl, bY⟩
      have hSY := hS0.trans (bY.mono hS0.size)
      clear bY
      refine hK.out _ _ hSY (fun hSn => ?_)
      clear hK K hSn; (try simp only [Act.put, sI, sZ, sS])
      clear hS0
      refine tkq 9 ?_; (try simp only [Act.put, sI, sZ, sS])
      refine wpAnyH_done (by kernel_rfl) ?_ _
      have HBY := Lib.hid hSY
      clear hSY HC
      cases hb : badW (fnsW xl) md r z.pre with
      | some p9 =>
       have HRS : Hid (R = some p9) := Lib.hid (by rw [HFD.out, hb]; rfl)
       have hoi : oI (some p9) = (p9 : Int) := rfl
       rw [hoi]
       have hp9 : (0 : Int) ≤ (p9 : Int) := by omega
       clear hb hoi
       go_wp2_with fail
       go_ret
       exact ⟨ret_int (by rw [HRS.out]; rfl), HBX.out.trans (HBY.out.mono HBX.out.size)⟩
      | none =>
       have HRS : Hid (R = badW (fnsW xl) md (r + zn) (Tm.pres (l.drop (j + 1)))) := Lib.hid (by rw [HFD.out, hb]; rfl)
       have hoi : oI none = -1 := rfl
       rw [hoi]
       clear hb hoi
       have hgx := (HBY.out.block _ (heap_lt HGX.out)).trans HGX.out
       have x4 : (Y).cell? ⟨w.heap.size + 1, 4, none⟩ = some (.slice (some ad) l.length cap) := cell_of_row (i := 4) hgx rfl
       obtain ⟨q0, q1, q2, q3, q4, hq, e0, e1, e2, e3, e4⟩ := HEV.out Y HBY.out
       cases hq
       have HZ2 := Lib.hid (HZ.out Y HBY.out)
       have hrz : r + zn ≤ 100000 := HRB.out
       clear hgx HZ
       go_wp2_with fail
       refine HZ2.out.mono ?_
       rintro e Y2 ⟨rfl, b2⟩
       have HBY2 := Lib.hid (HB.out.trans ((HBY.out.trans (b2.mono HBY.out.size)).mono HB.out.size))
       clear b2 HZ2 e0 e1 e2 e3 e4 x4
       go_wp2_with fail
       go_roundw
       case rel => exact ⟨j + 1, r + zn, by omega, by go_num, by go_num, HRN, HBY2, HRS⟩
       case measure => simp [intOf]; omega
     ·obtain rfl : j = l.length := by omega
      have HRS : Hid (R = none) := Lib.hid (by rw [HF.out, List.drop_length]; rfl)
      go_wp2_with fail
      go_ret
      exact ⟨ret_int (by rw [HRS.out]; rfl), HBX.out⟩
   ·have hd : decide ((s, t, (n : Int)) ∈ fnsW xl) = false := decide_eq_false hmem
    rw [hd]
    clear hd
    have HBAD : Hid (R = some p) := Lib.hid (by rw [HR.out, Tm.pre, badW, if_pos (by simp [thereE, Tm.k, Tm.s, Tm.t, Tm.n, Tm.l, hmem])])
    clear hmem
    go_upto_region 12 with fail
    rw [← hW4]
    clear hW4
    go_wp2_with fail
    go_ret
    exact ⟨ret_int (by rw [HBAD.out]; rfl), HBW.out⟩
  have HNB : Hid (¬ thereE (fnsW xl) md (.mk k n s t l) = 92) := Lib.hid (by
   have e9 : thereE (fnsW xl) md (.mk k n s t l) = if k = 2 then (if builtB s n = true then 91 else 0) else 0 := by
    show (if k = 2 then (if builtB s n = true then (91 : Int) else 0) else if k = 14 then _ else if k = 15 then _ else if k = 17 then _ else 0) = _
    rw [if_neg h14, if_neg h15, if_neg h17]
   rw [e9]
   split
   ·split <;> decide
   ·decide)
  have f14 : (k == 14) = false := beq_eq_false_iff_ne.2 h14
  have f15 : (k == 15) = false := beq_eq_false_iff_ne.2 h15
  have f17 : (k == 17) = false := beq_eq_false_iff_ne.2 h17
  have HBW := HB2
  have HA0 := HG0
  have HX0 := HG1
  clear h14 h15 h17
  go_upto_region 12 with fail
  clear f14 f15 f17
  clear a0 a1 a2 a3 a4 x0 x1 x2 x3 x4
  have hgx := HX0.out
  have x4 : (W2).cell? ⟨w.heap.size + 1, 4, none⟩ = some (.slice A l.length cap) := cell_of_row (i := 4) hgx rfl
  clear hgx
  have HST : Hid (R = badW (fnsW xl) md q (Tm.pres l)) := Lib.hid (by rw [HR.out, Tm.pre, badW, if_neg HNB.out, ← HQ.out])
  go_upto_region 15 with fail
  clear x4 hw1 hw2 hw3 hpp
  go_wp2_with fail
  go_loopw [3, 16] (fun a i wr => ∃ j r : Nat, j ≤ l.length ∧ i = .int .i64 (j : Int) ∧ a = .int .i64 (r : Int) ∧ Hid (r = q + (Tm.pres (l.take j)).length) ∧ Hid (Below W2.heap.size W2 wr) ∧ Hid (R = badW (fnsW xl) md r (Tm.pres (l.drop j)))) (fun _ i _ => l.length - (intOf i).toNat)
  case atStart => exact ⟨0, q, Nat.zero_le _, rfl, rfl, Lib.hid (by simp [Tm.pres]), Lib.hid (Below.refl _ _), HST⟩
  case round =>
   obtain ⟨j, r, hj, rfl, rfl, hr, HB, HF⟩ := hrel
   have HBX := Lib.hid (HBW.out.trans (HB.out.mono HBW.out.size))
   have HGA := Lib.hid ((HB.out.block _ (heap_lt HA0.out)).trans HA0.out)
   have HGX := Lib.hid ((HB.out.block _ (heap_lt HX0.out)).trans HX0.out)
   have hgx := HGX.out
   have x4 : (wr).cell? ⟨w.heap.size + 1, 4, none⟩ = some (.slice A l.length cap) := cell_of_row (i := 4) hgx rfl
   clear hgx
   by_cases hlt : j < l.length
   ·obtain ⟨z, hz⟩ : ∃ z, l[j]? = some z := ⟨l[j], List.getElem?_eq_getElem hlt⟩
    obtain ⟨ad, c0, c1, c2, c3, c4, hA9, hTz, hEz⟩ := relem HRow.out HBX.out hz
    cases hA9
    have hsz := nodes_take9 hz
    have HEV : Hid (∀ V2, Below wr.heap.size wr V2 → ElemAt V2 ad j (.agg #[c0, c1, c2, c3, c4])) := Lib.hid (fun V2 hb2 => by
     obtain ⟨ad', u', hA', had', hE', hT'⟩ := HRow.out.at_ j z hz
     cases hA'
     exact hEz.keep (hb2.block _ (Nat.lt_of_lt_of_le had' HBX.out.size)))
    have hij : (j : Int) < (l.length : Int) := by omega
    have hi0 : (0 : Int) ≤ (j : Int) := by omega
    have HRB : Hid (r + z.nodes ≤ 100000) := Lib.hid (by have := HP.out; have := HQ.out; have := hr.out; omega)
    have HC : Hid (∀ V2, Below wr.heap.size wr V2 → Calls Tryz.prog 25 #[.agg #[.int .i8 xk, .int .i64 xn, .string xs, .string xt, .slice XA xl.length xc], .string md, .agg #[c0, c1, c2, c3, c4], .int .i64 (r : Int)] V2 fun e w' => e = .returned (.int .i64 (oI (badW (fnsW xl) md r z.pre))) ∧ Below V2.heap.size V2 w') := Lib.hid (fun V2 hb2 => by
     have hb3 := HBX.out.trans (hb2.mono HBX.out.size)
     exact HIH.out z (List.mem_of_getElem? hz) _ r V2 (HTX.out.keep (fun b hb => hb3.block b hb) (fun b hb => Nat.lt_of_lt_of_le hb hb3.size)) (hTz.keep (fun b hb => hb3.block b hb) (fun b hb => Nat.lt_of_lt_of_le hb hb3.size)) HRB.out)
    have HZ : Hid (∀ V2, Below wr.heap.size wr V2 → Calls Tryz.prog 27 #[.agg #[c0, c1, c2, c3, c4]] V2 fun e w' => e = .returned (.int .i64 (z.nodes : Int)) ∧ Below V2.heap.size V2 w') := Lib.hid (fun V2 hb2 => by
     have hb3 := HBX.out.trans (hb2.mono HBX.out.size)
     exact rsize9_any z _ V2 (hTz.keep (fun b hb => hb3.block b hb) (fun b hb => Nat.lt_of_lt_of_le hb hb3.size)) (by have := HRB.out; omega))
    have HFD : Hid (R = (badW (fnsW xl) md r z.pre).or (badW (fnsW xl) md (r + z.nodes) (Tm.pres (l.drop (j + 1))))) := Lib.hid (by
     rw [HF.out, List.drop_eq_getElem_cons hlt]
     have hz2 := hz
     rw [List.getElem?_eq_getElem hlt] at hz2
     rw [Option.some.inj hz2, Tm.pres, badW_append, show z.nodes = z.pre.length from rfl])
    have HRN : Hid (r + z.nodes = q + (Tm.pres (l.take (j + 1))).length) := Lib.hid (by rw [Tm.pres_take_succ hz, List.length_append, hr.out]; unfold Tm.nodes; omega)
    clear hTz hEz hsz hz HF
    obtain ⟨zn, hzn⟩ : ∃ zn, zn = z.nodes := ⟨_, rfl⟩
    rw [← hzn] at HRB HZ HFD HRN
    clear hzn
    go_upto_region 18 with fail
    clear x4
    refine wp_region_held (S := fun V => Below wr.heap.size wr V) (by kernel_rfl) ?_
    show wpAnyH _ _ _ _ _ _ _ _ wr.drew
    have hS0 : Below wr.heap.size wr wr.drew := ⟨rfl, rfl, rfl, Nat.le_refl _, fun _ _ => rfl⟩
    generalize wr.drew = D at hS0 ⊢
    refine wpAnyH_take (i := 0) (oi := ⟨some 86, _, _, _, _, _⟩) (v := ?_) rfl (by kernel_rfl) (by kernel_rfl) (by kernel_rfl) (fun _ _ _ h => h) (Or.inl ⟨by kernel_rfl, ?_⟩) (by assumption) ?_; rotate_left; (intro V hV; (try dsimp only at hV); have a0 := cell_of_row (i := 0) ((hV.block _ (heap_lt HGA.out)).trans HGA.out) rfl; have a1 := cell_of_row (i := 1) ((hV.block _ (heap_lt HGA.out)).trans HGA.out) rfl; have a2 := cell_of_row (i := 2) ((hV.block _ (heap_lt HGA.out)).trans HGA.out) rfl; have a3 := cell_of_row (i := 3) ((hV.block _ (heap_lt HGA.out)).trans HGA.out) rfl; have a4 := cell_of_row (i := 4) ((hV.block _ (heap_lt HGA.out)).trans HGA.out) rfl; go_simp; first | done | with_reducible rfl); (try simp only [Act.put, sI, sZ, sS])
    refine tkq 1 ?_; (try simp only [Act.put, sI, sZ, sS])
    refine tkq 2 ?_; (try simp only [Act.put, sI, sZ, sS])
    refine wpAnyH_take (i := 3) (oi := ⟨some 89, _, _, _, _, _⟩) (v := ?_) rfl (by kernel_rfl) (by kernel_rfl) (by kernel_rfl) (fun _ _ _ h => h) (Or.inl ⟨by kernel_rfl, ?_⟩) (by assumption) ?_; rotate_left; (intro V hV; (try dsimp only at hV); have x4 := cell_of_row (i := 4) ((hV.block _ (heap_lt HGX.out)).trans HGX.out) rfl; go_simp; first | done | with_reducible rfl); (try simp only [Act.put, sI, sZ, sS])
    refine tkq 4 ?_; (try simp only [Act.put, sI, sZ, sS])
    refine tkq 5 ?_; (try simp only [Act.put, sI, sZ, sS])
    refine wpAnyH_take (i := 6) (oi := ⟨some 92, _, _, _, _, _⟩) (v := ?_) rfl (by kernel_rfl) (by kernel_rfl) (by kernel_rfl) (fun _ _ _ h => h) (Or.inl ⟨by kernel_rfl, ?_⟩) (by assumption) ?_; rotate_left; (intro V hV; (try dsimp only at hV); obtain ⟨q0, q1, q2, q3, q4, hq, e0, e1, e2, e3, e4⟩ := HEV.out V hV; cases hq; go_simp; first | done | with_reducible rfl); (try simp only [Act.put, sI, sZ, sS])
    refine tkq 7 ?_; (try simp only [Act.put, sI, sZ, sS])
    refine wpAnyH_ready (rs := [8]) (by kernel_rfl) (by simp) ?_
    refine AllReadyH.cons (o := ⟨some 94, _, _, _, _, _⟩) rfl (fun K hK => ?_) AllReadyH.nil
    rw [if_pos (by rfl)]
    go_simp
    refine (HC.out D hS0).mono ?_
    rintro e Y ⟨rfl, bY⟩
    have hSY := hS0.trans (bY.mono hS0.size)
    clear bY
    refine hK.out _ _ hSY (fun hSn => ?_)
    clear hK K hSn; (try simp only [Act.put, sI, sZ, sS])
    clear hS0
    refine tkq 9 ?_; (try simp only [Act.put, sI, sZ, sS])
    refine wpAnyH_done (by kernel_rfl) ?_ _
    have HBY := Lib.hid hSY
    clear hSY HC
    cases hb : badW (fnsW xl) md r z.pre with
    | some p9 =>
     have HRS : Hid (R = some p9) := Lib.hid (by rw [HFD.out, hb]; rfl)
     have hoi : oI (some p9) = (p9 : Int) := rfl
     rw [hoi]
     have hp9 : (0 : Int) ≤ (p9 : Int) := by omega
     clear hb hoi
     go_wp2_with fail
     go_ret
     exact ⟨ret_int (by rw [HRS.out]; rfl), HBX.out.trans (HBY.out.mono HBX.out.size)⟩
    | none =>
     have HRS : Hid (R = badW (fnsW xl) md (r + zn) (Tm.pres (l.drop (j + 1)))) := Lib.hid (by rw [HFD.out, hb]; rfl)
     have hoi : oI none = -1 := rfl
     rw [hoi]
     clear hb hoi
     have hgx := (HBY.out.block _ (heap_lt HGX.out)).trans HGX.out
     have x4 : (Y).cell? ⟨w.heap.size + 1, 4, none⟩ = some (.slice (some ad) l.length cap) := cell_of_row (i := 4) hgx rfl
     obtain ⟨q0, q1, q2, q3, q4, hq, e0, e1, e2, e3, e4⟩ := HEV.out Y HBY.out
     cases hq
     have HZ2 := Lib.hid (HZ.out Y HBY.out)
     have hrz : r + zn ≤ 100000 := HRB.out
     clear hgx HZ
     go_wp2_with fail
     refine HZ2.out.mono ?_
     rintro e Y2 ⟨rfl, b2⟩
     have HBY2 := Lib.hid (HB.out.trans ((HBY.out.trans (b2.mono HBY.out.size)).mono HB.out.size))
     clear b2 HZ2 e0 e1 e2 e3 e4 x4
     go_wp2_with fail
     go_roundw
     case rel => exact ⟨j + 1, r + zn, by omega, by go_num, by go_num, HRN, HBY2, HRS⟩
     case measure => simp [intOf]; omega
   ·obtain rfl : j = l.length := by omega
    have HRS : Hid (R = none) := Lib.hid (by rw [HF.out, List.drop_length]; rfl)
    go_wp2_with fail
    go_ret
    exact ⟨ret_int (by rw [HRS.out]; rfl), HBX.out⟩
end Go.Proofs.YtmdcdhdjojimeaaGreatDoor
