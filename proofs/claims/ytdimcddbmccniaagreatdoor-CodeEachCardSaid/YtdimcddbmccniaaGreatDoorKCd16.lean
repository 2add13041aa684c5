/- Layer 13: functions: each may be, none twice, their places gathered (written by gen_cd16.py). -/
import Derived.Test.YtdimcddbmccniaaGreatDoorKCd1
import Derived.Test.YtdimcddbmccniaaGreatDoorKCd6
import Derived.Test.YtdimcddbmccniaaGreatDoorKInts
import Derived.Test.YtdimcddbmccniaaGreatDoorKCd11
import Derived.Laws.IdiomRangeMap
import Derived.MapKept
import Derived.DeepKeys3
section
set_option linter.unusedVariables false
namespace Go.Proofs.YtdimcddbmccniaaGreatDoor
open Go.RowKit

def TK {α : Type} (P : Program) (s : Sem α) : Prop := ∀ w v w', s.run P w = .ok v w' → w'.tape = w.tape
theorem tk_pure {α : Type} (P : Program) (a : α) : TK P (pure a : Sem α) := fun w v w' h => by
  simp only [Sem.run_pure, Result.ok.injEq] at h
  rw [← h.2]
theorem tk_bind {α β : Type} {P : Program} {s : Sem α} {f : α → Sem β} (hs : TK P s) (hf : ∀ a, TK P (f a)) : TK P (s >>= f) := fun w v w' h => by
  rw [Sem.run_bind] at h
  cases hr : s.run P w with
  | ok a w1 =>
    rw [hr, Result.andThen_ok] at h
    exact (hf a _ _ _ h).trans (hs _ _ _ hr)
  | halt e w1 => rw [hr] at h; cases h
theorem tk_halt {α : Type} (P : Program) (e : Halt) : TK P (Sem.halt e : Sem α) := fun w v w' h => by cases h
theorem tk_getObj (P : Program) (r : Nat) : TK P (getObj r) := fun w v w' h => by
  unfold getObj at h
  rw [Sem.run] at h
  split at h
  · cases h
  · simp [Sem.run] at h; rw [← h.2]
  · cases h
theorem tk_setObj (P : Program) (r : Nat) (o : Obj) : TK P (setObj r o) := fun w v w' h => by
  unfold setObj at h
  rw [Sem.run] at h
  split at h
  · cases h
  · simp [Sem.run] at h; rw [← h]
  · cases h
theorem tk_choose (P : Program) (q : Question) : TK P (choose q) := fun w v w' h => by
  unfold choose at h
  rw [Sem.run] at h
  split at h
  · simp [Sem.run] at h; rw [← h.2]
  · simp [Sem.run] at h; rw [← h.2]; rfl
theorem tk_next (P : Program) (r : Nat) (ty : TypeId) : TK P (Instr.next (.pointer (some ⟨r, 0, none⟩)) false ty) := by
  unfold Instr.next
  simp only []
  refine tk_bind (tk_getObj P r) fun o => ?_
  split
  · split
    · exact tk_bind (tk_setObj P _ _) fun _ => tk_pure P _
    · exact tk_pure P _
  · exact tk_pure P _
  · refine tk_bind (tk_getObj P _) fun o2 => ?_
    split
    · split
      · exact tk_halt P _
      · refine tk_bind (tk_choose P _) fun k => ?_
        split
        · exact tk_bind (tk_setObj P _ _) fun _ => tk_pure P _
        · exact tk_pure P _
        · exact tk_halt P _
    · exact tk_halt P _
  · exact tk_halt P _
end Go.Proofs.YtdimcddbmccniaaGreatDoor
end
section
set_option linter.unusedVariables false
set_option linter.unusedSimpArgs false
namespace Go.Proofs.YtdimcddbmccniaaGreatDoor
open Go.RowKit

theorem below_alike {w1 W : World} (h : w1.Alike W) (ht : w1.tape = W.tape) (o : Obj) : Below W.heap.size W (w1.alloc o) := by
  have b : Below W.heap.size W w1 := ⟨h.2.1, ht, h.2.2, by rw [h.1]; exact Nat.le_refl _, fun k hk => by rw [h.1]⟩
  exact b.alloc (by rw [h.1]; exact Nat.le_refl _) o
set_option maxHeartbeats 4000000 in
set_option maxRecDepth 100000 in
theorem below13_any (mb : Nat) (S : List Int) (m : Nat) (W : World) (hm : m ≤ 9223372036854775807) (hG : GS mb S W) :
    Calls Tryz.prog 48 #[.map (some mb), .int .i64 m] W fun e w' => e = .returned (.bool (S.all (placeB m))) ∧ Below W.heap.size W w' := by
  obtain ⟨es, clk, hb, hS⟩ := hG
  have hst := hS.st
  have hrg := run_range_map (P := Tryz.prog) W 94 3 157 mb es clk Tryz.underlying94 hb
  have hw : IntKind.i64.wrap ((m : Int) - 1) = (m : Int) - 1 := by rw [IntKind.wrap_i64]; omega
  obtain ⟨m1, hm1⟩ : ∃ m1 : Int, m1 = (m : Int) - 1 := ⟨_, rfl⟩
  rw [← hm1] at hw
  have HM1 := Lib.hid hm1
  have HS := Lib.hid hS
  have hsub : IntKind.i64.wrap ((m : Int) - 1) = m1 := by rw [← hm1]; exact hw
  obtain ⟨R, hR⟩ : ∃ R, R = S.all (placeB m) := ⟨_, rfl⟩
  rw [← hR]
  have HR := Lib.hid hR
  clear hm1 hS hw hR
  go_enter Tryz.func48, Tryz.ntmps48
  go_wp2
  go_loopw [] (fun w' => ∃ (w1 : World) (seen : Array Nat), (w1.Alike W ∧ w1.tape = W.tape) ∧ w' = w1.alloc (.mapIter (some mb) clk seen clk) ∧ ∀ x ∈ es.toList, seen.contains x.born = true → ∃ n, x.key = .int .i64 n ∧ placeB m n = true) (fun w' => (leftOf es (w'.iterSeen W.heap.size)).size)
  case atStart => exact ⟨W, #[], ⟨⟨rfl, rfl, rfl⟩, rfl⟩, rfl, fun x _ h => by simp at h⟩
  case round =>
    obtain ⟨w1, seen, ⟨hal, htp⟩, rfl, hno⟩ := hrel
    have HTP := Lib.hid htp
    clear htp
    have hsz : w1.heap.size = W.heap.size := by rw [hal.1]
    have hb1 : w1.heap[mb]? = some (.map es clk) := by rw [hal.1]; exact hb
    have law := run_next_map (P := Tryz.prog) w1 0 mb clk clk seen es clk hb1 hst.1 (Nat.le_refl _)
    rw [hsz] at law
    have HNO := Lib.hid hno
    clear hno
    rcases law with ⟨h0, hrun⟩ | ⟨e, he, w2, hal2, hrun⟩
    · have hnx : ∀ ty, (Instr.next (.pointer (some ⟨W.heap.size, 0, none⟩)) false ty).run Tryz.prog (w1.alloc (.mapIter (some mb) clk seen clk)) = _ := fun _ => hrun
      have HF : Hid (R = true) := Lib.hid (by
        rw [HR.out, List.all_eq_true]
        intro n hn
        obtain ⟨x, hx, e⟩ := (HS.out.mem n).2 hn
        obtain ⟨n', e', hp⟩ := HNO.out x hx (all_seen es seen h0 x hx)
        rw [e] at e'
        injection e' with _ e''
        rw [e'']; exact hp)
      go_wp2
      go_ret
      exact ⟨ret_bool HF.out.symm, below_alike hal HTP.out _⟩
    · obtain ⟨⟨n, hkey⟩, hval⟩ := HS.out.key e (mem_left he).1
      rw [hkey, hval] at hrun
      have hnx : ∀ ty, (Instr.next (.pointer (some ⟨W.heap.size, 0, none⟩)) false ty).run Tryz.prog (w1.alloc (.mapIter (some mb) clk seen clk)) = _ := fun _ => hrun
      have hsz2 : w2.heap.size = W.heap.size := by rw [hal2.1, hal.1]
      have hb2 : w2.heap[mb]? = some (.map es clk) := by rw [hal2.1]; exact hb1
      have hen := run_entry_map (P := Tryz.prog) w2 mb clk seen es clk e hb2 (mem_left he).1 hst.2.1
      rw [hsz2, hkey, hval] at hen
      have hal3 : w2.Alike W := ⟨hal2.1.trans hal.1, hal2.2.1.trans hal.2.1, hal2.2.2.trans hal.2.2⟩
      have HT2 : Hid (w2.tape = W.tape) := Lib.hid ((tk_next Tryz.prog W.heap.size 0 _ _ _ hrun).trans HTP.out)
      have HE := Lib.hid he
      have HKY := Lib.hid hkey
      have HC := Lib.hid (fun V => within_any n 0 m1 V)
      clear he hkey hval
      go_wp2_with fail
      refine (HC.out _).mono ?_
      rintro e3 w3 ⟨rfl, rfl⟩
      have hpl : withinB n 0 m1 = placeB m n := by unfold withinB placeB; rw [HM1.out, Bool.eq_iff_iff]; simp; omega
      rw [hpl]
      have HPL := Lib.hid hpl
      clear hpl
      cases hp : placeB m n
      · have HF : Hid (R = false) := Lib.hid (by
          rw [HR.out, List.all_eq_false]
          exact ⟨n, (HS.out.mem n).1 ⟨e, (mem_left HE.out).1, HKY.out⟩, by simp [hp]⟩)
        go_wp2_with fail
        go_ret
        exact ⟨ret_bool HF.out.symm, below_alike hal3 HT2.out _⟩
      · have HP := Lib.hid hp
        clear hp
        go_wp2_with fail
        go_roundw
        case rel =>
          refine ⟨w2, seen.push e.born, ⟨hal3, HT2.out⟩, rfl, fun x hx hc => ?_⟩
          rw [contains_push] at hc
          rcases Bool.or_eq_true _ _ ▸ hc with h1 | h1
          · exact HNO.out x hx h1
          · have : x = e := born_inj hst.2.1 hx (mem_left HE.out).1 (beq_iff_eq.1 h1)
            subst this
            exact ⟨n, HKY.out, HP.out⟩
        case measure =>
          rw [← hsz2, World.iterSeen_alloc, hsz2, ← hsz, World.iterSeen_alloc]
          exact left_shrinks es seen e HE.out
end Go.Proofs.YtdimcddbmccniaaGreatDoor
end
section
set_option linter.unusedVariables false
set_option linter.unusedSimpArgs false
namespace Go.Proofs.YtdimcddbmccniaaGreatDoor
open Go.RowKit

theorem flat_take (T : List (List Int)) {j : Nat} {y : List Int} (h : T[j]? = some y) : (T.take (j + 1)).flatten.length = (T.take j).flatten.length + y.length := by
  rw [List.take_add_one, h]; simp
theorem flat_le (T : List (List Int)) (j : Nat) : (T.take j).flatten.length ≤ T.flatten.length := by
  conv => rhs; rw [← List.take_append_drop j T, List.flatten_append, List.length_append]
  omega
set_option maxHeartbeats 4000000 in
set_option maxRecDepth 100000 in
theorem fits13_any (x : Pg) (A : Option Addr) (ca : Nat) (B : Option Addr) (cb : Nat) (C : Option Addr) (cc : Nat) (W : World) (hX : PgAt (· < W.heap.size) W x A ca B cb C cc) (hfl : x.tab.flatten.length ≤ 6000) :
    Calls Tryz.prog 68 #[.agg #[.slice A x.fns.length ca, .slice B x.ops.length cb, .slice C x.tab.length cc]] W fun e w' => e = .returned (.bool (fitsP x)) ∧ Below W.heap.size W w' := by
  obtain ⟨R, hR⟩ : ∃ R, R = fitsP x := ⟨_, rfl⟩
  rw [← hR]
  have HR : Hid (R = decide (x.ops.length ≤ 4096 ∧ x.fns.length ≤ 4096 ∧ x.tab.length ≤ 4097 ∧ x.tab.flatten.length ≤ 4096)) := Lib.hid (by rw [hR]; rfl)
  clear hR
  obtain ⟨W1, hW1⟩ : ∃ W1, W1 = W.alloc (.cells #[.slice A x.fns.length ca, .slice B x.ops.length cb, .slice C x.tab.length cc] 45) := ⟨_, rfl⟩
  have b1 : Below W.heap.size W W1 := by rw [hW1]; exact (Below.refl _ W).alloc (Nat.le_refl _) _
  have g1 : W1.heap[W.heap.size]? = some (.cells #[.slice A x.fns.length ca, .slice B x.ops.length cb, .slice C x.tab.length cc] 45 (0, 0)) := by rw [hW1]; exact block_alloc _ _
  obtain ⟨x0, x1, x2⟩ := c3 g1
  have HX := Lib.hid (hX.later b1)
  have HB1 := Lib.hid b1
  have hm0 := hX.fns.max
  have hm1 := hX.ops.max
  have hm2 := hX.tab.max
  unfold maxLen at hm0 hm1 hm2
  have HFL := Lib.hid hfl
  clear hX b1 g1 hfl
  by_cases h1 : 4096 < x.ops.length
  · have HF : Hid (R = false) := Lib.hid (by rw [HR.out]; exact decide_eq_false (by omega))
    have h1b : (4096 : Int) < (x.ops.length : Int) := by omega
    clear h1
    go_enter Tryz.func68, Tryz.ntmps68
    go_upto_region 1 with fail
    rw [← hW1]
    clear hW1
    go_wp2_with fail
    go_ret
    exact ⟨ret_bool HF.out.symm, HB1.out⟩
  by_cases h2 : 4096 < x.fns.length
  · have HF : Hid (R = false) := Lib.hid (by rw [HR.out]; exact decide_eq_false (by omega))
    have h1b : ¬ (4096 : Int) < (x.ops.length : Int) := by omega
    have h2b : (4096 : Int) < (x.fns.length : Int) := by omega
    clear h1 h2
    go_enter Tryz.func68, Tryz.ntmps68
    go_upto_region 1 with fail
    rw [← hW1]
    clear hW1
    go_wp2_with fail
    go_ret
    exact ⟨ret_bool HF.out.symm, HB1.out⟩
  by_cases h3 : 4097 < x.tab.length
  · have HF : Hid (R = false) := Lib.hid (by rw [HR.out]; exact decide_eq_false (by omega))
    have h1b : ¬ (4096 : Int) < (x.ops.length : Int) := by omega
    have h2b : ¬ (4096 : Int) < (x.fns.length : Int) := by omega
    have h3b : (4097 : Int) < (x.tab.length : Int) := by omega
    clear h1 h2 h3
    go_enter Tryz.func68, Tryz.ntmps68
    go_upto_region 1 with fail
    rw [← hW1]
    clear hW1
    go_wp2_with fail
    go_ret
    exact ⟨ret_bool HF.out.symm, HB1.out⟩
  have HF : Hid (R = decide (x.tab.flatten.length ≤ 4096)) := Lib.hid (by rw [HR.out, Bool.eq_iff_iff, decide_eq_true_eq, decide_eq_true_eq]; omega)
  have h1b : ¬ (4096 : Int) < (x.ops.length : Int) := by omega
  have h2b : ¬ (4096 : Int) < (x.fns.length : Int) := by omega
  have h3b : ¬ (4097 : Int) < (x.tab.length : Int) := by omega
  clear h1 h2 h3 HR
  go_enter Tryz.func68, Tryz.ntmps68
  go_upto_region 1 with fail
  rw [← hW1]
  clear hW1
  go_wp2_with fail
  go_loopw [3, 25] (fun lf i wr => ∃ j : Nat, j ≤ x.tab.length ∧ i = .int .i64 j ∧ (∃ q : Int, lf = .int .i64 q ∧ Hid (q = 4096 - ((x.tab.take j).flatten.length : Int))) ∧ Hid (wr = W1)) (fun _ i _ => x.tab.length - (intOf i).toNat)
  case atStart => exact ⟨0, Nat.zero_le _, rfl, ⟨4096, rfl, Lib.hid (by simp)⟩, Lib.hid rfl⟩
  case round =>
    obtain ⟨j, hj, rfl, ⟨q, rfl, HQ⟩, HW⟩ := hrel
    have hww := HW.out
    subst hww
    by_cases hlt : j < x.tab.length
    · obtain ⟨y, hy⟩ : ∃ y, x.tab[j]? = some y := ⟨x.tab[j]'(hlt), List.getElem?_eq_getElem _⟩
      obtain ⟨ad, BB, mm, hA, had, hc, hN⟩ := HX.out.tab.at_ j y hy
      subst hA
      have hq := HQ.out
      have hfl := HFL.out
      have hle := flat_le x.tab (j + 1)
      rw [flat_take x.tab hy] at hle
      have hwq : IntKind.i64.wrap (q - (y.length : Int)) = q - (y.length : Int) := by rw [IntKind.wrap_i64]; omega
      obtain ⟨q2, hq2⟩ : ∃ q2, q2 = q - (y.length : Int) := ⟨_, rfl⟩
      rw [← hq2] at hwq
      have hw64 : wrap64 (q - (y.length : Int)) = q2 := by unfold wrap64; omega
      have HQ2 : Hid (q2 = 4096 - ((x.tab.take (j + 1)).flatten.length : Int)) := Lib.hid (by rw [flat_take x.tab hy]; omega)
      clear hq hle hfl hy hN had hq2
      go_wp2_with fail
      go_roundw
      case rel => exact ⟨j + 1, by omega, by go_num, ⟨q2, by rw [hw64], HQ2⟩, by first | exact Lib.hid rfl | exact Lib.hid trivial⟩
      case measure => simp [intOf]; omega
    · have hjn : j = x.tab.length := by omega
      subst hjn
      have HQ3 : Hid (q = 4096 - (x.tab.flatten.length : Int)) := Lib.hid (by have := HQ.out; rwa [List.take_length] at this)
      clear HQ
      by_cases hq0 : 0 ≤ q
      · have HF2 : Hid (R = true) := Lib.hid (by rw [HF.out]; have := HQ3.out; exact decide_eq_true (by omega))
        go_wp2_with fail
        go_ret
        exact ⟨ret_bool HF2.out.symm, HB1.out⟩
      · have HF2 : Hid (R = false) := Lib.hid (by rw [HF.out]; have := HQ3.out; exact decide_eq_false (by omega))
        go_wp2_with fail
        go_ret
        exact ⟨ret_bool HF2.out.symm, HB1.out⟩
set_option maxHeartbeats 4000000 in
set_option maxRecDepth 100000 in
theorem over13_any (l : List Cd) (A : Option Addr) (cap : Nat) (W : World) (hR : CRow (· < W.heap.size) W A l.length cap l) :
    Calls Tryz.prog 69 #[.slice A l.length cap] W fun e w' => e = .returned (.bool (overB l)) ∧ w' = W := by
  obtain ⟨R, hR0⟩ : ∃ R, R = overB l := ⟨_, rfl⟩
  rw [← hR0]
  have hmax := hR.max
  unfold maxLen at hmax
  by_cases h0 : l.length = 0
  · have HF : Hid (R = true) := Lib.hid (by rw [hR0, List.length_eq_zero_iff.1 h0]; rfl)
    rw [h0]
    clear hR0 h0 hR hmax
    go_enter Tryz.func69, Tryz.ntmps69
    go_wp2_with fail
    go_ret
    exact ⟨ret_bool HF.out.symm, rfl⟩
  obtain ⟨q, hq⟩ : ∃ q, l.length = q + 1 := ⟨l.length - 1, by omega⟩
  obtain ⟨y, hy⟩ : ∃ y, l[q]? = some y := ⟨l[q]'(by omega), List.getElem?_eq_getElem _⟩
  obtain ⟨ad, u, hA, had, hE, hTy⟩ := hR.at_ q y hy
  subst hA
  have HF : Hid (R = (y.op == 11 || (y.op == 9 || (y.op == 12 || y.op == 15)))) := Lib.hid (by
    rw [hR0]; unfold overB
    rw [List.getLast?_eq_getElem?, hq, Nat.add_sub_cancel, hy])
  obtain ⟨yo, ya, yb, ⟨tk, tn, ts, tt, tl⟩, ⟨pk, pn, ps, pt, pl⟩, yl⟩ := y
  obtain ⟨TA, tcap, PA, pcap, LA, lcap, rfl, -⟩ := hTy.parts
  obtain ⟨c0, c1, c2, c3, c4, c5, c6, c7, c8, c9, c10, c11, c12, c13, hcc, e0, -⟩ := hE
  simp only [Value.agg.injEq, Array.mk.injEq, List.cons.injEq, and_true] at hcc
  obtain ⟨rfl, rfl, rfl, rfl, rfl, rfl, rfl, rfl, rfl, rfl, rfl, rfl, rfl, rfl⟩ := hcc
  rw [hq]
  have hw : IntKind.i64.wrap (((q + 1 : Nat) : Int) - 1) = (q : Int) := by rw [IntKind.wrap_i64]; omega
  obtain ⟨n1, hn1⟩ : ∃ n1, n1 = q + 1 := ⟨_, rfl⟩
  rw [← hn1] at hw ⊢
  have i1 : (q : Int) < (n1 : Int) := by omega
  have i0 : (0 : Int) ≤ (q : Int) := by omega
  have i2 : ((n1 : Int) == 0) = false := by rw [beq_eq_false_iff_ne]; omega
  clear hR0 h0 hR hmax hy hq hTy had hn1
  cases h1 : (yo == 11)
  · cases h2 : (yo == 9)
    · cases h3 : (yo == 12)
      · cases h4 : (yo == 15)
        all_goals
          have HF2 := HF.out
          simp only [h1, h2, h3, h4, Bool.or_false, Bool.false_or] at HF2
          have HF3 := Lib.hid HF2
          clear HF2 HF
          go_enter Tryz.func69, Tryz.ntmps69
          go_wp2_with fail
          go_ret
          exact ⟨ret_bool HF3.out.symm, rfl⟩
      · have HF3 : Hid (R = true) := Lib.hid (by rw [HF.out, h1, h2, h3]; rfl)
        go_enter Tryz.func69, Tryz.ntmps69
        go_wp2_with fail
        go_ret
        exact ⟨ret_bool HF3.out.symm, rfl⟩
    · have HF3 : Hid (R = true) := Lib.hid (by rw [HF.out, h1, h2]; rfl)
      go_enter Tryz.func69, Tryz.ntmps69
      go_wp2_with fail
      go_ret
      exact ⟨ret_bool HF3.out.symm, rfl⟩
  · have HF3 : Hid (R = true) := Lib.hid (by rw [HF.out, h1]; rfl)
    go_enter Tryz.func69, Tryz.ntmps69
    go_wp2_with fail
    go_ret
    exact ⟨ret_bool HF3.out.symm, rfl⟩
end Go.Proofs.YtdimcddbmccniaaGreatDoor
end
section

end
section
set_option linter.unusedVariables false
set_option linter.unusedSimpArgs false
namespace Go.Proofs.YtdimcddbmccniaaGreatDoor
open Go.RowKit

def fnV (f : Fn9) : Value := .agg #[.string f.1, .string f.2.1, .int .i64 f.2.2, .int .i64 0, .int .i64 0]
def FnOk (f : Fn9) : Prop := f.1.size ≤ maxLen ∧ f.2.1.size ≤ maxLen ∧ (-9223372036854775808 ≤ f.2.2 ∧ f.2.2 ≤ 9223372036854775807)
theorem fnV_inj {f g : Fn9} (h : fnV f = fnV g) : f = g := by
  obtain ⟨a, b, c⟩ := f; obtain ⟨d, e, i⟩ := g
  simp [fnV] at h
  obtain ⟨rfl, rfl, rfl⟩ := h
  rfl
theorem fn_law : WideMaps.KeyLaw Tryz.prog 77 := deep_law (m := 3) (by omega) (by kernel_rfl) (by kernel_rfl) (by kernel_rfl)
set_option maxRecDepth 100000 in
theorem fn_key (f : Fn9) (h : FnOk f) : ∃ l, keyOf Tryz.prog 77 (fnV f) = some l := by
  obtain ⟨s, t, n⟩ := f
  obtain ⟨hs, ht, hn⟩ := h
  have hk : Tryz.prog.keyType 77 = true := by kernel_rfl
  have hd : Tryz.prog.types.size + 1 = (Tryz.prog.types.size - 1) + 2 := by have : 1 ≤ Tryz.prog.types.size := of_decide_eq_true (by kernel_rfl); omega
  have hc : Tryz.prog.cellsOf 77 = 5 := by kernel_rfl
  unfold keyOf
  simp only [Tryz.underlying77, hk, Bool.true_and]
  rw [if_pos (by kernel_rfl), hd]
  have cs1 : Tryz.prog.cellsOf 9 = 1 := by kernel_rfl
  have ci1 : Tryz.prog.cellsOf 3 = 1 := by kernel_rfl
  have hw0 : (Lit.int .i64 0).wf = true := by decide
  have hw : (Lit.int .i64 n).wf = true := by unfold Lit.wf; simp only [Bool.and_eq_true, decide_eq_true_eq]; exact hn
  simp only at hs ht
  have ls : ∀ (d : Nat) (b : ByteArray), b.size ≤ maxLen → Tryz.prog.keyLits (d + 1) 9 [.string b] = some [.string b.data.toList] := fun d b hb => by
    unfold Program.keyLits
    simp only [Tryz.underlying9]
    rw [if_pos hb]
  have li : ∀ (d : Nat) (m : Int), (Lit.int .i64 m).wf = true → Tryz.prog.keyLits (d + 1) 3 [.int .i64 m] = some [.int .i64 m] := fun d m hm => by
    unfold Program.keyLits
    simp only [Tryz.underlying3]
    rw [if_pos ⟨trivial, hm⟩]
  unfold Program.keyLits
  simp only [Tryz.underlying77, fnV, Value.cells]
  rw [if_pos ⟨by rw [hc]; rfl, by kernel_rfl⟩]
  simp [cs1, ci1, ls _ _ hs, ls _ _ ht, li _ _ hw, li _ _ hw0]

structure SetF (es : Array MapEntry) (L : List Fn9) : Prop where
  key : ∀ x ∈ es.toList, (∃ f, FnOk f ∧ x.key = fnV f) ∧ x.val = .agg #[]
  mem : ∀ f, (∃ x ∈ es.toList, x.key = fnV f) ↔ f ∈ L
theorem SetF.nil : SetF #[] [] := ⟨by simp, by simp⟩
theorem SetF.ext {es : Array MapEntry} {L M : List Fn9} (h : SetF es L) (e : ∀ f, f ∈ L ↔ f ∈ M) : SetF es M := ⟨h.key, fun s => (h.mem s).trans (e s)⟩
theorem SetF.find {es : Array MapEntry} {L : List Fn9} (h : SetF es L) (w : World) {f : Fn9} (hf : FnOk f) :
    ((Instr.findKey 77 (fnV f) es.toList).run Tryz.prog w = .ok none w ∧ f ∉ L) ∨ ∃ j e, (Instr.findKey 77 (fnV f) es.toList).run Tryz.prog w = .ok (some (j, .agg #[])) w ∧ es[j]? = some e ∧ e.key = fnV f ∧ f ∈ L := by
  obtain ⟨l, hl⟩ := fn_key f hf
  rcases fn_law.find w hl es.toList (fun x hx => by obtain ⟨⟨g, hg, e⟩, _⟩ := h.key x hx; rw [e]; exact fn_key g hg) with ⟨h1, h2⟩ | ⟨j, e, h1, h2, h3⟩
  · exact .inl ⟨h1, fun hm => by obtain ⟨x, hx, e⟩ := (h.mem f).2 hm; exact h2 x hx e⟩
  · have hm := List.mem_of_getElem? h2
    rw [(h.key e hm).2] at h1
    exact .inr ⟨j, e, h1, by simpa using h2, h3, (h.mem f).1 ⟨e, hm, h3⟩⟩
theorem zero_unitF (w : World) : (zeroValue 157).run Tryz.prog w = .ok (.agg #[]) w := by kernel_rfl
theorem mkmapF (w : World) : Sem.run Tryz.prog (Instr.makeMap 154 none) w = .ok (.map (some w.heap.size)) (w.alloc (.map #[] 0)) := by kernel_rfl
theorem SetF.look {es : Array MapEntry} {L : List Fn9} (h : SetF es L) (w : World) (mb c : Nat) (hb : w.heap[mb]? = some (.map es c)) {f : Fn9} (hf : FnOk f) :
    (Instr.lookup 154 (.map (some mb)) (fnV f) true).run Tryz.prog w = .ok (.tuple #[.agg #[], .bool (decide (f ∈ L))]) w := by
  obtain ⟨l, hl⟩ := fn_key f hf
  rcases h.find w hf with ⟨h1, h2⟩ | ⟨j, e, h1, _, _, h2⟩
  · simp [Instr.lookup, run_underlying Tryz.underlying154, MapKept.run_getObj_map hb, fn_law.check w _ hl, h1, zero_unitF, Result.andThen, h2]
  · simp [Instr.lookup, run_underlying Tryz.underlying154, MapKept.run_getObj_map hb, fn_law.check w _ hl, h1, Result.andThen, h2]
theorem SetF.put {es : Array MapEntry} {L : List Fn9} (h : SetF es L) (w : World) (mb c : Nat) (hb : w.heap[mb]? = some (.map es c)) {f : Fn9} (hf : FnOk f) :
    ∃ es2 c2, (Instr.mapUpdate 154 (.map (some mb)) (fnV f) (.agg #[])).run Tryz.prog w = .ok () (w.putObj mb (.map es2 c2)) ∧ SetF es2 (L ++ [f]) := by
  obtain ⟨l, hl⟩ := fn_key f hf
  rcases h.find w hf with ⟨h1, h2⟩ | ⟨j, e, h1, hj, h3, h2⟩
  · refine ⟨es.push ⟨fnV f, .agg #[], c⟩, c + 1, ?_, ?_, ?_⟩
    · simp [Instr.mapUpdate, run_underlying Tryz.underlying154, MapKept.run_getObj_map hb, fn_law.check w _ hl, h1, MapKept.run_setObj_map _ hb, Result.andThen]
      rfl
    · intro x hx
      simp only [Array.toList_push, List.mem_append, List.mem_singleton] at hx
      rcases hx with hx | rfl
      · exact h.key x hx
      · exact ⟨⟨f, hf, rfl⟩, rfl⟩
    · intro g
      simp only [Array.toList_push, List.mem_append, List.mem_singleton]
      constructor
      · rintro ⟨x, hx | rfl, e⟩
        · exact .inl ((h.mem g).1 ⟨x, hx, e⟩)
        · exact .inr (fnV_inj e).symm
      · rintro (hg | rfl)
        · obtain ⟨x, hx, e⟩ := (h.mem g).2 hg; exact ⟨x, .inl hx, e⟩
        · exact ⟨_, .inr rfl, rfl⟩
  · have hkey : ∀ e', es[j]? = some e' → ({ e' with key := fnV f, val := .agg #[] } : MapEntry).key = e'.key := fun e' he' => by rw [hj] at he'; cases he'; exact h3.symm
    refine ⟨es.modify j (fun e' => { e' with key := fnV f, val := .agg #[] }), c, ?_, ?_, ?_⟩
    · simp [Instr.mapUpdate, run_underlying Tryz.underlying154, MapKept.run_getObj_map hb, fn_law.check w _ hl, h1, hj, h3, fn_law.stays w hl, MapKept.run_setObj_map _ hb, Result.andThen]
      rfl
    · intro x hx
      rcases MapFrom.mem_modify hx with hx | ⟨e', _, rfl⟩
      · exact h.key x hx
      · exact ⟨⟨f, hf, rfl⟩, rfl⟩
    · intro g
      have hk := MapKept.modify_keys (es := es) j (fun e' => { e' with key := fnV f, val := .agg #[] }) hkey
      have e1 : (∃ x ∈ (es.modify j (fun e' => { e' with key := fnV f, val := .agg #[] })).toList, x.key = fnV g) ↔ (∃ x ∈ es.toList, x.key = fnV g) := by
        constructor
        · rintro ⟨x, hx, e⟩
          have : x.key ∈ (es.modify j (fun e' => { e' with key := fnV f, val := .agg #[] })).toList.map (·.key) := List.mem_map.2 ⟨x, hx, rfl⟩
          rw [hk] at this
          obtain ⟨y, hy, e2⟩ := List.mem_map.1 this
          exact ⟨y, hy, e2.trans e⟩
        · rintro ⟨x, hx, e⟩
          have : x.key ∈ es.toList.map (·.key) := List.mem_map.2 ⟨x, hx, rfl⟩
          rw [← hk] at this
          obtain ⟨y, hy, e2⟩ := List.mem_map.1 this
          exact ⟨y, hy, e2.trans e⟩
      rw [e1, h.mem g, List.mem_append, List.mem_singleton]
      exact ⟨.inl, fun h => by rcases h with h | rfl; exact h; exact h2⟩
end Go.Proofs.YtdimcddbmccniaaGreatDoor
end
section
set_option linter.unusedVariables false
set_option linter.unusedSimpArgs false
namespace Go.Proofs.YtdimcddbmccniaaGreatDoor
open Go.RowKit

theorem fnsB_bad {l : List Fn13} {j : Nat} {f : Fn13} (h : l[j]? = some f) (hb : (fnB f && !decide (fnK f ∈ (l.take j).map fnK)) = false) : fnsB [] l = false := by
  obtain ⟨hlt, hf⟩ := List.getElem?_eq_some_iff.1 h
  have e : l = l.take j ++ f :: l.drop (j + 1) := by
    conv => lhs; rw [← List.take_append_drop j l]
    rw [List.drop_eq_getElem_cons hlt, hf]
  rw [e, fnsB_app, fnsB, List.nil_append]
  cases h1 : fnB f
  · simp
  · rw [h1, Bool.true_and] at hb
    rw [hb]; simp
theorem fnsB_next {l : List Fn13} {j : Nat} {f : Fn13} (h : l[j]? = some f) (h0 : fnsB [] (l.take j) = true) (hb : (fnB f && !decide (fnK f ∈ (l.take j).map fnK)) = true) : fnsB [] (l.take (j + 1)) = true := by
  rw [List.take_add_one, h, fnsB_app, h0, List.nil_append]
  simp only [Option.toList, fnsB, Bool.true_and, Bool.and_true]
  exact hb
theorem fnK_ok {f : Fn13} (h : FnB f) : FnOk (fnK f) := ⟨h.s, h.t, h.n⟩
structure FnI (mb sb kb : Nat) (S : List Int) (l : List Fn13) (K : Array Value) (TK : TypeId) (W : World) (V : World) (j : Nat) : Prop where
  mod : Mod (fun k => k = mb) W V
  set : ∃ es c, V.heap[sb]? = some (.map es c) ∧ SetF es ((l.take j).map fnK)
  gs : GS mb (S ++ (l.take j).map Fn13.at_) V
  box : V.heap[kb]? = some (.cells K TK (0, 0))
  ok : fnsB [] (l.take j) = true

set_option maxHeartbeats 20000000 in
set_option maxRecDepth 100000 in
theorem functions13_any (x : Pg) (A : Option Addr) (ca : Nat) (B : Option Addr) (cb : Nat) (C : Option Addr) (cc mb : Nat) (S : List Int) (W : World) (N : Nat)
    (hX : PgAt (Lo mb W) W x A ca B cb C cc) (hG : GS mb S W) (hE : EnvB N W) (hN : N ≤ mb) :
    Calls Tryz.prog 71 #[.agg #[.slice A x.fns.length ca, .slice B x.ops.length cb, .slice C x.tab.length cc, .map (some mb)]] W fun e w' => e = .returned (.bool (fnsB [] x.fns)) ∧ Mod (fun k => k = mb) W w' ∧ ∃ S', GS mb S' w' ∧ (fnsB [] x.fns = true → S' = S ++ x.fns.map Fn13.at_) := by
  obtain ⟨R, hR⟩ : ∃ R, R = fnsB [] x.fns := ⟨_, rfl⟩
  rw [← hR]
  have HR := Lib.hid hR
  clear hR
  have hmx := hX.fns.max
  unfold maxLen at hmx
  have hmbW := hG.lt
  obtain ⟨W1, hW1⟩ : ∃ W1, W1 = W.alloc (.cells #[.slice A x.fns.length ca, .slice B x.ops.length cb, .slice C x.tab.length cc, .map (some mb)] 96) := ⟨_, rfl⟩
  have b1 : Below W.heap.size W W1 := by rw [hW1]; exact (Below.refl _ W).alloc (Nat.le_refl _) _
  have gk : W1.heap[W.heap.size]? = some (.cells #[.slice A x.fns.length ca, .slice B x.ops.length cb, .slice C x.tab.length cc, .map (some mb)] 96 (0, 0)) := by rw [hW1]; exact block_alloc _ _
  have y0 : W1.cell? ⟨W.heap.size, 0, none⟩ = some (.slice A x.fns.length ca) := cell_of_row (i := 0) gk rfl
  have hmm := mkmapF W1
  have hs1 : W1.heap.size = W.heap.size + 1 := by rw [hW1]; simp
  obtain ⟨W3, hW3⟩ : ∃ W3, W3 = W1.alloc (.map #[] 0) := ⟨_, rfl⟩
  have b3 : Below W1.heap.size W1 W3 := by rw [hW3]; exact (Below.refl _ W1).alloc (Nat.le_refl _) _
  have g3 : W3.heap[W1.heap.size]? = some (.map #[] 0) := by rw [hW3]; exact block_alloc _ _
  have b13 : Below W.heap.size W W3 := b1.trans (b3.mono b1.size)
  rw [hs1] at g3 hmm
  have z0 : W3.cell? ⟨W.heap.size, 0, none⟩ = some (.slice A x.fns.length ca) := (b3.cell (World.block_lt_of_cell? W1 _ y0)).trans y0
  have HI0 : Hid (FnI mb (W.heap.size + 1) W.heap.size S x.fns #[.slice A x.fns.length ca, .slice B x.ops.length cb, .slice C x.tab.length cc, .map (some mb)] 96 W W3 0) := Lib.hid ⟨Mod.of_below b13, ⟨#[], 0, g3, by simpa using SetF.nil⟩, by simpa using hG.keep b13, (b3.block _ (heap_lt gk)).trans gk, rfl⟩
  have HX := Lib.hid hX
  have HE := Lib.hid hE
  have HN := Lib.hid hN
  have HMB := Lib.hid hmbW
  clear hX hG hE hN gk b1 b3 g3 b13 hmbW
  go_enter Tryz.func71, Tryz.ntmps71
  go_upto_region 1 with fail
  rw [← hW1]
  clear hW1
  go_wp2_with fail
  rw [← hW3]
  clear hW3 hmm y0 z0 hs1
  go_loopw [14] (fun i wr => ∃ j : Nat, j ≤ x.fns.length ∧ i = .int .i64 j ∧ Hid (FnI mb (W.heap.size + 1) W.heap.size S x.fns #[.slice A x.fns.length ca, .slice B x.ops.length cb, .slice C x.tab.length cc, .map (some mb)] 96 W wr j)) (fun i _ => x.fns.length - (intOf i).toNat)
  case atStart => exact ⟨0, Nat.zero_le _, rfl, HI0⟩
  case round =>
    clear HI0
    obtain ⟨j, hj, rfl, HI⟩ := hrel
    by_cases hlt : j < x.fns.length
    case neg =>
      have hjn : j = x.fns.length := by omega
      subst hjn
      have HF : Hid (R = true) := Lib.hid (by have := HI.out.ok; rw [List.take_length] at this; rw [HR.out]; exact this)
      have HG2 : Hid (GS mb (S ++ x.fns.map Fn13.at_) wr) := Lib.hid (by have := HI.out.gs; rwa [List.take_length] at this)
      go_wp2_with fail
      go_ret
      exact ⟨ret_bool HF.out.symm, HI.out.mod, _, HG2.out, fun _ => rfl⟩
    obtain ⟨f, hf⟩ : ∃ f, x.fns[j]? = some f := ⟨x.fns[j], List.getElem?_eq_getElem hlt⟩
    obtain ⟨ad, hA, had, hEl, hFB⟩ := HX.out.fns.at_ j f hf
    subst hA
    have hEw := hEl.keep (HI.out.mod.block _ had.1 had.2)
    have HEN := Lib.hid (HE.out.mod HN.out HI.out.mod)
    have HFJ := Lib.hid hf
    have HFB := Lib.hid hFB
    have hbN := hFB.n
    have hbA := hFB.at_
    have hbS := hFB.slots
    obtain ⟨d0, d1, d2, d3, d4, hcc, e0, e1, e2, e3, e4⟩ := hEw
    simp only [fn13V, Value.agg.injEq, Array.mk.injEq, List.cons.injEq, and_true] at hcc
    obtain ⟨rfl, rfl, rfl, rfl, rfl⟩ := hcc
    have HLS : Hid (mb < wr.heap.size) := Lib.hid (Nat.lt_of_lt_of_le HMB.out HI.out.mod.size)
    obtain ⟨es, cl, hse, hsf⟩ := HI.out.set
    have HLB : Hid (W.heap.size + 1 < wr.heap.size ∧ W.heap.size < wr.heap.size) := Lib.hid ⟨heap_lt hse, heap_lt HI.out.box⟩
    have HM := Lib.hid HI.out.mod
    have HSE := Lib.hid (And.intro hse hsf)
    have HOK := Lib.hid HI.out.ok
    have HGS := Lib.hid HI.out.gs
    have HBX := Lib.hid HI.out.box
    clear HI hf hEl had hFB hse hsf
    go_upto_region 5 with fail
    clear e0 e1 e2 e3 e4
    obtain ⟨V1, hV1⟩ : ∃ V1, V1 = wr.alloc (.cells #[.string f.s, .string f.t, .int .i64 f.n, .int .i64 f.at_, .int .i64 f.slots] 77) := ⟨_, rfl⟩
    rw [← hV1]
    have bv : Below wr.heap.size wr V1 := by rw [hV1]; exact (Below.refl _ _).alloc (Nat.le_refl _) _
    have gx : V1.heap[wr.heap.size]? = some (.cells #[.string f.s, .string f.t, .int .i64 f.n, .int .i64 f.at_, .int .i64 f.slots] 77 (0, 0)) := by rw [hV1]; exact block_alloc _ _
    clear hV1
    have HBw := Lib.hid bv
    have HGX := Lib.hid gx
    obtain ⟨x0, x1, x2, x3, x4⟩ := five_of gx
    have HC1 := Lib.hid (May_any f.s HFB.out.s V1 (spansB (HEN.out.under (bv.mono HEN.out.le))))
    clear gx bv
    go_wp2_with fail
    refine HC1.out.mono ?_
    rintro e V2 ⟨rfl, b2⟩
    have hbw := HBw.out.trans (b2.mono HBw.out.size)
    have gx := (b2.block _ (heap_lt HGX.out)).trans HGX.out
    clear HBw HGX b2 x0 x1 x2 x3 x4
    have HBw := Lib.hid hbw
    have HGX := Lib.hid gx
    obtain ⟨x0, x1, x2, x3, x4⟩ := five_of gx
    clear hbw gx
    have HC2 := Lib.hid (May_any f.t HFB.out.t V2 (spansB (HEN.out.under (HBw.out.mono HEN.out.le))))
    cases h1 : nameB f.s 2
    case false =>
      have HF : Hid (R = false) := Lib.hid (by rw [HR.out]; exact fnsB_bad HFJ.out (by unfold fnB; simp [h1]))
      have HMw := Lib.hid (Mod.of_below (F := fun k => k = mb) HBw.out)
      have HGw := Lib.hid (HGS.out.keep HBw.out)
      go_wp2_with fail
      go_ret
      exact ⟨ret_bool HF.out.symm, HM.out.trans HMw.out (fun _ _ e => e), _, HGw.out, fun e => by rw [HF.out] at e; cases e⟩
    have H1 := Lib.hid h1
    clear h1
    go_wp2_with fail
    refine HC2.out.mono ?_
    rintro e V3 ⟨rfl, b2⟩
    have hbw := HBw.out.trans (b2.mono HBw.out.size)
    have gx := (b2.block _ (heap_lt HGX.out)).trans HGX.out
    clear HBw HGX b2 x0 x1 x2 x3 x4
    have HBw := Lib.hid hbw
    have HGX := Lib.hid gx
    obtain ⟨x0, x1, x2, x3, x4⟩ := five_of gx
    clear hbw gx
    have HC3 := Lib.hid (within_any f.n 0 8 V3)
    cases h2 : nameB f.t 2
    case false =>
      have HF : Hid (R = false) := Lib.hid (by rw [HR.out]; exact fnsB_bad HFJ.out (by unfold fnB; simp [h2]))
      have HMw := Lib.hid (Mod.of_below (F := fun k => k = mb) HBw.out)
      have HGw := Lib.hid (HGS.out.keep HBw.out)
      go_wp2_with fail
      go_ret
      exact ⟨ret_bool HF.out.symm, HM.out.trans HMw.out (fun _ _ e => e), _, HGw.out, fun e => by rw [HF.out] at e; cases e⟩
    have H2 := Lib.hid h2
    clear h2
    go_wp2_with fail
    refine HC3.out.mono ?_
    rintro e V9 ⟨rfl, rfl⟩
    have HC4 := Lib.hid (within_any f.slots f.n 32 V3)
    cases h3 : withinB f.n 0 8
    case false =>
      have HF : Hid (R = false) := Lib.hid (by rw [HR.out]; exact fnsB_bad HFJ.out (by unfold fnB; simp [h3]))
      have HMw := Lib.hid (Mod.of_below (F := fun k => k = mb) HBw.out)
      have HGw := Lib.hid (HGS.out.keep HBw.out)
      go_wp2_with fail
      go_ret
      exact ⟨ret_bool HF.out.symm, HM.out.trans HMw.out (fun _ _ e => e), _, HGw.out, fun e => by rw [HF.out] at e; cases e⟩
    have H3 := Lib.hid h3
    clear h3
    go_wp2_with fail
    refine HC4.out.mono ?_
    rintro e V9 ⟨rfl, rfl⟩
    cases h4 : withinB f.slots f.n 32
    case false =>
      have HF : Hid (R = false) := Lib.hid (by rw [HR.out]; exact fnsB_bad HFJ.out (by unfold fnB; simp [h4]))
      have HMw := Lib.hid (Mod.of_below (F := fun k => k = mb) HBw.out)
      have HGw := Lib.hid (HGS.out.keep HBw.out)
      go_wp2_with fail
      go_ret
      exact ⟨ret_bool HF.out.symm, HM.out.trans HMw.out (fun _ _ e => e), _, HGw.out, fun e => by rw [HF.out] at e; cases e⟩
    have HFN : Hid (fnB f = true) := Lib.hid (by unfold fnB; rw [H1.out, H2.out, H3.out, h4]; rfl)
    clear h4
    go_upto_region 8 with fail
    obtain ⟨V5, hV5⟩ : ∃ V5, V5 = V3.alloc (.cells #[.string f.s, .string f.t, .int .i64 f.n, .int .i64 0, .int .i64 0] 77) := ⟨_, rfl⟩
    rw [← hV5]
    have b5 : Below V3.heap.size V3 V5 := by rw [hV5]; exact (Below.refl _ _).alloc (Nat.le_refl _) _
    have gn : V5.heap[V3.heap.size]? = some (.cells #[.string f.s, .string f.t, .int .i64 f.n, .int .i64 0, .int .i64 0] 77 (0, 0)) := by rw [hV5]; exact block_alloc _ _
    clear hV5
    have hb5 := HBw.out.trans (b5.mono HBw.out.size)
    have gx := (b5.block _ (heap_lt HGX.out)).trans HGX.out
    have hse5 := (hb5.block _ HLB.out.1).trans HSE.out.1
    have hlk0 := HSE.out.2.look V5 (W.heap.size + 1) cl hse5 (fnK_ok HFB.out)
    have HB5 := Lib.hid hb5
    have HGN := Lib.hid gn
    have HGX5 := Lib.hid gx
    have HSE5 := Lib.hid hse5
    clear HBw HGX x0 x1 x2 x3 x4 b5 gx hse5
    obtain ⟨n0, n1, n2, n3, n4⟩ := five_of gn
    clear gn hb5
    simp only [fnV, fnK] at hlk0
    obtain ⟨bd, hbd, hlk⟩ : ∃ bd : Bool, (bd = true ↔ fnK f ∈ (x.fns.take j).map fnK) ∧ (Instr.lookup 154 (.map (some (W.heap.size + 1))) (.agg #[.string f.s, .string f.t, .int .i64 f.n, .int .i64 0, .int .i64 0]) true).run Tryz.prog V5 = .ok (.tuple #[.agg #[], .bool bd]) V5 := ⟨_, decide_eq_true_iff, hlk0⟩
    clear hlk0
    have HBD := Lib.hid hbd
    clear hbd
    cases bd
    case true =>
      have HF : Hid (R = false) := Lib.hid (by rw [HR.out]; exact fnsB_bad HFJ.out (by rw [HFN.out, decide_eq_true (HBD.out.1 rfl)]; rfl))
      have HB6 : Hid (Below wr.heap.size wr (V5.alloc (.cells #[] 157))) := Lib.hid (HB5.out.alloc HB5.out.size _)
      have HMw := Lib.hid (Mod.of_below (F := fun k => k = mb) HB6.out)
      have HGw := Lib.hid (HGS.out.keep HB6.out)
      go_wp2_with fail
      go_ret
      exact ⟨ret_bool HF.out.symm, HM.out.trans HMw.out (fun _ _ e => e), _, HGw.out, fun e => by rw [HF.out] at e; cases e⟩
    have HD : Hid (¬ fnK f ∈ (x.fns.take j).map fnK) := Lib.hid (fun h => by have := HBD.out.2 h; cases this)
    go_upto_region 11 with fail
    clear hlk n0 n1 n2 n3 n4
    obtain ⟨V6, hV6⟩ : ∃ V6, V6 = V5.alloc (.cells #[] 157) := ⟨_, rfl⟩
    rw [← hV6]
    have b6 : Below V5.heap.size V5 V6 := by rw [hV6]; exact (Below.refl _ _).alloc (Nat.le_refl _) _
    clear hV6
    have hb6 := HB5.out.trans (b6.mono HB5.out.size)
    obtain ⟨n0, n1, n2, n3, n4⟩ := five_of ((b6.block _ (heap_lt HGN.out)).trans HGN.out)
    have gx6 := (b6.block _ (heap_lt HGX5.out)).trans HGX5.out
    have hse6 := (b6.block _ (heap_lt HSE5.out)).trans HSE5.out
    obtain ⟨es2, c2, hput, hsf2⟩ := HSE.out.2.put V6 (W.heap.size + 1) cl hse6 (fnK_ok HFB.out)
    simp only [fnV, fnK] at hput
    obtain ⟨V7, hV7⟩ : ∃ V7, V7 = V6.putObj (W.heap.size + 1) (.map es2 c2) := ⟨_, rfl⟩
    rw [← hV7] at hput
    have m7 : Mod (fun k => k = W.heap.size + 1) V6 V7 := by rw [hV7]; exact Mod.putObj _ _ _ rfl
    have hs7 : V7.heap[W.heap.size + 1]? = some (.map es2 c2) := by rw [hV7]; exact World.putObj_heap_same (heap_lt hse6)
    have hwr6 := hb6.size
    have hg6 := HGS.out.keep hb6
    have hg7 : GS mb (S ++ (x.fns.take j).map Fn13.at_) V7 := by
      obtain ⟨q1, q2, q3, q4⟩ := hg6
      exact ⟨q1, q2, (m7.block _ (heap_lt q3) (by have := HMB.out; omega)).trans q3, q4⟩
    have hk6 := (hb6.block _ HLB.out.2).trans HBX.out
    have hk7 := (m7.block _ (heap_lt hk6) (by omega)).trans hk6
    have gx7 := (m7.block _ (heap_lt gx6) (by have := HLB.out.1; omega)).trans gx6
    have HC7 := Lib.hid (gather_one (some ad) x.fns.length ca B x.ops.length cb C x.tab.length cc mb f.at_ _ V7 hg7 hbA)
    have HM7 : Hid (Mod (fun k => k = mb) W V7) := Lib.hid ⟨m7.os.trans ((hb6.os).trans HM.out.os), m7.tape.trans ((hb6.tape).trans HM.out.tape), m7.output.trans ((hb6.output).trans HM.out.output), Nat.le_trans HM.out.size (Nat.le_trans hb6.size m7.size), fun k hk hne => (m7.block k (by have := HM.out.size; omega) (by omega)).trans ((hb6.block k (by have := HM.out.size; omega)).trans (HM.out.block k hk hne))⟩
    have HS7 := Lib.hid (And.intro hs7 hsf2)
    have HK7 := Lib.hid hk7
    have HL7 : Hid (W.heap.size + 1 < V7.heap.size ∧ W.heap.size < V7.heap.size) := Lib.hid ⟨heap_lt hs7, heap_lt hk7⟩
    clear hb6 b6 m7 hs7 hg6 hg7 hk6 gx6 hse6 hV7 hsf2 hwr6
    go_upto_region 12 with fail
    clear hput n0 n1 n2 n3 n4
    obtain ⟨x0, x1, x2, x3, x4⟩ := five_of gx7
    obtain ⟨y0, y1, y2, y3⟩ := c4 hk7
    clear gx7 hk7
    go_wp2_with fail
    refine HC7.out.mono ?_
    rintro e V8 ⟨rfl, g8, m8⟩
    have HI8 : Hid (FnI mb (W.heap.size + 1) W.heap.size S x.fns #[.slice (some ad) x.fns.length ca, .slice B x.ops.length cb, .slice C x.tab.length cc, .map (some mb)] 96 W V8 (j + 1)) := Lib.hid ⟨HM7.out.trans m8 (fun _ _ e => e), ⟨es2, c2, (m8.block _ HL7.out.1 (by have := HMB.out; omega)).trans HS7.out.1, by rw [List.take_add_one, HFJ.out, List.map_append]; exact HS7.out.2⟩, by rw [List.take_add_one, HFJ.out, List.map_append, ← List.append_assoc]; exact g8, (m8.block _ HL7.out.2 (by have := HMB.out; omega)).trans HK7.out, fnsB_next HFJ.out HOK.out (by rw [HFN.out, decide_eq_false HD.out]; rfl)⟩
    clear g8 m8 x0 x1 x2 x3 x4 y0 y1 y2 y3
    go_wp2_with fail
    go_roundw
    case rel => exact ⟨j + 1, by omega, by go_num, HI8⟩
    case measure => simp [intOf]; omega
end Go.Proofs.YtdimcddbmccniaaGreatDoor
end
