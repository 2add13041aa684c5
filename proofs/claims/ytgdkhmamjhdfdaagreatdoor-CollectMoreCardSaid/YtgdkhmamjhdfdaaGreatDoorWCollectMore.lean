/- pleachlaw05.CollectMore: the walk. -/
import Derived.Test.YtgdkhmamjhdfdaaGreatDoorCoWak
import Derived.Test.YtgdkhmamjhdfdaaGreatDoorBoth5
set_option linter.unusedVariables false
namespace Go.Proofs.YtgdkhmamjhdfdaaGreatDoor
open Go.RowKit

theorem MRow.later {w V : World} {A : Option Addr} {n cap : Nat} {l : List MkA} (h : MRow w.heap.size w A n cap l) (hb : Below w.heap.size w V) : MRow V.heap.size V A n cap l :=
  ⟨h.len, h.max, h.cap, fun j a hj => by
    obtain ⟨ad, e, hl, LA, Lc, h0, h2, h3, h4⟩ := h.at_ j a hj
    exact ⟨ad, e, Nat.lt_of_lt_of_le hl hb.size, LA, Lc, h0.keep (hb.block _ hl), h2.later hb, h3, h4⟩⟩
theorem allMay_app (N : Nat) (R M : List AW) : allMay N (R ++ M) = (allMay N R && allMay N M) := by unfold allMay; rw [List.all_append]
/-- What Reached answers. -/
def RAns (s : HSt) (R : List AW) (base : Nat) (w' : World) (v : Value) (E : Int) : Prop :=
  (allMay s.cs.length R = true ∧ E = 0 ∧ w'.ownsRow base 3 1 v (reachL s.cs (rootsOf R)).length ((reachL s.cs (rootsOf R)).map fun n : Nat => Value.int .i64 (n : Int))) ∨ (allMay s.cs.length R = false ∧ E = 2)
theorem Reached_ans {b0 hb : Nat} {s : HSt} (hg : HGood s.cs) (w : World) (h : s.At b0 w hb) (R : List AW) (A : Option Addr) (n cap : Nat) (hn : R.length = n) (hR : WRow (· < w.heap.size) w A n cap R) (hS : Spans w) (hl : n ≤ 1000000) :
    Calls Tryz.prog 13 #[.pointer (some ⟨hb, 0, none⟩), .slice A n cap] w fun e w' => ∃ v E, e = .returned (.tuple #[v, .int .i64 E]) ∧ RAns s R w.heap.size w' v E ∧ Below w.heap.size w w' := by
  subst hn
  refine (Reached_any hg w h R A cap cap hR hS hl).mono ?_
  rintro e w' ⟨b, (⟨h1, v, rfl, h2⟩ | ⟨h1, rfl⟩)⟩
  · exact ⟨v, 0, rfl, .inl ⟨h1, rfl, h2⟩, b⟩
  · exact ⟨_, 2, rfl, .inr ⟨h1, rfl⟩, b⟩
theorem mkmapB (w : World) : Sem.run Tryz.prog (Instr.makeMap 65 none) w = .ok (.map (some w.heap.size)) (w.alloc (.map #[] 0)) := by kernel_rfl
theorem more_sub {cs : List HC} {R M : List AW} (hg : HGood cs) (h1 : allMay cs.length R = true) (h2 : allMay cs.length (R ++ M) = true) {n : Nat} (hn : n ∈ reachL cs (rootsOf R)) : n ∈ reachL cs (rootsOf (R ++ M)) := by
  rw [reachL_mem hg (rootsOf_lt h2)]
  rw [reachL_mem hg (rootsOf_lt h1)] at hn
  refine hn.mono (fun n hn => ?_)
  obtain ⟨q, hq, h⟩ := rootsOf_mem.1 hn
  exact rootsOf_mem.2 ⟨q, List.mem_append_left _ hq, h⟩
theorem more_root {cs : List HC} {R M : List AW} {q : AW} (hg : HGood cs) (h2 : allMay cs.length ((R ++ M).map wordOf) = true) (hq : q ∈ M) (hc : q.c = true) : ∃ n : Nat, q.a = (n : Int) ∧ n ∈ reachL cs (rootsOf ((R ++ M).map wordOf)) := by
  have hw : wordOf q = ⟨true, q.a, iW 0⟩ := by unfold wordOf; rw [if_pos hc]
  have hm : wordOf q ∈ (R ++ M).map wordOf := List.mem_map.2 ⟨q, List.mem_append_right _ hq, rfl⟩
  have h := may_ref (List.all_eq_true.1 h2 _ hm) (by rw [hw])
  rw [hw] at h
  refine ⟨q.a.toNat, by have := h.1; dsimp only at this; omega, ?_⟩
  rw [reachL_mem hg (rootsOf_lt h2)]
  refine .root (rootsOf_mem.2 ⟨wordOf q, hm, by rw [hw], by rw [hw]⟩)

set_option maxRecDepth 100000 in
set_option maxHeartbeats 16000000 in
theorem walk_CollectMore (v0 v1 v2 : Value) (w : World) (o0 : ∃ A n cap l, v0 = .slice A n cap ∧ MRow w.heap.size w A n cap l) (o1 : ∃ A n cap L, v1 = .slice A n cap ∧ WRow (· < w.heap.size) w A n cap L ∧ n ≤ 140737488351232) (o2 : ∃ A n cap L, v2 = .slice A n cap ∧ WRow (· < w.heap.size) w A n cap L ∧ n ≤ 140737488351232) (hS : Spans w) :
    Calls Tryz.prog 5 #[v0, v1, v2] w fun e w' => e = .returned (.bool true) ∧ Below w.heap.size w w' := by
  obtain ⟨A, n, cap, l, rfl, hl⟩ := o0
  obtain ⟨B, m, bcap, R, rfl, hR, hRm⟩ := o1
  obtain ⟨C, k, ccap, M, rfl, hM, hMm⟩ := o2
  obtain rfl := hR.len
  obtain rfl := hM.len
  obtain rfl := hl.len
  have HL := Lib.hid hl
  have HR := Lib.hid hR
  have HM := Lib.hid hM
  have HS := Lib.hid hS
  have HG1 := Lib.hid (great5_any A B l.length cap R.length bcap l R w hl hR hRm)
  have HMM := Lib.hid (And.intro hRm hMm)
  clear hl hR hM hS hRm hMm
  go_enter Tryz.func5, Tryz.ntmps5
  go_wp2_with fail
  refine HG1.out.mono ?_
  rintro e W1 ⟨b1, rfl, hs1, bw1⟩
  have HB1 := Lib.hid bw1
  have HS1 := Lib.hid hs1
  clear hs1 bw1
  cases b1 with
  | true =>
    go_wp2_with fail
    refine (wakes5_ok W1 (HS.out.below HB1.out HS.out.lt)).mono ?_
    rintro e W2 ⟨rfl, bw⟩
    have HB2 := Lib.hid (HB1.out.trans (bw.mono HB1.out.size))
    clear bw
    go_wp2_with fail
    go_ret
    exact ⟨rfl, HB2.out⟩
  | false =>
  have hs1' := HS1.out rfl
  have HS1' := Lib.hid hs1'
  clear HS1 hs1'
  go_wp2_with fail
  refine (great5_any A C l.length cap M.length ccap l M W1 (HL.out.later HB1.out) (HM.out.later HB1.out) HMM.out.2).mono ?_
  rintro e W2 ⟨b2, rfl, hs2, bw2⟩
  have HB2 := Lib.hid (HB1.out.trans (bw2.mono HB1.out.size))
  have HS2 := Lib.hid hs2
  clear hs2 bw2
  cases b2 with
  | true =>
    go_wp2_with fail
    refine (wakes5_ok W2 (HS.out.below HB2.out HS.out.lt)).mono ?_
    rintro e W3 ⟨rfl, bw⟩
    have HB3 := Lib.hid (HB2.out.trans (bw.mono HB2.out.size))
    clear bw
    go_wp2_with fail
    go_ret
    exact ⟨rfl, HB3.out⟩
  | false =>
  have hs1 := HS1'.out
  have hs2 := HS2.out rfl
  have HN : Hid (R.length < 400 ∧ M.length < 400) := ⟨by have := hs1.1; omega, by have := hs2.1; omega⟩
  have HA := Lib.hid hs1.2
  clear hs1 hs2 HS1' HS2 HG1
  go_wp2_with fail
  refine (both_any A l.length cap l W2 (HL.out.later HB2.out) HA.out (HS.out.below HB2.out HS.out.lt)).mono ?_
  rintro e W3 ⟨rb, s, CS, G, rfl, ht, hcs, bw3⟩
  have HB3 := Lib.hid (HB2.out.trans (bw3.mono HB2.out.size))
  have HT3 := Lib.hid ht.hat
  have HOK := Lib.hid ht.ok
  obtain ⟨base, hbase⟩ : ∃ base, base = W2.heap.size := ⟨_, rfl⟩
  rw [← hbase] at HT3 ⊢
  clear ht hcs bw3 hbase
  go_wp2_with fail
  refine (words5_any (· < W3.heap.size) B R.length bcap R W3 (HR.out.later HB3.out) (fun _ h => h) (by have := HN.out.1; omega)).mono ?_
  rintro e W4 ⟨A4, cap4, rfl, hr4, bw4⟩
  have HR4 : Hid (WRow (· < W4.heap.size) W4 A4 R.length cap4 (R.map wordOf)) := hr4.keep (fun _ _ => rfl) (fun b hb => hb.elim (fun h => Nat.lt_of_lt_of_le h bw4.size) (fun h => h.2))
  have HB4 := Lib.hid (HB3.out.trans (bw4.mono HB3.out.size))
  have HT4 := Lib.hid (HT3.out.under bw4)
  clear hr4 bw4
  go_wp2_with fail
  refine (Reached_ans HOK.out.good W4 HT4.out (R.map wordOf) A4 R.length cap4 (by rw [List.length_map]) HR4.out (HS.out.below HB4.out HS.out.lt) (by have := HN.out.1; omega)).mono ?_
  rintro e W5 ⟨va, E1, rfl, hans1, bw5⟩
  have HB5 := Lib.hid (HB4.out.trans (bw5.mono HB4.out.size))
  have HT5 := Lib.hid (HT4.out.under bw5)
  have HW45 : Hid (W4.heap.size ≤ W5.heap.size) := bw5.size
  have HANS1 := Lib.hid hans1
  clear hans1 bw5 HR4 HT3
  obtain ⟨X0, hX0⟩ : ∃ X, X = W5.alloc (.cells #[] 29) := ⟨_, rfl⟩
  have bx0 : Below W5.heap.size W5 X0 := by rw [hX0]; exact (Below.refl _ _).alloc (Nat.le_refl _) _
  have gx0 : X0.heap[W5.heap.size]? = some (.cells #[] 29 (0, 0)) := by rw [hX0]; exact block_alloc _ _
  have HQ0 : Hid (QRow W5.heap.size X0 (.slice (some ⟨W5.heap.size, 0, none⟩) 0 0) []) := QRow.nil ⟨rfl, .inr ⟨W5.heap.size, 0, #[], rfl, Nat.le_refl _, gx0, Nat.le_refl _, by unfold maxLen; omega, rfl, rfl⟩⟩
  have HX0 := Lib.hid bx0
  clear bx0 gx0
  have hRB : WRow (· < W5.heap.size) X0 B R.length bcap R := (HR.out.later HB5.out).keep (fun b hb => HX0.out.block b hb) (fun _ h => h)
  have HRB := Lib.hid hRB
  clear hRB
  have hlen1 : ([] : List AW).length + R.length ≤ 1000 := by have := HN.out.1; simp; omega
  have hlen2 : ([] ++ R : List AW).length + M.length ≤ 1000 := by have := HN.out; simp; omega
  subst hX0
  go_wp2_with (at_builtin; refine wpList_app5 rfl (.tmp 47) (.tmp 48) rfl HQ0.out HX0.out.size rfl rfl HRB.out hlen1 ?_)
  intro V1 X1 bx1 hq1
  have HX1 := Lib.hid (HX0.out.trans bx1)
  have HQ1 := Lib.hid hq1
  have hMB : WRow (· < W5.heap.size) X1 C M.length ccap M := (HM.out.later HB5.out).keep (fun b hb => HX1.out.block b hb) (fun _ h => h)
  have HMB := Lib.hid hMB
  clear hMB bx1 hq1
  go_wp2_with (at_builtin; refine wpList_app5 rfl (.tmp 49) (.tmp 50) rfl HQ1.out HX1.out.size rfl rfl HMB.out hlen2 ?_)
  intro V2 X2 bx2 hq2'
  obtain ⟨RM, hRM⟩ : ∃ RM, RM = R ++ M := ⟨_, rfl⟩
  have hq2 : QRow W5.heap.size X2 V2 RM := by rw [hRM]; exact hq2'
  have HRM := Lib.hid hRM
  have HRL : Hid (RM.length ≤ 1000) := by have := HN.out; show RM.length ≤ 1000; rw [hRM, List.length_append]; omega
  clear hq2' hRM hlen1 hlen2
  have HX2 := Lib.hid (HX1.out.trans bx2)
  have HB6 : Hid (Below w.heap.size w X2) := HB5.out.trans (HX2.out.mono HB5.out.size)
  obtain ⟨QA, qcap, rfl, hqw⟩ := hq2.wrow HX2.out.size
  have HQ2 := Lib.hid hqw
  have HT6 := Lib.hid (HT5.out.under HX2.out)
  clear bx2 hq2 hqw HQ1 HQ0 HMB HRB HX0 HX1
  go_wp2_with fail
  refine (words5_any (· < X2.heap.size) QA RM.length qcap RM X2 HQ2.out (fun _ h => h) (by have := HRL.out; omega)).mono ?_
  rintro e W7 ⟨A7, cap7, rfl, hr7, bw7⟩
  have HR7 : Hid (WRow (· < W7.heap.size) W7 A7 RM.length cap7 (RM.map wordOf)) := hr7.keep (fun _ _ => rfl) (fun b hb => hb.elim (fun h => Nat.lt_of_lt_of_le h bw7.size) (fun h => h.2))
  have HB7 := Lib.hid (HB6.out.trans (bw7.mono HB6.out.size))
  have HX7 : Hid (Below W5.heap.size W5 W7) := HX2.out.trans (bw7.mono HX2.out.size)
  have HT7 := Lib.hid (HT6.out.under bw7)
  clear hr7 bw7 HQ2
  go_wp2_with fail
  refine (Reached_ans HOK.out.good W7 HT7.out (RM.map wordOf) A7 RM.length cap7 (by rw [List.length_map]) HR7.out (HS.out.below HB7.out HS.out.lt) (by have := HRL.out; omega)).mono ?_
  rintro e W8 ⟨vb, E2, rfl, hans2, bw8⟩
  have HB8 := Lib.hid (HB7.out.trans (bw8.mono HB7.out.size))
  have HT8 := Lib.hid (HT7.out.under bw8)
  have HX8 : Hid (Below W5.heap.size W5 W8) := HX7.out.trans (bw8.mono HX7.out.size)
  have HW78 : Hid (W7.heap.size ≤ W8.heap.size) := bw8.size
  clear bw8 HR7 HT6 HT7 HT4 HT5 HB6 HX7 HX2
  rcases hans2 with ⟨hall2, rfl, hrow2⟩ | ⟨hall2, rfl⟩
  case inr =>
    have HWK := Lib.hid (wakes5_ok W8 (HS.out.below HB8.out HS.out.lt))
    rcases HANS1.out with ⟨-, rfl, -⟩ | ⟨-, rfl⟩
    all_goals
      clear HANS1
      go_wp2_with fail
      refine HWK.out.mono ?_
      rintro e W9 ⟨rfl, bw⟩
      have HB9 := Lib.hid (HB8.out.trans (bw.mono HB8.out.size))
      clear bw
      go_wp2_with fail
      go_ret
      exact ⟨rfl, HB9.out⟩
  rw [HRM.out] at hall2 hrow2
  have hall2' := hall2
  rw [List.map_append, allMay_app, Bool.and_eq_true] at hall2'
  rcases HANS1.out with ⟨hall1, rfl, hrow1⟩ | ⟨hall1, rfl⟩
  case inr => rw [hall2'.1] at hall1; cases hall1
  clear HANS1 hall2'
  obtain ⟨L1, hL1⟩ : ∃ L, L = reachL s.cs (rootsOf (R.map wordOf)) := ⟨_, rfl⟩
  obtain ⟨L2, hL2⟩ : ∃ L, L = reachL s.cs (rootsOf ((R ++ M).map wordOf)) := ⟨_, rfl⟩
  have HSUB : Hid (∀ n, n ∈ L1 → n ∈ L2) := by
    show ∀ n, n ∈ L1 → n ∈ L2
    intro n hn
    rw [hL2, List.map_append]
    rw [hL1] at hn
    exact more_sub HOK.out.good hall1 (by rw [← List.map_append]; exact hall2) hn
  have HROOT : Hid (∀ q ∈ M, q.c = true → ∃ n : Nat, q.a = (n : Int) ∧ n ∈ L2) := by
    show ∀ q ∈ M, q.c = true → ∃ n : Nat, q.a = (n : Int) ∧ n ∈ L2
    intro q hq hc
    rw [hL2]
    exact more_root HOK.out.good hall2 hq hc
  have HUP : Hid (L2.Pairwise (· < ·)) := by show L2.Pairwise (· < ·); rw [hL2]; exact reachL_up _ _
  have HLT : Hid (∀ n ∈ L2, n < s.cs.length) := by
    show ∀ n ∈ L2, n < s.cs.length
    intro n hn
    rw [hL2] at hn
    exact ((reachL_mem HOK.out.good (rootsOf_lt hall2)).1 hn).lt HOK.out.good (rootsOf_lt hall2)
  have hl1 : L1.length ≤ 1048576 := by rw [hL1]; exact Nat.le_trans (shut_len (reachL_shut HOK.out.good (rootsOf_lt hall1))) HOK.out.good.len
  have hl2 : L2.length ≤ 1048576 := by rw [hL2]; exact Nat.le_trans (shut_len (reachL_shut HOK.out.good (rootsOf_lt hall2))) HOK.out.good.len
  have HLL := Lib.hid (And.intro hl1 hl2)
  have HLN8 := Lib.hid HOK.out.good.len
  rw [← hL1] at hrow1
  rw [← hL2] at hrow2
  obtain ⟨PA, pcap, rfl, hP1, hge1⟩ := PRow.of_own hrow1
  obtain ⟨PB, qcap2, rfl, hP2, hge2⟩ := PRow.of_own hrow2
  have HP1 := Lib.hid (hP1.keep HX8.out)
  have HP2 := Lib.hid hP2
  clear hrow1 hrow2 hP1 hP2 hge1 hge2 hL1 hL2 hall1 hall2 hl1 hl2
  have hmm := mkmapB W8
  obtain ⟨W9, hW9⟩ : ∃ X, X = W8.alloc (.map #[] 0) := ⟨_, rfl⟩
  have b9 : Below W8.heap.size W8 W9 := by rw [hW9]; exact (Below.refl _ _).alloc (Nat.le_refl _) _
  have g9 : W9.heap[W8.heap.size]? = some (.map #[] 0) := by rw [hW9]; exact block_alloc _ _
  have HB9 := Lib.hid (And.intro b9 g9)
  clear b9 g9
  go_wp2_with fail
  rw [← hW9]
  clear hW9 hmm
  have hll1 := HLL.out.1
  have hll2 := HLL.out.2
  go_loopw [70] (fun i wr => ∃ j : Nat, j ≤ L2.length ∧ i = .int .i64 j ∧ Hid (wr.heap[W8.heap.size]? = some (.map (entsV (setB (L2.take j))) j)) ∧ Hid (Below W8.heap.size W8 wr)) (fun i _ => L2.length - (intOf i).toNat)
  case atStart => exact ⟨0, Nat.zero_le _, rfl, HB9.out.2, HB9.out.1⟩
  case round =>
    clear HB9
    obtain ⟨j, hj, rfl, HMP, HBJ⟩ := hrel
    by_cases hlt : j < L2.length
    · obtain ⟨a, ha⟩ : ∃ a, L2[j]? = some a := ⟨L2[j], List.getElem?_eq_getElem hlt⟩
      obtain ⟨g, rfl, hc⟩ := HP2.out.row j a ha
      have hgl := HP2.out.lt g rfl
      have hkeep : wr.heap[g]? = W8.heap[g]? := HBJ.out.block g hgl
      have hat : ∀ (i : Nat) (x : Nat), L2[i]? = some x → wr.cell? ⟨g, i, none⟩ = some (.int .i64 (x : Int)) := fun i x hx => by
        obtain ⟨g', e, hc'⟩ := HP2.out.row i x hx
        cases e
        exact (World.cell?_of_block (w := W8) (a := ⟨g, i, none⟩) hkeep).trans hc'
      have hadd : ∀ i : Nat, (⟨g, 0, none⟩ : Addr).add i = ⟨g, i, none⟩ := fun i => by unfold Addr.add; split <;> simp_all
      have c1 : wr.cell? ⟨g, j, none⟩ = some (.int .i64 (a : Int)) := hat j a ha
      have c2 : wr.cell? ((⟨g, 0, none⟩ : Addr).add j) = some (.int .i64 (a : Int)) := by rw [hadd]; exact c1
      have hno : Instr.findNow (.int .i64) (.int .i64 (a : Int)) (entsV (setB (L2.take j))).toList 0 = some none := setB_miss (fun hm => by
        obtain ⟨i, hi, e⟩ := List.mem_iff_getElem.1 hm
        rw [List.getElem_take] at e
        have hij : i < j := by rw [List.length_take] at hi; omega
        have := (up_at HUP.out (i := i) (j := j) (a := a) (b := a) (by rw [← e]; exact List.getElem?_eq_getElem _) ha).1 hij
        omega)
      have haN : a < s.cs.length := HLT.out a (List.mem_of_getElem? ha)
      have hcl := HLN8.out
      have hlen0 : decide ((a : Int) ≥ (s.cs.length : Int)) = false := by rw [decide_eq_false_iff_not]; omega
      have hlen1 : ¬ ((s.cs.length : Int) ≤ (a : Int)) := by omega
      have hneg : ¬ ((a : Int) < 0) := by omega
      have hput := put2_new (P := Tryz.prog) Tryz.underlying65 Tryz.underlying3 wr W8.heap.size _ _ (a : Int) (.bool true) HMP.out hno
      have hX : (wr.putObj W8.heap.size (.map ((entsV (setB (L2.take j))).push ⟨.int .i64 (a : Int), .bool true, j⟩) (j + 1))).heap[W8.heap.size]? = some (.map (entsV (setB (L2.take (j + 1)))) (j + 1)) := by
        rw [World.putObj_heap_same (heap_lt HMP.out)]
        have e1 : setB (L2.take (j + 1)) = setB (L2.take j) ++ [(a, .bool true)] := by unfold setB; rw [List.take_add_one, ha]; simp
        have e2 : (setB (L2.take j)).length = j := by unfold setB; rw [List.length_map, List.length_take]; omega
        rw [e1, entsV_snoc, e2]
      have hmX : Below W8.heap.size W8 (wr.putObj W8.heap.size (.map ((entsV (setB (L2.take j))).push ⟨.int .i64 (a : Int), .bool true, j⟩) (j + 1))) := HBJ.out.trans ((Mod.putObj (F := fun k => k = W8.heap.size) _ _ _ rfl).below HBJ.out.size (fun i (e : i = W8.heap.size) => by omega))
      obtain ⟨X, hXe⟩ : ∃ X, X = wr.putObj W8.heap.size (.map ((entsV (setB (L2.take j))).push ⟨.int .i64 (a : Int), .bool true, j⟩) (j + 1)) := ⟨_, rfl⟩
      rw [← hXe] at hX hmX hput
      have HX := Lib.hid hX
      have HMX := Lib.hid hmX
      have HLN := Lib.hid (Len_any wr (HT8.out.under HBJ.out))
      by_cases hj0 : j = 0
      · subst hj0
        clear hno hX hmX hXe hkeep hc ha hat hadd hgl haN hcl HLN8
        go_wp2_with (refine HLN.out.mono ?_; rintro e w' ⟨rfl, hq⟩; subst w')
        go_roundw
        case rel => exact ⟨1, by omega, by go_num, HX, HMX⟩
        case measure => simp [intOf]; omega
      · obtain ⟨i, rfl⟩ : ∃ i, j = i + 1 := ⟨j - 1, by omega⟩
        obtain ⟨a', ha'⟩ : ∃ a', L2[i]? = some a' := ⟨L2[i], List.getElem?_eq_getElem (by omega)⟩
        have d1 : wr.cell? ⟨g, i, none⟩ = some (.int .i64 (a' : Int)) := hat i a' ha'
        have d2 : wr.cell? ((⟨g, 0, none⟩ : Addr).add i) = some (.int .i64 (a' : Int)) := by rw [hadd]; exact d1
        have hup := (up_at HUP.out (i := i) (j := i + 1) ha' ha).1 (by omega)
        have hle : ¬ ((a : Int) ≤ (a' : Int)) := by omega
        clear hno hX hmX hXe hkeep hc ha ha' hat hadd hgl haN hcl HLN8
        go_wp2_with (refine HLN.out.mono ?_; rintro e w' ⟨rfl, hq⟩; subst w')
        go_roundw
        case rel => exact ⟨i + 1 + 1, by omega, by go_num, HX, HMX⟩
        case measure => simp [intOf]; omega
    · obtain rfl : j = L2.length := by omega
      have hmap : wr.heap[W8.heap.size]? = some (.map (entsV (setB L2)) L2.length) := by
        have := HMP.out
        rwa [List.take_of_length_le (Nat.le_refl _)] at this
      have HMAP := Lib.hid hmap
      have HBW := Lib.hid HBJ.out
      clear hmap HMP HBJ
      obtain ⟨W10, hW10⟩ : ∃ X, X = wr := ⟨_, rfl⟩
      subst hW10
      go_wp2_with fail
      go_loopw [101] (fun i wq => ∃ j : Nat, j ≤ L1.length ∧ i = .int .i64 j ∧ Hid (Below W10.heap.size W10 wq)) (fun i _ => L1.length - (intOf i).toNat)
      case atStart => exact ⟨0, Nat.zero_le _, rfl, Below.refl _ _⟩
      case round =>
        obtain ⟨j1, hj1, rfl, HBQ⟩ := hrel
        by_cases hlt1 : j1 < L1.length
        · obtain ⟨a, ha⟩ : ∃ a, L1[j1]? = some a := ⟨L1[j1], List.getElem?_eq_getElem hlt1⟩
          obtain ⟨g, rfl, hc⟩ := HP1.out.row j1 a ha
          have hgl := HP1.out.lt g rfl
          have c1 : wr.cell? ⟨g, j1, none⟩ = some (.int .i64 (a : Int)) := (World.cell?_of_block (w := W8) (a := ⟨g, j1, none⟩) ((HBQ.out.block g (Nat.lt_of_lt_of_le hgl HBW.out.size)).trans (HBW.out.block g hgl))).trans hc
          have c2 : wr.cell? ((⟨g, 0, none⟩ : Addr).add j1) = some (.int .i64 (a : Int)) := by rw [show (⟨g, 0, none⟩ : Addr).add j1 = ⟨g, j1, none⟩ by unfold Addr.add; split <;> simp_all]; exact c1
          have hmp : wr.heap[W8.heap.size]? = some (.map (entsV (setB L2)) L2.length) := (HBQ.out.block _ (heap_lt HMAP.out)).trans HMAP.out
          obtain ⟨jj, hn⟩ := setB_hit (HSUB.out a (List.mem_of_getElem? ha))
          have hlk : (Instr.lookup 65 (.map (some W8.heap.size)) (.int .i64 (a : Int)) false).run Tryz.prog wr = .ok (.bool true) wr := by
            simpa using look2_hit (P := Tryz.prog) Tryz.underlying65 Tryz.underlying3 wr W8.heap.size _ _ (a : Int) jj _ hmp hn false
          clear hmp hn hc ha hgl
          go_wp2_with fail
          go_roundw
          case rel => exact ⟨j1 + 1, by omega, by go_num, HBQ⟩
          case measure => simp [intOf]; omega
        · obtain rfl : j1 = L1.length := by omega
          have HBX := Lib.hid (HBW.out.trans (HBQ.out.mono HBW.out.size))
          have HMQ : Hid (wr.heap[W8.heap.size]? = some (.map (entsV (setB L2)) L2.length)) := (HBQ.out.block _ (heap_lt HMAP.out)).trans HMAP.out
          have hmn := HN.out.2
          clear HBQ HMAP HBW
          obtain ⟨W11, hW11⟩ : ∃ X, X = wr := ⟨_, rfl⟩
          subst hW11
          go_wp2_with fail
          go_loopw [112] (fun i wq => ∃ j : Nat, j ≤ M.length ∧ i = .int .i64 j ∧ Hid (Below W11.heap.size W11 wq)) (fun i _ => M.length - (intOf i).toNat)
          case atStart => exact ⟨0, Nat.zero_le _, rfl, Below.refl _ _⟩
          case round =>
            obtain ⟨j2, hj2, rfl, HBQ⟩ := hrel
            have HB3w : Hid (Below w.heap.size w wr) := HB8.out.trans ((HBX.out.trans (HBQ.out.mono HBX.out.size)).mono HB8.out.size)
            by_cases hlt2 : j2 < M.length
            · obtain ⟨y, hy⟩ : ∃ y, M[j2]? = some y := ⟨M[j2], List.getElem?_eq_getElem hlt2⟩
              obtain ⟨ad, u, rfl, had, hE, k', n', s', t', A', l', c', rfl, hT⟩ := HM.out.at_ j2 y hy
              obtain ⟨c0, c1, c2, c3, c4, c5, c6, hcc, e0, e1, e2, e3, e4, e5, e6⟩ := hE.keep (HB3w.out.block _ had)
              simp only [Value.agg.injEq, Array.mk.injEq, List.cons.injEq, and_true] at hcc
              obtain ⟨rfl, rfl, rfl, rfl, rfl, rfl, rfl⟩ := hcc
              have HRT := Lib.hid (HROOT.out y (List.mem_of_getElem? hy))
              obtain ⟨qc, qa, qx⟩ := y
              dsimp only at HRT e0 e1
              obtain ⟨Y, hY⟩ : ∃ Y, Y = wr.alloc (.cells #[.bool qc, .int .i64 qa, .int .i8 k', .int .i64 n', .string s', .string t', .slice A' l' c'] 29) := ⟨_, rfl⟩
              have bY : Below wr.heap.size wr Y := by rw [hY]; exact (Below.refl _ _).alloc (Nat.le_refl _) _
              have gY : Y.heap[wr.heap.size]? = some (.cells #[.bool qc, .int .i64 qa, .int .i8 k', .int .i64 n', .string s', .string t', .slice A' l' c'] 29 (0, 0)) := by rw [hY]; exact block_alloc _ _
              have y0 : Y.cell? ⟨wr.heap.size, 0, none⟩ = some (.bool qc) := cell_of_row gY rfl
              have y1 : Y.cell? ⟨wr.heap.size, 1, none⟩ = some (.int .i64 qa) := cell_of_row gY rfl
              have HBY := Lib.hid (HBQ.out.trans (bY.mono HBQ.out.size))
              have hmp : Y.heap[W8.heap.size]? = some (.map (entsV (setB L2)) L2.length) := (HBY.out.block _ (heap_lt HMQ.out)).trans HMQ.out
              cases qc with
              | false =>
                clear hmp hy had hE hT gY bY HRT
                subst hY
                go_wp2_with fail
                go_roundw
                case rel => exact ⟨j2 + 1, by omega, by go_num, HBY⟩
                case measure => simp [intOf]; omega
              | true =>
                obtain ⟨a, rfl, ham⟩ := HRT.out rfl
                obtain ⟨jj, hn⟩ := setB_hit ham
                have hlk : (Instr.lookup 65 (.map (some W8.heap.size)) (.int .i64 (a : Int)) false).run Tryz.prog Y = .ok (.bool true) Y := by
                  simpa using look2_hit (P := Tryz.prog) Tryz.underlying65 Tryz.underlying3 Y W8.heap.size _ _ (a : Int) jj _ hmp hn false
                clear hmp hy had hE hT gY bY HRT hn ham
                subst hY
                go_wp2_with fail
                go_roundw
                case rel => exact ⟨j2 + 1, by omega, by go_num, HBY⟩
                case measure => simp [intOf]; omega
            · obtain rfl : j2 = M.length := by omega
              have HWK := Lib.hid (wakes5_ok wr (HS.out.below HB3w.out HS.out.lt))
              go_wp2_with fail
              refine HWK.out.mono ?_
              rintro e w9 ⟨rfl, bw⟩
              have HBE := Lib.hid (HB3w.out.trans (bw.mono HB3w.out.size))
              clear bw
              go_wp2_with fail
              go_ret
              exact ⟨rfl, HBE.out⟩
end Go.Proofs.YtgdkhmamjhdfdaaGreatDoor
