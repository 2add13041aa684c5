/- The document's own answers of layer 7: Word, Atom. -/
import Derived.Test.YtndihgdhpfjgmaaGreatDoorKElT
import Derived.Test.YtndihgdhpfjgmaaGreatDoorKCd1
import Derived.Test.YtndihgdhpfjgmaaGreatDoorKStN
import Derived.Test.YtndihgdhpfjgmaaGreatDoorKAstT
import Derived.Test.YtndihgdhpfjgmaaGreatDoorKRulP
section
set_option linter.unusedVariables false
set_option linter.unusedSimpArgs false
namespace Go.Proofs.YtndihgdhpfjgmaaGreatDoor
open Go.RowKit

theorem tl_eq {a b : ByteArray} : a.toList = b.toList ↔ a = b := by
  rw [Go.Lib.toList_data, Go.Lib.toList_data]
  exact ⟨fun h => by cases a; cases b; simp only at h; rw [Array.toList_inj.1 h], fun h => by rw [h]⟩
def FMt (s t : ByteArray) (n : Int) (f : Fn13) : Prop := f.s = s ∧ f.t = t ∧ f.n = n
theorem findP_at {s t : ByteArray} {n : Int} : ∀ {l : List Fn13} {j : Nat} {f : Fn13}, l[j]? = some f → (∀ i g, i < j → l[i]? = some g → ¬ FMt s t n g) → FMt s t n f → findP l s t n = some j
  | [], j, f, h, _, _ => by simp at h
  | a :: l, 0, f, h, _, hm => by
    simp only [List.getElem?_cons_zero, Option.some.injEq] at h
    subst h
    unfold findP
    exact if_pos hm
  | a :: l, j + 1, f, h, hn, hm => by
    have h0 : ¬ (a.s = s ∧ a.t = t ∧ a.n = n) := hn 0 a (Nat.succ_pos _) rfl
    unfold findP
    rw [if_neg h0, findP_at (l := l) (j := j) (f := f) (by simpa using h) (fun i g hi hg => hn (i + 1) g (by omega) (by simpa using hg)) hm]
    rfl
theorem findP_no {s t : ByteArray} {n : Int} {l : List Fn13} (hn : ∀ i g, i < l.length → l[i]? = some g → ¬ FMt s t n g) : findP l s t n = none := by
  rw [findP_none]
  intro f hf
  obtain ⟨i, hi⟩ := List.mem_iff_getElem?.1 hf
  exact hn i f (List.getElem?_eq_some_iff.1 hi).1 hi
structure FBx (s t : ByteArray) (n : Int) (sb tb nb : Nat) (W : World) : Prop where
  s : ∃ T, W.heap[sb]? = some (.cells #[.string s] T (0, 0))
  t : ∃ T, W.heap[tb]? = some (.cells #[.string t] T (0, 0))
  n : ∃ T, W.heap[nb]? = some (.cells #[.int .i64 n] T (0, 0))
theorem FBx.keep {s t : ByteArray} {n : Int} {sb tb nb : Nat} {W V : World} (h : FBx s t n sb tb nb W) (b : Below W.heap.size W V) : FBx s t n sb tb nb V := by
  obtain ⟨⟨T, h1⟩, ⟨T2, h2⟩, ⟨T3, h3⟩⟩ := h
  exact ⟨⟨T, (b.block _ (heap_lt h1)).trans h1⟩, ⟨T2, (b.block _ (heap_lt h2)).trans h2⟩, ⟨T3, (b.block _ (heap_lt h3)).trans h3⟩⟩
set_option maxHeartbeats 4000000 in
set_option maxRecDepth 100000 in
theorem find1_any (f : Fn13) (s t : ByteArray) (n : Int) (sb tb nb : Nat) (W : World) (hF : FBx s t n sb tb nb W) :
    Calls Tryz.prog 23 #[fn13V f, .pointer (some ⟨sb, 0, none⟩), .pointer (some ⟨tb, 0, none⟩), .pointer (some ⟨nb, 0, none⟩)] W fun e w' => (∃ b : Bool, e = .returned (.bool b) ∧ (b = true ↔ FMt s t n f)) ∧ Below W.heap.size W w' := by
  obtain ⟨W1, hW1⟩ : ∃ W1, W1 = W.alloc (.cells #[.string f.s, .string f.t, .int .i64 f.n, .int .i64 f.at_, .int .i64 f.slots] 33) := ⟨_, rfl⟩
  have b1 : Below W.heap.size W W1 := by rw [hW1]; exact (Below.refl _ W).alloc (Nat.le_refl _) _
  have g1 : W1.heap[W.heap.size]? = some (.cells #[.string f.s, .string f.t, .int .i64 f.n, .int .i64 f.at_, .int .i64 f.slots] 33 (0, 0)) := by rw [hW1]; exact block_alloc _ _
  obtain ⟨⟨T1, k1⟩, ⟨T2, k2⟩, ⟨T3, k3⟩⟩ := hF.keep b1
  obtain ⟨x0, x1, x2, x3, x4⟩ := five_of g1
  have y0 : W1.cell? ⟨sb, 0, none⟩ = some (.string s) := cell_of_row (i := 0) k1 rfl
  have y1 : W1.cell? ⟨tb, 0, none⟩ = some (.string t) := cell_of_row (i := 0) k2 rfl
  have y2 : W1.cell? ⟨nb, 0, none⟩ = some (.int .i64 n) := cell_of_row (i := 0) k3 rfl
  have HB1 := Lib.hid b1
  unfold fn13V
  clear hF b1 g1 k1 k2 k3
  by_cases h1 : f.s = s
  · by_cases h2 : f.t = t
    · by_cases h3 : f.n = n
      · have HM : Hid (FMt s t n f) := Lib.hid ⟨h1, h2, h3⟩
        have q1 : (f.s.toList == s.toList) = true := beq_iff_eq.2 (tl_eq.2 h1)
        have q2 : (f.t.toList == t.toList) = true := beq_iff_eq.2 (tl_eq.2 h2)
        have q3 : (f.n == n) = true := beq_iff_eq.2 h3
        clear h1 h2 h3
        go_enter Tryz.func23, Tryz.ntmps23
        go_upto_region 1 with fail
        rw [← hW1]
        clear hW1
        go_wp2_with fail
        go_ret
        exact ⟨⟨_, rfl, fun _ => HM.out, fun _ => by simp_all⟩, HB1.out⟩
      · have HM : Hid (¬ FMt s t n f) := Lib.hid (fun h => h3 h.2.2)
        have q1 : (f.s.toList == s.toList) = true := beq_iff_eq.2 (tl_eq.2 h1)
        have q2 : (f.t.toList == t.toList) = true := beq_iff_eq.2 (tl_eq.2 h2)
        have q3 : (f.n == n) = false := beq_eq_false_iff_ne.2 h3
        clear h1 h2 h3
        go_enter Tryz.func23, Tryz.ntmps23
        go_upto_region 1 with fail
        rw [← hW1]
        clear hW1
        go_wp2_with fail
        go_ret
        exact ⟨⟨_, rfl, fun h => by simp_all, fun h => absurd h HM.out⟩, HB1.out⟩
    · have HM : Hid (¬ FMt s t n f) := Lib.hid (fun h => h2 h.2.1)
      have q1 : (f.s.toList == s.toList) = true := beq_iff_eq.2 (tl_eq.2 h1)
      have q2 : (f.t.toList == t.toList) = false := beq_eq_false_iff_ne.2 (fun e => h2 (tl_eq.1 e))
      clear h1 h2
      go_enter Tryz.func23, Tryz.ntmps23
      go_upto_region 1 with fail
      rw [← hW1]
      clear hW1
      go_wp2_with fail
      go_ret
      exact ⟨⟨_, rfl, fun h => by simp_all, fun h => absurd h HM.out⟩, HB1.out⟩
  · have HM : Hid (¬ FMt s t n f) := Lib.hid (fun h => h1 h.1)
    have q1 : (f.s.toList == s.toList) = false := beq_eq_false_iff_ne.2 (fun e => h1 (tl_eq.1 e))
    clear h1
    go_enter Tryz.func23, Tryz.ntmps23
    go_upto_region 1 with fail
    rw [← hW1]
    clear hW1
    go_wp2_with fail
    go_ret
    exact ⟨⟨_, rfl, fun h => by simp_all, fun h => absurd h HM.out⟩, HB1.out⟩
def fIdx (o : Option Nat) : Int := match o with | some k => k | none => -1
set_option maxHeartbeats 4000000 in
set_option maxRecDepth 100000 in
theorem idxF13_any (l : List Fn13) (A : Option Addr) (cap : Nat) (s t : ByteArray) (n : Int) (sb tb nb : Nat) (W : World) (hR : FRow (· < W.heap.size) W A l.length cap l) (hF : FBx s t n sb tb nb W) :
    Calls Tryz.prog 22 #[.slice A l.length cap, .func (.func 23) #[] #[.pointer (some ⟨sb, 0, none⟩), .pointer (some ⟨tb, 0, none⟩), .pointer (some ⟨nb, 0, none⟩)]] W
      fun e w' => e = .returned (.int .i64 (fIdx (findP l s t n))) ∧ Below W.heap.size W w' := by
  have hmax := hR.max
  unfold maxLen at hmax
  have HR := Lib.hid hR
  have HF := Lib.hid hF
  clear hR hF
  go_enter Tryz.func22, Tryz.ntmps22
  go_wp2_with fail
  go_loopw [8] (fun i wr => ∃ j : Nat, j ≤ l.length ∧ i = .int .i64 j ∧ Hid (∀ i g, i < j → l[i]? = some g → ¬ FMt s t n g) ∧ Hid (Below W.heap.size W wr)) (fun i _ => l.length - (intOf i).toNat)
  case atStart => exact ⟨0, Nat.zero_le _, rfl, Lib.hid (fun i g hi => by omega), Lib.hid (Below.refl _ _)⟩
  case round =>
    obtain ⟨j, hj, rfl, HM, HB⟩ := hrel
    by_cases hlt : j < l.length
    · obtain ⟨f, hf⟩ : ∃ f, l[j]? = some f := ⟨l[j], List.getElem?_eq_getElem hlt⟩
      obtain ⟨ad, hA, had, hEl, hFB⟩ := HR.out.at_ j f hf
      subst hA
      obtain ⟨d0, d1, d2, d3, d4, hcc, e0, e1, e2, e3, e4⟩ := hEl.keep (HB.out.block _ had)
      simp only [fn13V, Value.agg.injEq, Array.mk.injEq, List.cons.injEq, and_true] at hcc
      obtain ⟨rfl, rfl, rfl, rfl, rfl⟩ := hcc
      have HC := Lib.hid (find1_any f s t n sb tb nb wr (HF.out.keep HB.out))
      have HFJ := Lib.hid hf
      clear hf had hEl hFB
      unfold fn13V at HC
      go_wp2_with fail
      refine HC.out.mono ?_
      rintro e V ⟨⟨b, rfl, hb⟩, bV⟩
      have HBV := Lib.hid (HB.out.trans (bV.mono HB.out.size))
      have HBB := Lib.hid hb
      clear hb bV e0 e1 e2 e3 e4
      cases b
      · go_wp2_with fail
        go_roundw
        case rel =>
          refine ⟨j + 1, by omega, by go_num, Lib.hid (fun i g hi hg => ?_), HBV⟩
          by_cases hij : i < j
          · exact HM.out i g hij hg
          · obtain rfl : i = j := by omega
            rw [HFJ.out] at hg
            cases hg
            exact fun hm => by have := HBB.out.2 hm; cases this
        case measure => simp [intOf]; omega
      · have HE : Hid (findP l s t n = some j) := Lib.hid (findP_at HFJ.out HM.out (HBB.out.1 rfl))
        go_wp2_with fail
        go_ret
        refine ⟨?_, HBV.out⟩
        rw [HE.out]
        rfl
    · have HE : Hid (findP l s t n = none) := Lib.hid (findP_no (fun i g hi hg => HM.out i g (by omega) hg))
      go_wp2_with fail
      go_ret
      refine ⟨?_, HB.out⟩
      rw [HE.out]
      rfl
theorem findP_lt {s t : ByteArray} {n : Int} : ∀ {l : List Fn13} {k : Nat}, findP l s t n = some k → k < l.length
  | [], k, h => by simp [findP] at h
  | a :: l, k, h => by
    unfold findP at h
    split at h
    · cases h; simp
    · obtain ⟨m, hm, rfl⟩ := Option.map_eq_some_iff.1 h
      have := findP_lt hm
      simp; omega
set_option maxHeartbeats 4000000 in
set_option maxRecDepth 100000 in
theorem find13_any (x : Pg) (A : Option Addr) (ca : Nat) (B : Option Addr) (cb : Nat) (C : Option Addr) (cc : Nat) (s t : ByteArray) (n : Int) (W : World) (hX : PgAt (· < W.heap.size) W x A ca B cb C cc) :
    Calls Tryz.prog 10 #[.agg #[.slice A x.fns.length ca, .slice B x.ops.length cb, .slice C x.tab.length cc], .string s, .string t, .int .i64 n] W fun e w' => e = .returned (.tuple #[.int .i64 (match findP x.fns s t n with | some k => (k : Int) | none => 0), .bool (findP x.fns s t n).isSome]) ∧ Below W.heap.size W w' := by
  obtain ⟨W1, hW1⟩ : ∃ W1, W1 = (W.alloc (.cells #[.slice A x.fns.length ca, .slice B x.ops.length cb, .slice C x.tab.length cc] 26)).alloc (.cells #[.string s] 9) := ⟨_, rfl⟩
  obtain ⟨W2, hW2⟩ : ∃ W2, W2 = (W1.alloc (.cells #[.string t] 9)).alloc (.cells #[.int .i64 n] 3) := ⟨_, rfl⟩
  obtain ⟨g0, g1, b1, z1⟩ := two13 W _ _ W1 hW1
  obtain ⟨g2, g3, b2, z2⟩ := two13 W1 _ _ W2 hW2
  have h0 := (b2.block _ (heap_lt g0)).trans g0
  have h1 := (b2.block _ (heap_lt g1)).trans g1
  rw [z1] at g2 g3
  have hb := b1.trans (b2.mono b1.size)
  obtain ⟨p0, p1, p2⟩ := c3 h0
  have HC := Lib.hid (idxF13_any x.fns A ca s t n (W.heap.size + 1) (W.heap.size + 2) (W.heap.size + 2 + 1) W2 (hX.later hb).fns ⟨⟨_, h1⟩, ⟨_, g2⟩, ⟨_, g3⟩⟩)
  have HB := Lib.hid hb
  have hkm := hX.fns.max
  unfold maxLen at hkm
  clear hX g0 g1 b1 z1 g2 g3 b2 z2 h0 h1 hb
  obtain ⟨o, ho⟩ : ∃ o, o = findP x.fns s t n := ⟨_, rfl⟩
  have hol : ∀ k, o = some k → k < x.fns.length := fun k hk => findP_lt (ho.symm.trans hk)
  rw [← ho] at HC ⊢
  clear ho
  go_enter Tryz.func10, Tryz.ntmps10
  go_upto_region 1 with fail
  rw [← hW1, ← hW2]
  clear hW1 hW2
  go_wp2_with fail
  refine HC.out.mono ?_
  rintro e V ⟨rfl, bV⟩
  have HBV := Lib.hid (HB.out.trans (bV.mono HB.out.size))
  clear bV
  cases o with
  | none =>
    go_wp2_with fail
    refine bodyPost_ret (v := .tuple #[.int .i64 0, .bool false]) (by simp [results, Tryz.f10, go_sem]) rfl ?_
    exact ⟨rfl, HBV.out⟩
  | some k =>
    have hk0 : ¬ ((k : Int) < 0) := by omega
    go_wp2_with fail
    refine bodyPost_ret (v := .tuple #[.int .i64 k, .bool true]) (by simp [results, Tryz.f10, go_sem, fIdx]) rfl ?_
    exact ⟨rfl, HBV.out⟩
end Go.Proofs.YtndihgdhpfjgmaaGreatDoor
end
section
set_option linter.unusedVariables false
set_option linter.unusedSimpArgs false
namespace Go.Proofs.YtndihgdhpfjgmaaGreatDoor
open Go.RowKit

theorem info_fn13 : (Tryz.prog.info? 33).map (fun i => (i.zero, i.size, i.bytes)) = some (some (.agg #[.string ⟨#[]⟩, .string ⟨#[]⟩, .int .i64 0, .int .i64 0, .int .i64 0]), 5, 56) := by kernel_rfl
theorem fnV_five (hs : List Fn13) : ∀ u ∈ hs.map fn13V, FiveN u := by
  intro u hu
  obtain ⟨f, _, rfl⟩ := List.mem_map.1 hu
  exact ⟨_, _, _, _, _, rfl⟩
def OwnF (base : Nat) (w : World) (v : Value) (hs : List Fn13) : Prop := w.ownsRow base 33 5 v hs.length (flatN (hs.map fn13V))
theorem OwnF.nil {base g : Nat} {w : World} (hg : w.heap[g]? = some (.cells #[] 33 (0, 0))) (hb : base ≤ g) : OwnF base w (.slice (some ⟨g, 0, none⟩) 0 0) [] :=
  ⟨rfl, .inr ⟨g, 0, _, rfl, hb, hg, Nat.le_refl _, by decide, rfl, rfl⟩⟩
def RowF (w : World) (A : Option Addr) (ys : List Fn13) : Prop := ∀ j f, ys[j]? = some f → ∃ ad, A = some ad ∧ ElemAt w ad j (fn13V f)
theorem FRow.rowF {P : Nat → Prop} {w : World} {A : Option Addr} {n cap : Nat} {l : List Fn13} (h : FRow P w A n cap l) : RowF w A l := fun j f hj => by obtain ⟨ad, e, _, q, _⟩ := h.at_ j f hj; exact ⟨ad, e, q⟩
theorem RowF.one {g : Nat} {w : World} {f : Fn13} {T : TypeId} (hg : w.heap[g]? = some (.cells #[.string f.s, .string f.t, .int .i64 f.n, .int .i64 f.at_, .int .i64 f.slots] T (0, 0))) : RowF w (some ⟨g, 0, none⟩) [f] := fun j y hj => by
  match j, hj with
  | 0, hj =>
    simp at hj; subst hj
    exact ⟨_, rfl, _, _, _, _, _, rfl, cell_of_row (i := 0) hg rfl, cell_of_row (i := 1) hg rfl, cell_of_row (i := 2) hg rfl, cell_of_row (i := 3) hg rfl, cell_of_row (i := 4) hg rfl⟩
  | j + 1, hj => simp at hj
theorem RowF.flat {w : World} {ad : Addr} {l : List Fn13} (h : RowF w (some ad) l) : ∀ i u, (flatN (l.map fn13V))[i]? = some u → w.cell? (ad.add i) = some u := by
  intro i u hi
  have hf := fnV_five l
  have hlen := flat_lengthN hf
  rw [List.length_map] at hlen
  have hil := (List.getElem?_eq_some_iff.1 hi).1
  have e5 : i / 5 * 5 + i % 5 = i := by omega
  have hj : i / 5 < l.length := by omega
  have eu : l[i / 5]? = some l[i / 5] := List.getElem?_eq_getElem hj
  obtain ⟨ad', ea, c0, c1, c2, c3, c4, ec2, g0, g1, g2, g3, g4⟩ := h _ _ eu
  cases ea
  have hfl := flat_atN hf (j := i / 5) (u := fn13V l[i / 5]) (by rw [List.getElem?_map, eu]; rfl) (i % 5) (by omega)
  rw [e5, hi, ec2] at hfl
  have addj : ∀ r, (ad.add (i / 5 * 5)).add r = ad.add (i / 5 * 5 + r) := by
    intro r
    unfold Addr.add
    by_cases h0 : i / 5 * 5 = 0
    · simp [h0]
    · by_cases h1 : r = 0
      · simp [h1]
      · simp [h0, h1]; omega
  have hm : i % 5 = 0 ∨ i % 5 = 1 ∨ i % 5 = 2 ∨ i % 5 = 3 ∨ i % 5 = 4 := by omega
  rcases hm with hm | hm | hm | hm | hm
  all_goals
    rw [hm] at hfl e5
    simp [fiveN] at hfl
    subst hfl
    rw [← e5]
  · rw [Nat.add_zero]; exact g0
  · rw [← addj]; rw [show (ad.add (i / 5 * 5)).add 1 = ⟨(ad.add (i / 5 * 5)).block, (ad.add (i / 5 * 5)).off + 1, none⟩ by simp [Addr.add]]; exact g1
  · rw [← addj]; rw [show (ad.add (i / 5 * 5)).add 2 = ⟨(ad.add (i / 5 * 5)).block, (ad.add (i / 5 * 5)).off + 2, none⟩ by simp [Addr.add]]; exact g2
  · rw [← addj]; rw [show (ad.add (i / 5 * 5)).add 3 = ⟨(ad.add (i / 5 * 5)).block, (ad.add (i / 5 * 5)).off + 3, none⟩ by simp [Addr.add]]; exact g3
  · rw [← addj]; rw [show (ad.add (i / 5 * 5)).add 4 = ⟨(ad.add (i / 5 * 5)).block, (ad.add (i / 5 * 5)).off + 4, none⟩ by simp [Addr.add]]; exact g4
theorem OwnF.frow {base : Nat} {Q : Nat → Prop} {w : World} {v : Value} {hs : List Fn13} (h : OwnF base w v hs) (hQ : ∀ b, base ≤ b → b < w.heap.size → Q b) (hB : ∀ f ∈ hs, FnB f) : ∃ A cap, v = .slice A hs.length cap ∧ FRow Q w A hs.length cap hs := by
  have hf := fnV_five hs
  have hown : w.ownsRow base 33 5 v hs.length (flatN (hs.map fn13V)) := h
  rcases h.2 with ⟨e, hn⟩ | ⟨g, cap, cur, e, hb, hg, hc, hm, _⟩
  · have h0 := List.length_eq_zero_iff.1 hn
    subst h0
    exact ⟨_, _, e, FRow.nil _ _ _ _⟩
  · refine ⟨_, _, e, rfl, Nat.le_trans hc hm, hc, fun j f hj => ?_⟩
    subst e
    have hcl := hown.cells (g := g) rfl
    have hjm : (hs.map fn13V)[j]? = some (fn13V f) := by rw [List.getElem?_map, hj]; rfl
    have at_ : ∀ i, i < 5 → ∀ x, (fiveN (fn13V f))[i]? = some x → w.cell? ((⟨g, 0, none⟩ : Addr).add (j * 5 + i)) = some x := fun i hi x hx => hcl _ _ ((flat_atN hf hjm i hi).trans hx)
    have a0 := at_ 0 (by decide) (.string f.s) rfl
    have a1 := at_ 1 (by decide) (.string f.t) rfl
    have a2 := at_ 2 (by decide) (.int .i64 f.n) rfl
    have a3 := at_ 3 (by decide) (.int .i64 f.at_) rfl
    have a4 := at_ 4 (by decide) (.int .i64 f.slots) rfl
    have addj : ∀ i, (⟨g, 0, none⟩ : Addr).add (j * 5 + (i + 1)) = ⟨((⟨g, 0, none⟩ : Addr).add (j * 5)).block, ((⟨g, 0, none⟩ : Addr).add (j * 5)).off + (i + 1), none⟩ := by
      intro i
      unfold Addr.add
      by_cases h0 : j * 5 = 0
      · simp [h0]
      · simp [h0]
    rw [addj 0] at a1
    rw [addj 1] at a2
    rw [addj 2] at a3
    rw [addj 3] at a4
    exact ⟨_, rfl, hQ _ hb (heap_lt hg), ⟨_, _, _, _, _, rfl, a0, a1, a2, a3, a4⟩, hB f (List.mem_of_getElem? hj)⟩
section
variable {ops : Array Oper} {rest : List Oper} {o : Oper} {a : Act} {w : World}
set_option maxRecDepth 100000 in
theorem wp_own_fns {K : Act → World → Prop} {Q : Exit → Act → World → Prop} (sl x : Operand)
    (ho : o.op = .call { callee := .builtin .append, args := #[sl, x], argTypes := #[22, 22] })
    {base : Nat} {v : Value} {hs : List Fn13} (hown : OwnF base w v hs) (hbase : base ≤ w.heap.size) (he : a.eval sl = v)
    {A : Option Addr} {m cap : Nat} {ys : List Fn13} (hm : m = ys.length) (hx : a.eval x = .slice A m cap) (hR : RowF w A ys) (hlen : hs.length + ys.length ≤ 1000000)
    (h : ∀ v' w', OwnF base w' v' (hs ++ ys) → w.grownBy w' v.ownBlock → (v'.ownBlock = v.ownBlock ∨ v'.ownBlock = some w.heap.size) → K (a.put o.dst v') w') : o.wp Tryz.prog a w K Q := by
  obtain ⟨i, hi, hz, hsz, hby⟩ := info_parts info_fn13
  subst hm
  unfold Oper.wp execOp
  simp only [ho, resolve, invoke, builtin, Sem.run_bind, Sem.run_pure, Result.andThen_ok, List.map_toArray, List.map_cons, List.map_nil, he, hx]
  rcases A with _ | ad
  · have hy : ys = [] := by
      cases ys with
      | nil => rfl
      | cons y ys => obtain ⟨ad, e, _⟩ := hR 0 y rfl; cases e
    subst hy
    rw [show ([] : List Fn13).length = 0 from rfl, append_noughtN Tryz.underlying22 hi hown cap]
    exact h _ _ (by rw [List.append_nil]; exact hown) (World.grownBy.refl w _) (.inl rfl)
  · have h1 : ∀ u ∈ flatN (ys.map fn13V), u.oneCell' = true := by
      intro u hu
      obtain ⟨v, hv, hu⟩ := List.mem_flatMap.1 hu
      obtain ⟨f, _, rfl⟩ := List.mem_map.1 hv
      simp [fiveN, fn13V] at hu
      rcases hu with rfl | rfl | rfl | rfl | rfl <;> rfl
    obtain ⟨v', w', hr, h2, h3, _, h5⟩ := run_append_own_at (P := Tryz.prog) w base 22 o.type 33 i _ 5 56 Tryz.underlying22 hi hz hsz hby rfl (by decide) v hs.length (flatN (hs.map fn13V)) hown ad ys.length cap (flatN (ys.map fn13V)) (by rw [flat_lengthN (fnV_five ys), List.length_map]) hR.flat h1 (by unfold maxLen; omega) (by omega) hbase
    rw [hr]
    refine h _ _ ?_ h3 h5
    show w'.ownsRow _ _ _ _ _ _
    rw [List.length_append, List.map_append, flat_appendN]; exact h2
theorem wpList_own_fns {Q : Exit → Act → World → Prop} (hgd : o.guard = none) (sl x : Operand)
    (ho : o.op = .call { callee := .builtin .append, args := #[sl, x], argTypes := #[22, 22] })
    {base : Nat} {v : Value} {hs : List Fn13} (hown : OwnF base w v hs) (hbase : base ≤ w.heap.size) (he : a.eval sl = v)
    {A : Option Addr} {m cap : Nat} {ys : List Fn13} (hm : m = ys.length) (hx : a.eval x = .slice A m cap) (hR : RowF w A ys) (hlen : hs.length + ys.length ≤ 1000000)
    (h : ∀ v' w', OwnF base w' v' (hs ++ ys) → w.grownBy w' v.ownBlock → (v'.ownBlock = v.ownBlock ∨ v'.ownBlock = some w.heap.size) → wpList Tryz.prog ops Q rest (a.put o.dst v') w') : wpList Tryz.prog ops Q (o :: rest) a w :=
  wpList_plain hgd fun K hK => wp_own_fns sl x ho hown hbase he hm hx hR hlen fun v' w' h1 h2 h3 => hK _ _ (h v' w' h1 h2 h3)
end
end Go.Proofs.YtndihgdhpfjgmaaGreatDoor
end
section
set_option linter.unusedVariables false
set_option linter.unusedSimpArgs false
namespace Go.Proofs.YtndihgdhpfjgmaaGreatDoor
open Go.RowKit

theorem rWord7_any (s : ByteArray) (w : World) : Calls Tryz.prog 19 #[.string s] w fun e w' => e = .returned (.bool (wordL s.data.toList)) ∧ w = w' := by
  go_enter Tryz.func19, Tryz.ntmps19
  go_wp2
  all_goals
    go_ret
    refine ⟨ret_bool ?_, rfl⟩
    rw [← Go.Lib.toList_data]
    unfold wordL wordList
    simp only [List.any_cons, List.any_nil]
    simp_all
theorem rAtom7_any (s : ByteArray) (w : World) (hs : s.size ≤ maxLen) : Calls Tryz.prog 8 #[.string s] w fun e w' => e = .returned (.bool (atomB s)) ∧ w = w' := by
  have HM := Lib.hid (rMay_any s w hs)
  have HW := Lib.hid (rWord7_any s w)
  have HA : Hid (atomB s = (nameB s 2 && !wordL s.data.toList)) := Lib.hid rfl
  generalize nameB s 2 = c1 at HM HA
  generalize wordL s.data.toList = c2 at HW HA
  cases c1
  · go_enter Tryz.func8, Tryz.ntmps8
    go_wp2_with fail
    refine HM.out.mono ?_
    rintro e w' ⟨rfl, rfl⟩
    go_wp2_with fail
    go_ret
    exact ⟨ret_bool (by rw [HA.out]; rfl), rfl⟩
  · go_enter Tryz.func8, Tryz.ntmps8
    go_wp2_with fail
    refine HM.out.mono ?_
    rintro e w' ⟨rfl, rfl⟩
    go_wp2_with fail
    refine HW.out.mono ?_
    rintro e w' ⟨rfl, rfl⟩
    go_wp2_with fail
    all_goals
      go_ret
      exact ⟨ret_bool (by rw [HA.out]; simp_all), rfl⟩
end Go.Proofs.YtndihgdhpfjgmaaGreatDoor
end
