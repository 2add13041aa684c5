/- The law RulesMore's walk, from the program's own contracts. -/
import Derived.Test.YtbhomgpdebiedaaGreatDoorKRName7
import Derived.Test.YtbhomgpdebiedaaGreatDoorKMorP9
import Derived.Test.YtbhomgpdebiedaaGreatDoorKAppend
import Derived.Test.YtbhomgpdebiedaaGreatDoorKStN
import Derived.Deep.DeepCutAuto
import Derived.Tactics2
set_option linter.unusedVariables false
set_option linter.unusedSimpArgs false
namespace Go.Proofs.YtbhomgpdebiedaaGreatDoor
open Go.RowKit Go.Shelf

theorem alloc9_at (w : World) (a : Obj) (W : World) (h : W = w.alloc a) : W.heap[w.heap.size]? = some a ∧ Below w.heap.size w W := by
  subst h
  exact ⟨block_alloc _ _, (Below.refl _ w).alloc (Nat.le_refl _) _⟩
theorem len_pres9 : ∀ m : List Tm, m.length ≤ (Tm.pres m).length
  | [] => Nat.zero_le _
  | y :: m => by rw [Tm.pres, List.length_append, List.length_cons]; have := len_pres9 m; have := Tm.pre_ne y; omega
section
variable {P : Program} {ops : Array Oper} {Q : Exit → Act → World → Prop} {md : Region.Mode} {S : World → Prop} {L : Nat → Bool}
/-- Two may come up: behind either S holds. -/
theorem wpAnyE_two {i j : Nat} {o o' : Oper} {fuel : Nat} {listed : Array Bool} {a : Act} {w : World} (hr : Region.ready md ops listed = [i, j]) (ho : ops[i]? = some o) (ho' : ops[j]? = some o')
    (h : ∀ K' : Act → World → Prop, Shut (∀ a w, S w → (S w → wpAnyE P md ops Q S L fuel (listed.setIfInBounds i true) a w) → K' a w) → if Region.wanted o (yielded ops a.tmps) = true then Oper.wp P o a w K' Q else K' (a.put o.dst undef) w)
    (h' : ∀ K' : Act → World → Prop, Shut (∀ a w, S w → (S w → wpAnyE P md ops Q S L fuel (listed.setIfInBounds j true) a w) → K' a w) → if Region.wanted o' (yielded ops a.tmps) = true then Oper.wp P o' a w K' Q else K' (a.put o'.dst undef) w) :
    wpAnyE P md ops Q S L (fuel + 1) listed a w :=
  ⟨fun h0 => (by rw [hr] at h0; cases h0), by
    rw [hr]
    intro q hq
    rcases List.mem_cons.1 hq with rfl | hq
    · exact wpOp_step ho (fun K' hK => h K' (fun a w hS hW => hK a w (.inl ⟨hS, hW hS⟩)))
    · rw [List.mem_singleton.1 hq]
      exact wpOp_step ho' (fun K' hK => h' K' (fun a w hS hW => hK a w (.inl ⟨hS, hW hS⟩)))⟩
end
/-- The first module's copy, its row grown by one function. -/
structure R12 (w7 : World) (mk mn : Int) (msn mt : ByteArray) (ml : List Tm) (nm : ByteArray) (A5 : Option Addr) (n5 cap5 : Nat) (wx : World) : Prop where
  below : Below w7.heap.size w7 wx
  box : wx.heap[w7.heap.size]? = some (.cells #[.int .i8 mk, .int .i64 mn, .string msn, .string mt, .slice A5 n5 cap5] 25 (0, 0))
  tree : TmAt (· < wx.heap.size) wx (.mk mk mn msn mt (ml ++ [moreF nm])) (.agg #[.int .i8 mk, .int .i64 mn, .string msn, .string mt, .slice A5 n5 cap5])
theorem r12_of {w w7 w8 D V : World} {P : Nat → Prop} {Bs : List (Nat × Obj)} {mk mn : Int} {msn mt nm : ByteArray} {ml : List Tm} {mA A5 : Option Addr} {mcap n5 cap5 : Nat} {M : Tm} (h : StN D V P Bs (.slice A5 n5 cap5) (ml ++ [moreF nm])) (hP : P = (· < w7.heap.size))
    (hb8 : Below w7.heap.size w7 w8) (hz8 : w8.heap.size = w7.heap.size + 1) (hS : Below w8.heap.size w8 V) (hg : w8.heap[w7.heap.size]? = some (.cells #[.int .i8 mk, .int .i64 mn, .string msn, .string mt, .slice mA ml.length mcap] 25 (0, 0)))
    (hm : TmAt (· < w.heap.size) w M (.agg #[.int .i8 mk, .int .i64 mn, .string msn, .string mt, .slice mA ml.length mcap])) (hM : M = .mk mk mn msn mt ml) (hn : n5 = (ml ++ [moreF nm]).length) (hw : Below w.heap.size w w7) (hDz : D.heap.size = w8.heap.size) :
    R12 w7 mk mn msn mt ml nm A5 n5 cap5 (V.setCell ⟨w7.heap.size, 4, none⟩ (.slice A5 n5 cap5)) := by
  have hgV := (hS.block _ (heap_lt hg)).trans hg
  have hs9 := set_row (i := 4) (.slice A5 n5 cap5) hgV
  have m9 : Mod (fun k => k = w7.heap.size) V (V.setCell ⟨w7.heap.size, 4, none⟩ (.slice A5 n5 cap5)) := Mod.setCell _ _ _ (.inl rfl)
  have hbV : Below w7.heap.size w7 V := hb8.trans (hS.mono hb8.size)
  have hb9 := hbV.trans (m9.below hbV.size (fun k e => by omega))
  have hVs := h.below.size
  subst hM
  obtain ⟨_, _, _, _, hk, hn', hsz, htz⟩ := hm.parts
  obtain ⟨hnl, hrow⟩ := h.own.trow (Q := fun b => b < w7.heap.size ∨ (D.heap.size ≤ b ∧ b < V.heap.size)) (fun b hb => .inl (by rw [hP] at hb; exact hb)) (fun b h1 h2 _ => .inr ⟨h1, h2⟩)
  subst hn
  have hrow2 : TRow (· < (V.setCell ⟨w7.heap.size, 4, none⟩ (.slice A5 (ml ++ [moreF nm]).length cap5)).heap.size) (V.setCell ⟨w7.heap.size, 4, none⟩ (.slice A5 (ml ++ [moreF nm]).length cap5)) A5 (ml ++ [moreF nm]).length cap5 (ml ++ [moreF nm]) := by
    refine hrow.keep (fun b hb => m9.block b ?_ ?_) (fun b hb => ?_)
    · rcases hb with hb | hb <;> omega
    · rcases hb with hb | hb <;> omega
    · have h3 := m9.size
      show b < _
      rcases hb with hb | hb <;> omega
  exact ⟨hb9, hs9, TmAt.of_row hrow2 hk hn' hsz htz⟩
theorem tail_row {P : Nat → Prop} {w : World} {g off : Nat} {oo : Option Nat} {n cap : Nat} {x : Tm} {l : List Tm} (h : TRow P w (some ⟨g, off, oo⟩) n cap (x :: l)) : TRow P w (some ⟨g, off + 5, none⟩) (n - 1) (cap - 1) l := by
  have hlen := h.len
  have hmax := h.max
  have hcap := h.cap
  rw [List.length_cons] at hlen
  refine ⟨by omega, by omega, by omega, fun j y hj => ?_⟩
  obtain ⟨ad, u, hA, had, hE, hT⟩ := h.at_ (j + 1) y (by simpa using hj)
  cases hA
  refine ⟨_, u, rfl, had, ?_, hT⟩
  have e : (⟨g, off + 5, none⟩ : Addr).add (j * 5) = (⟨g, off, oo⟩ : Addr).add ((j + 1) * 5) := by
    unfold Addr.add
    rw [if_neg (by omega : ¬ (j + 1) * 5 = 0)]
    split
    · simp; omega
    · simp; omega
  unfold ElemAt
  rw [e]
  exact hE
theorem StN.single {w0 V : World} {P : Nat → Prop} {B : List (Nat × Obj)} {y : Tm} {c0 c1 c2 c3 c4 : Value} (h : StN w0 V P B (.slice none 0 0) []) (hP : ∀ b, P b → b < w0.heap.size) (hy : TmAt P V y (.agg #[c0, c1, c2, c3, c4])) :
    StN w0 (V.alloc (.cells #[c0, c1, c2, c3, c4] 25)) P B (.slice (some ⟨V.heap.size, 0, none⟩) 1 1) [y] := by
  have hb1 : Below V.heap.size V (V.alloc (.cells #[c0, c1, c2, c3, c4] 25)) := (Below.refl _ V).alloc (Nat.le_refl _) _
  have h' := h.under hP hb1
  have hy' : TmAt P (V.alloc (.cells #[c0, c1, c2, c3, c4] 25)) y (.agg #[c0, c1, c2, c3, c4]) := hy.keep (fun b hb => hb1.block b (Nat.lt_of_lt_of_le (hP b hb) h.below.size)) (fun _ h => h)
  refine ⟨h'.below, ⟨[.agg #[c0, c1, c2, c3, c4]], ⟨rfl, .inr ⟨V.heap.size, 1, #[c0, c1, c2, c3, c4], rfl, h.below.size, block_alloc _ _, Nat.le_refl _, by unfold maxLen; omega, rfl, rfl⟩⟩, rfl, fun j x hj => ?_⟩, fun q hq => ?_⟩
  · match j, hj with
    | 0, hj => simp at hj; subst hj; exact ⟨_, rfl, hy'⟩
    | j + 1, hj => simp at hj
  · obtain ⟨h1, h2, _⟩ := h'.kept q hq
    obtain ⟨_, h4, _⟩ := h.kept q hq
    refine ⟨h1, h2, fun e => ?_⟩
    have := heap_lt h4
    simp [Value.ownBlock] at e
    omega
/-- The tree with one more function, in its box. -/
structure R13 (w9 : World) (M : Tm) (ms : List Tm) (nm : ByteArray) (A6 : Option Addr) (n6 cap6 g13 : Nat) (wx : World) : Prop where
  below : Below w9.heap.size w9 wx
  box : wx.heap[g13]? = some (.cells #[.int .i8 0, .int .i64 0, .string ⟨#[]⟩, .string ⟨#[]⟩, .slice A6 n6 cap6] 25 (0, 0))
  tree : TmAt (· < wx.heap.size) wx (moreT M ms nm) (.agg #[.int .i8 0, .int .i64 0, .string ⟨#[]⟩, .string ⟨#[]⟩, .slice A6 n6 cap6])
theorem r13_of {w9 D V : World} {P : Nat → Prop} {Bs : List (Nat × Obj)} {M M2 : Tm} {ms : List Tm} {nm : ByteArray} {A6 : Option Addr} {n6 cap6 g13 : Nat} (h : StN D V P ((g13, .cells #[.int .i8 0, .int .i64 0, .string ⟨#[]⟩, .string ⟨#[]⟩, .slice none 0 0] 25) :: Bs) (.slice A6 n6 cap6) ([M2] ++ ms)) (hP : P = (· < D.heap.size))
    (hS : Below w9.heap.size w9 V) (hDz : D.heap.size = w9.heap.size) (hM2 : M2 = moreM M nm) (hn : n6 = ([M2] ++ ms).length) :
    R13 w9 M ms nm A6 n6 cap6 g13 (((((V.setCell ⟨g13, 0, none⟩ (.int .i8 0)).setCell ⟨g13, 1, none⟩ (.int .i64 0)).setCell ⟨g13, 2, none⟩ (.string ⟨#[]⟩)).setCell ⟨g13, 3, none⟩ (.string ⟨#[]⟩)).setCell ⟨g13, 4, none⟩ (.slice A6 n6 cap6)) := by
  obtain ⟨gge, gz, gne⟩ := h.kept _ List.mem_cons_self
  dsimp only at gge gz gne
  obtain ⟨s5, m5⟩ := set_five7 (.int .i8 0) (.int .i64 0) (.string ⟨#[]⟩) (.string ⟨#[]⟩) (.slice A6 n6 cap6) gz
  generalize ((((V.setCell ⟨g13, 0, none⟩ (.int .i8 0)).setCell ⟨g13, 1, none⟩ (.int .i64 0)).setCell ⟨g13, 2, none⟩ (.string ⟨#[]⟩)).setCell ⟨g13, 3, none⟩ (.string ⟨#[]⟩)).setCell ⟨g13, 4, none⟩ (.slice A6 n6 cap6) = W at s5 m5 ⊢
  have hVs := h.below.size
  have hgV := heap_lt gz
  have hrow := h.own.trow_own
  subst hn hM2
  refine ⟨hS.trans (m5.below hS.size (fun k e => by omega)), s5, ?_⟩
  have hrow2 : TRow (· < W.heap.size) W A6 ([moreM M nm] ++ ms).length cap6 ([moreM M nm] ++ ms) := by
    refine hrow.keep (fun b hb => m5.block b ?_ ?_) (fun b hb => ?_)
    · rcases hb with hb | hb
      · rw [hP] at hb; have h9 : b < D.heap.size := hb; omega
      · exact (h.own.own b hb).2
    · rcases hb with hb | hb
      · rw [hP] at hb; have h9 : b < D.heap.size := hb; omega
      · exact fun e => gne (by rw [← e]; exact hb)
    · have h3 := m5.size
      show b < _
      rcases hb with hb | hb
      · rw [hP] at hb; have h9 : b < D.heap.size := hb; omega
      · have := (h.own.own b hb).2; omega
  exact TmAt.of_row hrow2 (by omega) (by omega) (by decide) (by decide)
/-- The function that is put behind, just built. -/
theorem moreF_at (nm : ByteArray) (hnm : nm.size ≤ maxLen) (w V : World) (hV : V = ((w.alloc (.cells #[.int .i8 4, .int .i64 0, .string ⟨#[]⟩, .string ⟨#[]⟩, .slice none 0 0, .int .i8 7, .int .i64 0, .string ⟨#[111, 107]⟩, .string ⟨#[]⟩, .slice none 0 0] 25)).alloc (.cells #[.int .i8 3, .int .i64 0, .string ⟨#[]⟩, .string ⟨#[]⟩, .slice (some ⟨w.heap.size, 0, none⟩) 2 2] 25)).alloc (.cells #[.int .i8 2, .int .i64 0, .string nm, .string ⟨#[]⟩, .slice (some ⟨w.heap.size + 1, 0, none⟩) 1 1] 25)) :
    Below w.heap.size w V ∧ V.heap[w.heap.size + 2]? = some (.cells #[.int .i8 2, .int .i64 0, .string nm, .string ⟨#[]⟩, .slice (some ⟨w.heap.size + 1, 0, none⟩) 1 1] 25 (0, 0)) ∧ TmAt (· < V.heap.size) V (moreF nm) (.agg #[.int .i8 2, .int .i64 0, .string nm, .string ⟨#[]⟩, .slice (some ⟨w.heap.size + 1, 0, none⟩) 1 1]) := by
  obtain ⟨h0, z0⟩ := here_of (.cells #[.int .i8 4, .int .i64 0, .string ⟨#[]⟩, .string ⟨#[]⟩, .slice none 0 0, .int .i8 7, .int .i64 0, .string ⟨#[111, 107]⟩, .string ⟨#[]⟩, .slice none 0 0] 25) (rfl : w.heap.size = w.heap.size)
  obtain ⟨h1, z1⟩ := here_of (.cells #[.int .i8 3, .int .i64 0, .string ⟨#[]⟩, .string ⟨#[]⟩, .slice (some ⟨w.heap.size, 0, none⟩) 2 2] 25) z0
  obtain ⟨h2, z2⟩ := here_of (.cells #[.int .i8 2, .int .i64 0, .string nm, .string ⟨#[]⟩, .slice (some ⟨w.heap.size + 1, 0, none⟩) 1 1] 25) z1
  have b : Below w.heap.size w V := by rw [hV]; exact (((Below.refl _ w).alloc (Nat.le_refl _) _).alloc (by omega) _).alloc (by omega) _
  have g0 := there_of (.cells #[.int .i8 2, .int .i64 0, .string nm, .string ⟨#[]⟩, .slice (some ⟨w.heap.size + 1, 0, none⟩) 1 1] 25) (there_of (.cells #[.int .i8 3, .int .i64 0, .string ⟨#[]⟩, .string ⟨#[]⟩, .slice (some ⟨w.heap.size, 0, none⟩) 2 2] 25) h0)
  have g1 := there_of (.cells #[.int .i8 2, .int .i64 0, .string nm, .string ⟨#[]⟩, .slice (some ⟨w.heap.size + 1, 0, none⟩) 1 1] 25) h1
  rw [← hV] at g0 g1 h2
  refine ⟨b, h2, ?_⟩
  have c0 := TmAt.of_row (k := 3) (n := 0) (s := ⟨#[]⟩) (t := ⟨#[]⟩) (l := [_, _]) (row2_of (P := (· < V.heap.size)) g0 (heap_lt g0) (.leaf (· < V.heap.size) V 4 0 ⟨#[]⟩ (by omega) (by omega) (by decide)) (.leaf (· < V.heap.size) V 7 0 ⟨#[111, 107]⟩ (by omega) (by omega) (by decide))) (by omega) (by omega) (by decide) (by decide)
  exact TmAt.of_row (k := 2) (n := 0) (s := nm) (t := ⟨#[]⟩) (l := [_]) (row1_of (P := (· < V.heap.size)) g1 (heap_lt g1) c0) (by omega) (by omega) hnm (by decide)
set_option maxHeartbeats 32000000 in
set_option maxRecDepth 100000 in
theorem walk_RulesMore (v0 : Value) (nm : ByteArray) (hnm : nm.size ≤ maxLen) (w : World) (o0 : ∃ t, TmAt (· < w.heap.size) w t v0) (hE : Env9 w) :
    Calls Tryz.prog 4 #[v0, .string nm] w fun e w' => e = .returned (.bool true) ∧ Below w.heap.size w w' := by
  obtain ⟨x, hT⟩ := o0
  obtain ⟨X, hX⟩ : ∃ X, X = x := ⟨_, rfl⟩
  obtain ⟨k, n, s, t, l⟩ := x
  obtain ⟨A, cap, rfl, hR, -⟩ := hT.parts
  have hlen := hR.max
  unfold maxLen at hlen
  have hXl : X.l = l := by rw [hX]; rfl
  rw [← hX] at hT
  clear hX
  have HXL := Lib.hid hXl
  have HT := Lib.hid hT
  have HR := Lib.hid hR
  have HE := Lib.hid hE
  have HATM := Lib.hid (fun W => rAtom7_any nm W hnm)
  have HNM := Lib.hid hnm
  clear hT hE hR hXl hnm
  obtain ⟨w1, hw1⟩ : ∃ w1, w1 = w.alloc (.cells #[.int .i8 k, .int .i64 n, .string s, .string t, .slice A l.length cap] 25) := ⟨_, rfl⟩
  have H1 := Lib.hid (bx7_of w _ w1 hw1)
  go_enter Tryz.func4, Tryz.ntmps4
  go_wp2_with fail
  rw [← hw1]
  clear hw1
  refine (GreatN_any X _ w1 (HT.out.laterN H1.out.below)).mono ?_
  rintro e w2 ⟨q, rfl, hq, b2⟩
  have H2 := Lib.hid (H1.out.under b2)
  have HQ := Lib.hid hq
  clear b2 hq
  cases q with
  | true =>
    go_wp2_with fail
    refine (wakes9_any _ (HE.out.under H2.out.below)).mono ?_
    rintro e V ⟨rfl, hb⟩
    have HBW := Lib.hid (H2.out.below.trans (hb.mono H2.out.below.size))
    clear hb
    go_wp2_with fail
    go_ret
    exact ⟨rfl, HBW.out⟩
  | false =>
  have hnx : X.nodes ≤ 8200 := by have := HQ.out rfl; omega
  have HNX := Lib.hid hnx
  clear hnx HQ
  have x0 : w2.cell? ⟨w.heap.size, 0, none⟩ = some (.int .i8 k) := cell_of_row (i := 0) H2.out.box rfl
  have x1 : w2.cell? ⟨w.heap.size, 1, none⟩ = some (.int .i64 n) := cell_of_row (i := 1) H2.out.box rfl
  have x2 : w2.cell? ⟨w.heap.size, 2, none⟩ = some (.string s) := cell_of_row (i := 2) H2.out.box rfl
  have x3 : w2.cell? ⟨w.heap.size, 3, none⟩ = some (.string t) := cell_of_row (i := 3) H2.out.box rfl
  have x4 : w2.cell? ⟨w.heap.size, 4, none⟩ = some (.slice A l.length cap) := cell_of_row (i := 4) H2.out.box rfl
  go_wp2_with fail
  refine (check9_any X _ w2 (HT.out.laterN H2.out.below) HNX.out (HE.out.env.under H2.out.below) (HE.out.under H2.out.below).err).mono ?_
  rintro e w3 ⟨rfl, b3⟩
  have H3 := Lib.hid (H2.out.under b3)
  clear b3 x0 x1 x2 x3 x4
  obtain ⟨E0, hE0⟩ : ∃ E0, E0 = (chk9 X).1 := ⟨_, rfl⟩
  rw [← hE0]
  have HE0 := Lib.hid hE0
  clear hE0
  have x0 : w3.cell? ⟨w.heap.size, 0, none⟩ = some (.int .i8 k) := cell_of_row (i := 0) H3.out.box rfl
  have x1 : w3.cell? ⟨w.heap.size, 1, none⟩ = some (.int .i64 n) := cell_of_row (i := 1) H3.out.box rfl
  have x2 : w3.cell? ⟨w.heap.size, 2, none⟩ = some (.string s) := cell_of_row (i := 2) H3.out.box rfl
  have x3 : w3.cell? ⟨w.heap.size, 3, none⟩ = some (.string t) := cell_of_row (i := 3) H3.out.box rfl
  have x4 : w3.cell? ⟨w.heap.size, 4, none⟩ = some (.slice A l.length cap) := cell_of_row (i := 4) H3.out.box rfl
  by_cases hc : E0 = 0
  rotate_left
  · have q0 : (E0 != 0) = true := by simpa using hc
    have q1 : (E0 == 0) = false := by simpa using hc
    go_wp2_with fail
    refine (wakes9_any _ (HE.out.under H3.out.below)).mono ?_
    rintro e V ⟨rfl, hb⟩
    have HBW := Lib.hid (H3.out.below.trans (hb.mono H3.out.below.size))
    clear hb
    go_wp2_with fail
    go_ret
    exact ⟨rfl, HBW.out⟩
  subst hc
  rcases Nat.eq_zero_or_pos l.length with hl0 | hlp
  · have hl0' : (l.length : Int) = 0 := by rw [hl0]; rfl
    clear hl0
    go_wp2_with fail
    refine (wakes9_any _ (HE.out.under H3.out.below)).mono ?_
    rintro e V ⟨rfl, hb⟩
    have HBW := Lib.hid (H3.out.below.trans (hb.mono H3.out.below.size))
    clear hb
    go_wp2_with fail
    go_ret
    exact ⟨rfl, HBW.out⟩
  have hl1 : ¬ (l.length : Int) = 0 := by omega
  have hl2 : ¬ l.length = 0 := by omega
  have hl3 : ((l.length : Int) == 0) = false := by simpa using hl1
  have hl4 : ¬ l = [] := fun e => by rw [e] at hlp; exact absurd hlp (by decide)
  have HLP := Lib.hid hlp
  clear hlp
  go_wp2_with fail
  refine (HATM.out w3).mono ?_
  rintro e w' ⟨rfl, rfl⟩
  obtain ⟨a1, ha1⟩ : ∃ a1, a1 = atomB nm := ⟨_, rfl⟩
  rw [← ha1]
  have HA1 := Lib.hid ha1
  clear ha1
  cases a1 with
  | false =>
    go_wp2_with fail
    refine (wakes9_any _ (HE.out.under H3.out.below)).mono ?_
    rintro e V ⟨rfl, hb⟩
    have HBW := Lib.hid (H3.out.below.trans (hb.mono H3.out.below.size))
    clear hb
    go_wp2_with fail
    go_ret
    exact ⟨rfl, HBW.out⟩
  | true =>
  go_wp2_with fail
  refine (built_any nm 0 w3).mono ?_
  rintro e w4 ⟨rfl, rfl⟩
  obtain ⟨a2, ha2⟩ : ∃ a2, a2 = builtB nm 0 := ⟨_, rfl⟩
  rw [← ha2]
  have HA2 := Lib.hid ha2
  clear ha2
  cases a2 with
  | true =>
    go_wp2_with fail
    refine (wakes9_any _ (HE.out.under H3.out.below)).mono ?_
    rintro e V ⟨rfl, hb⟩
    have HBW := Lib.hid (H3.out.below.trans (hb.mono H3.out.below.size))
    clear hb
    go_wp2_with fail
    go_ret
    exact ⟨rfl, HBW.out⟩
  | false =>
  clear x0 x1 x2 x3 x4
  go_wp2_with fail
  obtain ⟨M, ms, hlm⟩ : ∃ M ms, l = M :: ms := by
    cases l with
    | nil => exact absurd rfl hl4
    | cons a b => exact ⟨a, b, rfl⟩
  have HLM := Lib.hid hlm
  have hm0 : l[0]? = some M := by rw [hlm]; rfl
  obtain ⟨ad, u, hA, had, hEl, hTm⟩ := HR.out.at_ 0 M hm0
  obtain ⟨g, off, oo⟩ := ad
  subst hA
  obtain ⟨mk, mn, msn, mt, ml, hM⟩ : ∃ mk mn msn mt ml, M = Tm.mk mk mn msn mt ml := by cases M; exact ⟨_, _, _, _, _, rfl⟩
  have hMp := hTm
  rw [hM] at hMp
  obtain ⟨mA, mcap, rfl, hRm, -⟩ := hMp.parts
  have HM := Lib.hid hM
  have HTM := Lib.hid hTm
  have HRM := Lib.hid hRm
  have HEL : Hid (∀ V, Below w.heap.size w V → V.cell? ⟨g, off, oo⟩ = some (.int .i8 mk) ∧ V.cell? ⟨g, off + 1, none⟩ = some (.int .i64 mn) ∧ V.cell? ⟨g, off + 2, none⟩ = some (.string msn) ∧ V.cell? ⟨g, off + 3, none⟩ = some (.string mt) ∧ V.cell? ⟨g, off + 4, none⟩ = some (.slice mA ml.length mcap)) := fun V hb => by
    obtain ⟨d0, d1, d2, d3, d4, he, e0, e1, e2, e3, e4⟩ := hEl.keep (hb.block _ had)
    simp only [Value.agg.injEq, Array.mk.injEq, List.cons.injEq, and_true] at he
    obtain ⟨rfl, rfl, rfl, rfl, rfl⟩ := he
    rw [show (⟨g, off, oo⟩ : Addr).add (0 * 5) = ⟨g, off, oo⟩ from rfl] at e0 e1 e2 e3 e4
    exact ⟨e0, e1, e2, e3, e4⟩
  have i1 : (0 : Int) < (l.length : Int) := by have := HLP.out; omega
  clear hlm hm0 had hEl hTm hM hMp hRm
  obtain ⟨B, hB⟩ : ∃ B, B = (findT (msn, nm, 0) (fns9T X)).isSome := ⟨_, rfl⟩
  have HBB := Lib.hid hB
  clear hB
  go_cut [7, 8] (fun p q wx => (∃ gp, p = .pointer (some ⟨gp, 0, none⟩)) ∧ q = .bool B ∧ Hid (Below w4.heap.size w4 wx))
  case first =>
    refine wp_region_held (S := fun V => Below w4.heap.size w4 V) (by kernel_rfl) ?_
    show wpAnyH _ _ _ _ _ _ _ _ w4.drew
    have hS : Below w4.heap.size w4 w4.drew := ⟨rfl, rfl, rfl, Nat.le_refl _, fun _ _ => rfl⟩
    generalize w4.drew = D at hS ⊢
    refine wpAnyH_take (i := 0) (oi := ⟨some 45, _, _, _, _, _⟩) (v := ?_) rfl (by kernel_rfl) (by kernel_rfl) (by kernel_rfl) (fun _ _ _ h => h) (Or.inl ⟨by kernel_rfl, ?_⟩) (by assumption) ?_; rotate_left; (intro VV hSw; (try dsimp only at hSw); have hbx := H3.out.under hSw; have x0 : VV.cell? ⟨w.heap.size, 0, none⟩ = some (.int .i8 k) := hbx.cell 0 rfl; have x1 : VV.cell? ⟨w.heap.size, 1, none⟩ = some (.int .i64 n) := hbx.cell 1 rfl; have x2 : VV.cell? ⟨w.heap.size, 2, none⟩ = some (.string s) := hbx.cell 2 rfl; have x3 : VV.cell? ⟨w.heap.size, 3, none⟩ = some (.string t) := hbx.cell 3 rfl; have x4 : VV.cell? ⟨w.heap.size, 4, none⟩ = some (.slice (some ⟨g, off, oo⟩) l.length cap) := hbx.cell 4 rfl; go_simp; first | done | with_reducible rfl); (try simp only [Act.put, List.setIfInBounds_toArray, List.set_cons_zero, List.set_cons_succ])
    refine wpAnyH_take (i := 1) (oi := ⟨some 46, _, _, _, _, _⟩) (v := ?_) rfl (by kernel_rfl) (by kernel_rfl) (by kernel_rfl) (fun _ _ _ h => h) (Or.inl ⟨by kernel_rfl, ?_⟩) (by assumption) ?_; rotate_left; (intro VV hSw; (try dsimp only at hSw); go_simp; first | done | with_reducible rfl); (try simp only [Act.put, List.setIfInBounds_toArray, List.set_cons_zero, List.set_cons_succ])
    refine wpAnyH_take (i := 2) (oi := ⟨some 47, _, _, _, _, _⟩) (v := ?_) rfl (by kernel_rfl) (by kernel_rfl) (by kernel_rfl) (fun _ _ _ h => h) (Or.inl ⟨by kernel_rfl, ?_⟩) (by assumption) ?_; rotate_left; (intro VV hSw; (try dsimp only at hSw); have hbx := H3.out.under hSw; have x0 : VV.cell? ⟨w.heap.size, 0, none⟩ = some (.int .i8 k) := hbx.cell 0 rfl; have x1 : VV.cell? ⟨w.heap.size, 1, none⟩ = some (.int .i64 n) := hbx.cell 1 rfl; have x2 : VV.cell? ⟨w.heap.size, 2, none⟩ = some (.string s) := hbx.cell 2 rfl; have x3 : VV.cell? ⟨w.heap.size, 3, none⟩ = some (.string t) := hbx.cell 3 rfl; have x4 : VV.cell? ⟨w.heap.size, 4, none⟩ = some (.slice (some ⟨g, off, oo⟩) l.length cap) := hbx.cell 4 rfl; go_simp; first | done | with_reducible rfl); (try simp only [Act.put, List.setIfInBounds_toArray, List.set_cons_zero, List.set_cons_succ])
    refine wpAnyH_take (i := 3) (oi := ⟨some 48, _, _, _, _, _⟩) (v := ?_) rfl (by kernel_rfl) (by kernel_rfl) (by kernel_rfl) (fun _ _ _ h => h) (Or.inl ⟨by kernel_rfl, ?_⟩) (by assumption) ?_; rotate_left; (intro VV hSw; (try dsimp only at hSw); have i0 : 0 < l.length := HLP.out; go_simp; first | done | with_reducible rfl); (try simp only [Act.put, List.setIfInBounds_toArray, List.set_cons_zero, List.set_cons_succ])
    refine wpAnyH_take (i := 4) (oi := ⟨some 49, _, _, _, _, _⟩) (v := ?_) rfl (by kernel_rfl) (by kernel_rfl) (by kernel_rfl) (fun _ _ _ h => h) (Or.inl ⟨by kernel_rfl, ?_⟩) (by assumption) ?_; rotate_left; (intro VV hSw; (try dsimp only at hSw); go_simp; first | done | with_reducible rfl); (try simp only [Act.put, List.setIfInBounds_toArray, List.set_cons_zero, List.set_cons_succ])
    refine wpAnyH_take (i := 5) (oi := ⟨some 50, _, _, _, _, _⟩) (v := ?_) rfl (by kernel_rfl) (by kernel_rfl) (by kernel_rfl) (fun _ _ _ h => h) (Or.inl ⟨by kernel_rfl, ?_⟩) (by assumption) ?_; rotate_left; (intro VV hSw; (try dsimp only at hSw); have hbx := H3.out.under hSw; obtain ⟨e0, e1, e2, e3, e4⟩ := HEL.out VV hbx.below; go_simp; first | done | with_reducible rfl); (try simp only [Act.put, List.setIfInBounds_toArray, List.set_cons_zero, List.set_cons_succ])
    refine wpAnyH_take (i := 6) (oi := ⟨some 51, _, _, _, _, _⟩) (v := ?_) rfl (by kernel_rfl) (by kernel_rfl) (by kernel_rfl) (fun _ _ _ h => h) (Or.inl ⟨by kernel_rfl, ?_⟩) (by assumption) ?_; rotate_left; (intro VV hSw; (try dsimp only at hSw); go_simp; first | done | with_reducible rfl); (try simp only [Act.put, List.setIfInBounds_toArray, List.set_cons_zero, List.set_cons_succ])
    refine wpAnyH_ready (rs := [7, 11]) (by kernel_rfl) (by simp) ?_
    refine AllReadyH.cons (o := ⟨some 52, _, _, _, _, _⟩) rfl (fun K hK => ?_) (AllReadyH.cons (o := ⟨some 7, _, _, _, _, _⟩) rfl (fun K hK => ?_) AllReadyH.nil)
    · rw [if_pos (by rfl)]
      go_simp
      have hbx := H3.out.under hS
      refine (find_any X _ msn nm 0 D (HT.out.laterN hbx.below) HNX.out (HE.out.env.under hbx.below)).mono ?_
      rintro e D1 ⟨vf, ⟨k', n', s', t', A', m', c', rfl⟩, rfl, -, bf⟩
      rw [← HBB.out]
      have hS1 := hS.trans (bf.mono hS.size)
      refine hK.out _ _ hS1 (fun hSn => ?_)
      clear hK K hSn; (try simp only [Act.put, List.setIfInBounds_toArray, List.set_cons_zero, List.set_cons_succ])
      clear hS
      have hS := hS1
      clear hS1
      refine wpAnyH_take (i := 8) (oi := ⟨some 44, _, _, _, _, _⟩) (v := ?_) rfl (by kernel_rfl) (by kernel_rfl) (by kernel_rfl) (fun _ _ _ h => h) (Or.inl ⟨by kernel_rfl, ?_⟩) (by assumption) ?_; rotate_left; (intro VV hSw; (try dsimp only at hSw); go_simp; first | done | with_reducible rfl); (try simp only [Act.put, List.setIfInBounds_toArray, List.set_cons_zero, List.set_cons_succ])
      refine wpAnyH_take (i := 9) (oi := ⟨some 53, _, _, _, _, _⟩) (v := ?_) rfl (by kernel_rfl) (by kernel_rfl) (by kernel_rfl) (fun _ _ _ h => h) (Or.inl ⟨by kernel_rfl, ?_⟩) (by assumption) ?_; rotate_left; (intro VV hSw; (try dsimp only at hSw); go_simp; first | done | with_reducible rfl); (try simp only [Act.put, List.setIfInBounds_toArray, List.set_cons_zero, List.set_cons_succ])
      refine wpAnyH_take (i := 10) (oi := ⟨some 54, _, _, _, _, _⟩) (v := ?_) rfl (by kernel_rfl) (by kernel_rfl) (by kernel_rfl) (fun _ _ _ h => h) (Or.inl ⟨by kernel_rfl, ?_⟩) (by assumption) ?_; rotate_left; (intro VV hSw; (try dsimp only at hSw); go_simp; first | done | with_reducible rfl); (try simp only [Act.put, List.setIfInBounds_toArray, List.set_cons_zero, List.set_cons_succ])
      refine wpAnyH_ready (rs := [11]) (by kernel_rfl) (by simp) ?_
      refine AllReadyH.cons (o := ⟨some 7, _, _, _, _, _⟩) rfl (fun K hK => ?_) AllReadyH.nil
      · rw [if_pos (by rfl)]
        go_simp
        have hga := block_alloc D1 (.cells #[.int .i8 0, .int .i64 0, .string ⟨#[]⟩, .string ⟨#[]⟩, .slice none 0 0] 25)
        have hS1 := hS.alloc hS.size (.cells #[.int .i8 0, .int .i64 0, .string ⟨#[]⟩, .string ⟨#[]⟩, .slice none 0 0] 25)
        have hgs : w4.heap.size ≤ D1.heap.size := hS.size
        obtain ⟨ga, hgae⟩ : ∃ ga, ga = D1.heap.size := ⟨_, rfl⟩
        rw [← hgae] at hga hgs
        refine hK.out _ _ hS1 (fun hSn => ?_)
        clear hK K hSn; (try simp only [Act.put, List.setIfInBounds_toArray, List.set_cons_zero, List.set_cons_succ])
        rw [← hgae]
        generalize D1.alloc (.cells #[.int .i8 0, .int .i64 0, .string ⟨#[]⟩, .string ⟨#[]⟩, .slice none 0 0] 25) = D2 at hga hS1 ⊢
        clear hgae hS
        have hS := hS1
        clear hS1
        have z0 : D2.cell? ⟨ga, 0, none⟩ = some (.int .i8 0) := cell_of_row (i := 0) hga rfl
        have zf0 : D2.frozen? ⟨ga, 0, none⟩ = false := free_of_row (i := 0) hga
        have z1 : D2.cell? ⟨ga, 1, none⟩ = some (.int .i64 0) := cell_of_row (i := 1) hga rfl
        have zf1 : D2.frozen? ⟨ga, 1, none⟩ = false := free_of_row (i := 1) hga
        have z2 : D2.cell? ⟨ga, 2, none⟩ = some (.string ⟨#[]⟩) := cell_of_row (i := 2) hga rfl
        have zf2 : D2.frozen? ⟨ga, 2, none⟩ = false := free_of_row (i := 2) hga
        have z3 : D2.cell? ⟨ga, 3, none⟩ = some (.string ⟨#[]⟩) := cell_of_row (i := 3) hga rfl
        have zf3 : D2.frozen? ⟨ga, 3, none⟩ = false := free_of_row (i := 3) hga
        have z4 : D2.cell? ⟨ga, 4, none⟩ = some (.slice none 0 0) := cell_of_row (i := 4) hga rfl
        have zf4 : D2.frozen? ⟨ga, 4, none⟩ = false := free_of_row (i := 4) hga
        obtain ⟨s5, m5⟩ := set_five7 (.int .i8 k') (.int .i64 n') (.string s') (.string t') (.slice A' m' c') hga
        have hS9 := hS.trans (m5.below hS.size (fun k e => by omega))
        clear s5 m5
        refine wpAnyH_ready (rs := [12]) (by kernel_rfl) (by simp) ?_
        refine AllReadyH.cons (o := ⟨none, _, _, _, _, _⟩) rfl (fun K hK => ?_) AllReadyH.nil
        · rw [if_pos (by rfl)]
          go_simp
          refine hK.out _ _ hS9 (fun hSn => ?_)
          clear hK K hSn; (try simp only [Act.put, List.setIfInBounds_toArray, List.set_cons_zero, List.set_cons_succ])
          refine wpAnyH_take (i := 13) (oi := ⟨some 8, _, _, _, _, _⟩) (v := ?_) rfl (by kernel_rfl) (by kernel_rfl) (by kernel_rfl) (fun _ _ _ h => h) (Or.inl ⟨by kernel_rfl, ?_⟩) (by assumption) ?_; rotate_left; (intro VV hSw; (try dsimp only at hSw); go_simp; first | done | with_reducible rfl); (try simp only [Act.put, List.setIfInBounds_toArray, List.set_cons_zero, List.set_cons_succ])
          refine wpAnyH_done (by kernel_rfl) ?_ _
          clear z0 zf0 z1 zf1 z2 zf2 z3 zf3 z4 zf4 hga
          go_wp2_with fail
          go_meet
          exact ⟨⟨_, rfl⟩, rfl, Lib.hid hS9⟩
    · rw [if_pos (by rfl)]
      go_simp
      have hga := block_alloc D (.cells #[.int .i8 0, .int .i64 0, .string ⟨#[]⟩, .string ⟨#[]⟩, .slice none 0 0] 25)
      have hS1 := hS.alloc hS.size (.cells #[.int .i8 0, .int .i64 0, .string ⟨#[]⟩, .string ⟨#[]⟩, .slice none 0 0] 25)
      have hgs : w4.heap.size ≤ D.heap.size := hS.size
      obtain ⟨ga, hgae⟩ : ∃ ga, ga = D.heap.size := ⟨_, rfl⟩
      rw [← hgae] at hga hgs
      refine hK.out _ _ hS1 (fun hSn => ?_)
      clear hK K hSn; (try simp only [Act.put, List.setIfInBounds_toArray, List.set_cons_zero, List.set_cons_succ])
      rw [← hgae]
      generalize D.alloc (.cells #[.int .i8 0, .int .i64 0, .string ⟨#[]⟩, .string ⟨#[]⟩, .slice none 0 0] 25) = D1 at hga hS1 ⊢
      clear hgae hS
      have hS := hS1
      clear hS1
      refine wpAnyH_ready (rs := [7]) (by kernel_rfl) (by simp) ?_
      refine AllReadyH.cons (o := ⟨some 52, _, _, _, _, _⟩) rfl (fun K hK => ?_) AllReadyH.nil
      · rw [if_pos (by rfl)]
        go_simp
        have hbx := H3.out.under hS
        refine (find_any X _ msn nm 0 D1 (HT.out.laterN hbx.below) HNX.out (HE.out.env.under hbx.below)).mono ?_
        rintro e D2 ⟨vf, ⟨k', n', s', t', A', m', c', rfl⟩, rfl, -, bf⟩
        rw [← HBB.out]
        have hS1 := hS.trans (bf.mono hS.size)
        have hga2 := (bf.block _ (heap_lt hga)).trans hga
        refine hK.out _ _ hS1 (fun hSn => ?_)
        clear hK K hSn; (try simp only [Act.put, List.setIfInBounds_toArray, List.set_cons_zero, List.set_cons_succ])
        clear hS hga
        have hS := hS1
        have hga := hga2
        clear hS1 hga2
        refine wpAnyH_take (i := 8) (oi := ⟨some 44, _, _, _, _, _⟩) (v := ?_) rfl (by kernel_rfl) (by kernel_rfl) (by kernel_rfl) (fun _ _ _ h => h) (Or.inl ⟨by kernel_rfl, ?_⟩) (by assumption) ?_; rotate_left; (intro VV hSw; (try dsimp only at hSw); go_simp; first | done | with_reducible rfl); (try simp only [Act.put, List.setIfInBounds_toArray, List.set_cons_zero, List.set_cons_succ])
        refine wpAnyH_take (i := 9) (oi := ⟨some 53, _, _, _, _, _⟩) (v := ?_) rfl (by kernel_rfl) (by kernel_rfl) (by kernel_rfl) (fun _ _ _ h => h) (Or.inl ⟨by kernel_rfl, ?_⟩) (by assumption) ?_; rotate_left; (intro VV hSw; (try dsimp only at hSw); go_simp; first | done | with_reducible rfl); (try simp only [Act.put, List.setIfInBounds_toArray, List.set_cons_zero, List.set_cons_succ])
        refine wpAnyH_take (i := 10) (oi := ⟨some 54, _, _, _, _, _⟩) (v := ?_) rfl (by kernel_rfl) (by kernel_rfl) (by kernel_rfl) (fun _ _ _ h => h) (Or.inl ⟨by kernel_rfl, ?_⟩) (by assumption) ?_; rotate_left; (intro VV hSw; (try dsimp only at hSw); go_simp; first | done | with_reducible rfl); (try simp only [Act.put, List.setIfInBounds_toArray, List.set_cons_zero, List.set_cons_succ])
        have z0 : D2.cell? ⟨ga, 0, none⟩ = some (.int .i8 0) := cell_of_row (i := 0) hga rfl
        have zf0 : D2.frozen? ⟨ga, 0, none⟩ = false := free_of_row (i := 0) hga
        have z1 : D2.cell? ⟨ga, 1, none⟩ = some (.int .i64 0) := cell_of_row (i := 1) hga rfl
        have zf1 : D2.frozen? ⟨ga, 1, none⟩ = false := free_of_row (i := 1) hga
        have z2 : D2.cell? ⟨ga, 2, none⟩ = some (.string ⟨#[]⟩) := cell_of_row (i := 2) hga rfl
        have zf2 : D2.frozen? ⟨ga, 2, none⟩ = false := free_of_row (i := 2) hga
        have z3 : D2.cell? ⟨ga, 3, none⟩ = some (.string ⟨#[]⟩) := cell_of_row (i := 3) hga rfl
        have zf3 : D2.frozen? ⟨ga, 3, none⟩ = false := free_of_row (i := 3) hga
        have z4 : D2.cell? ⟨ga, 4, none⟩ = some (.slice none 0 0) := cell_of_row (i := 4) hga rfl
        have zf4 : D2.frozen? ⟨ga, 4, none⟩ = false := free_of_row (i := 4) hga
        obtain ⟨s5, m5⟩ := set_five7 (.int .i8 k') (.int .i64 n') (.string s') (.string t') (.slice A' m' c') hga
        have hS9 := hS.trans (m5.below hS.size (fun k e => by omega))
        clear s5 m5
        refine wpAnyH_ready (rs := [12]) (by kernel_rfl) (by simp) ?_
        refine AllReadyH.cons (o := ⟨none, _, _, _, _, _⟩) rfl (fun K hK => ?_) AllReadyH.nil
        · rw [if_pos (by rfl)]
          go_simp
          refine hK.out _ _ hS9 (fun hSn => ?_)
          clear hK K hSn; (try simp only [Act.put, List.setIfInBounds_toArray, List.set_cons_zero, List.set_cons_succ])
          refine wpAnyH_take (i := 13) (oi := ⟨some 8, _, _, _, _, _⟩) (v := ?_) rfl (by kernel_rfl) (by kernel_rfl) (by kernel_rfl) (fun _ _ _ h => h) (Or.inl ⟨by kernel_rfl, ?_⟩) (by assumption) ?_; rotate_left; (intro VV hSw; (try dsimp only at hSw); go_simp; first | done | with_reducible rfl); (try simp only [Act.put, List.setIfInBounds_toArray, List.set_cons_zero, List.set_cons_succ])
          refine wpAnyH_done (by kernel_rfl) ?_ _
          clear z0 zf0 z1 zf1 z2 zf2 z3 zf3 z4 zf4 hga
          go_wp2_with fail
          go_meet
          exact ⟨⟨_, rfl⟩, rfl, Lib.hid hS9⟩
  case rest =>
  obtain ⟨⟨gp, rfl⟩, rfl, hcut⟩ := hcut
  obtain ⟨w5, hw5⟩ : ∃ w5, w5 = wc := ⟨_, rfl⟩
  subst hw5
  have H5 := Lib.hid (H3.out.under hcut.out)
  clear hcut
  have x0 : w5.cell? ⟨w.heap.size, 0, none⟩ = some (.int .i8 k) := cell_of_row (i := 0) H5.out.box rfl
  have x1 : w5.cell? ⟨w.heap.size, 1, none⟩ = some (.int .i64 n) := cell_of_row (i := 1) H5.out.box rfl
  have x2 : w5.cell? ⟨w.heap.size, 2, none⟩ = some (.string s) := cell_of_row (i := 2) H5.out.box rfl
  have x3 : w5.cell? ⟨w.heap.size, 3, none⟩ = some (.string t) := cell_of_row (i := 3) H5.out.box rfl
  have x4 : w5.cell? ⟨w.heap.size, 4, none⟩ = some (.slice (some ⟨g, off, oo⟩) l.length cap) := cell_of_row (i := 4) H5.out.box rfl
  go_wp2_with fail
  refine (rSize_any X _ w5 (HT.out.laterN H5.out.below)).mono ?_
  rintro e w6 ⟨rfl, b6⟩
  have H6 := Lib.hid (H5.out.under b6)
  clear b6 x0 x1 x2 x3 x4
  obtain ⟨N0, hN0⟩ : ∃ N0, N0 = min X.nodes 4097 := ⟨_, rfl⟩
  rw [← hN0]
  have HN0 := Lib.hid hN0
  clear hN0
  generalize min X.deep 65 = D0
  cases B with
  | true =>
    go_wp2_with fail
    refine (wakes9_any _ (HE.out.under H6.out.below)).mono ?_
    rintro e V ⟨rfl, hb⟩
    have HBW := Lib.hid (H6.out.below.trans (hb.mono H6.out.below.size))
    clear hb
    go_wp2_with fail
    go_ret
    exact ⟨rfl, HBW.out⟩
  | false =>
  have hN9 : N0 ≤ 4097 := by have := HN0.out; omega
  by_cases hbig : (4096 : Int) < (N0 : Int) + 4
  · have hb1 : 4096 < N0 + 4 := by omega
    have hb2 : decide ((4096 : Int) < (N0 : Int) + 4) = true := by simpa using hbig
    go_wp2_with fail
    refine (wakes9_any _ (HE.out.under H6.out.below)).mono ?_
    rintro e V ⟨rfl, hb⟩
    have HBW := Lib.hid (H6.out.below.trans (hb.mono H6.out.below.size))
    clear hb
    go_wp2_with fail
    go_ret
    exact ⟨rfl, HBW.out⟩
  have HBIG := Lib.hid hbig
  have hbg : decide ((4096 : Int) < (N0 : Int) + 4) = false := by simpa using hbig
  have hb1 : ¬ 4096 < N0 + 4 := by omega
  have i0 : 0 < l.length := HLP.out
  obtain ⟨w7, hw7⟩ : ∃ w7, w7 = ((w6.alloc (.cells #[.int .i8 4, .int .i64 0, .string ⟨#[]⟩, .string ⟨#[]⟩, .slice none 0 0, .int .i8 7, .int .i64 0, .string ⟨#[111, 107]⟩, .string ⟨#[]⟩, .slice none 0 0] 25)).alloc (.cells #[.int .i8 3, .int .i64 0, .string ⟨#[]⟩, .string ⟨#[]⟩, .slice (some ⟨w6.heap.size, 0, none⟩) 2 2] 25)).alloc (.cells #[.int .i8 2, .int .i64 0, .string nm, .string ⟨#[]⟩, .slice (some ⟨w6.heap.size + 1, 0, none⟩) 1 1] 25) := ⟨_, rfl⟩
  have hf7 := moreF_at nm HNM.out w6 w7 hw7
  have H7 := Lib.hid (H6.out.under hf7.1)
  have HF7 := Lib.hid hf7
  clear hf7
  go_upto_region 11 with fail
  simp only [Nat.add_assoc, Nat.reduceAdd]
  rw [← hw7]
  clear hw7
  have HZ6 : Hid (w6.heap.size + 2 < w7.heap.size) := heap_lt HF7.out.2.1
  obtain ⟨bf, hbf⟩ : ∃ bf, bf = w6.heap.size + 2 := ⟨_, rfl⟩
  rw [← hbf] at HF7 HZ6 ⊢
  clear hbf
  have x0 : w7.cell? ⟨w.heap.size, 0, none⟩ = some (.int .i8 k) := cell_of_row (i := 0) H7.out.box rfl
  have x1 : w7.cell? ⟨w.heap.size, 1, none⟩ = some (.int .i64 n) := cell_of_row (i := 1) H7.out.box rfl
  have x2 : w7.cell? ⟨w.heap.size, 2, none⟩ = some (.string s) := cell_of_row (i := 2) H7.out.box rfl
  have x3 : w7.cell? ⟨w.heap.size, 3, none⟩ = some (.string t) := cell_of_row (i := 3) H7.out.box rfl
  have x4 : w7.cell? ⟨w.heap.size, 4, none⟩ = some (.slice (some ⟨g, off, oo⟩) l.length cap) := cell_of_row (i := 4) H7.out.box rfl
  obtain ⟨e0, e1, e2, e3, e4⟩ := HEL.out w7 H7.out.below
  go_wp2_with fail
  obtain ⟨w8, hw8⟩ : ∃ w8, w8 = w7.alloc (.cells #[.int .i8 mk, .int .i64 mn, .string msn, .string mt, .slice mA ml.length mcap] 25) := ⟨_, rfl⟩
  obtain ⟨hg8, hb8⟩ := alloc9_at w7 _ w8 hw8
  have H8 := Lib.hid (H7.out.under hb8)
  have HB8 := Lib.hid hb8
  have HG8 := Lib.hid hg8
  have HZ8 : Hid (w8.heap.size = w7.heap.size + 1) := by rw [hw8]; exact World.size_alloc _ _
  rw [← hw8]
  clear hw8 hg8 hb8 x0 x1 x2 x3 x4 e0 e1 e2 e3 e4
  have HLL : Hid (ml.length < 8200) := by
    show ml.length < 8200
    have h1 := Tm.nodes_mem (l := l) (x := M) (by rw [HLM.out]; exact List.mem_cons_self)
    have h2 := pres_le9 X
    rw [HXL.out] at h2
    have h3 := len_pres9 ml
    have h4 := HNX.out
    rw [HM.out, nodes_mk9] at h1
    omega
  obtain ⟨n5, hn5⟩ : ∃ n5, n5 = (ml ++ [moreF nm]).length := ⟨_, rfl⟩
  have HN5 := Lib.hid hn5
  clear hn5
  go_cut [] (fun wx => ∃ A5 cap5, Hid (R12 w7 mk mn msn mt ml nm A5 n5 cap5 wx))
  case first =>
    refine wp_region_E (S := fun V => Below w8.heap.size w8 V) [8] (by kernel_rfl) ⟨rfl, rfl, rfl, Nat.le_refl _, fun _ _ => rfl⟩ (fun hS => ?_)
    have hDz : w8.drew.heap.size = w8.heap.size := rfl
    generalize w8.drew = D at hS hDz ⊢
    have HDW := Lib.hid hS
    have HDZ := Lib.hid hDz
    clear hDz
    obtain ⟨P, hPd⟩ : ∃ P : Nat → Prop, P = (· < w7.heap.size) := ⟨_, rfl⟩
    have HPD := Lib.hid hPd
    have HP : Hid (∀ b, P b → b < D.heap.size) := fun b hb => by rw [hPd] at hb; have h1 := HDZ.out; have h2 := HZ8.out; have h3 : b < w7.heap.size := hb; omega
    have HTL : Hid (TRow P D mA ml.length mcap ml) := by
      rw [hPd]
      have hb := (H8.out.under hS).below
      exact (HRM.out.keep (fun b hb' => hb.block b hb') (fun b hb' => Nat.lt_of_lt_of_le hb' H7.out.below.size))
    have HTF : Hid (TmAt P D (moreF nm) (.agg #[.int .i8 2, .int .i64 0, .string nm, .string ⟨#[]⟩, .slice (some ⟨w6.heap.size + 1, 0, none⟩) 1 1])) := by
      rw [hPd]
      exact HF7.out.2.2.keep (fun b hb' => (hS.block b (by have := HZ8.out; have h3 : b < w7.heap.size := hb'; omega)).trans (HB8.out.block b hb')) (fun _ h => h)
    have h : StN D D P [] (.slice none 0 0) [] := StN.start _ _
    clear hPd
    refine wpAnyE_take (i := 1) (oi := ⟨some 79, _, _, _, _, _⟩) (v := ?_) rfl (by kernel_rfl) (by kernel_rfl) (by kernel_rfl) (by kernel_rfl) (fun _ _ _ h => h) (Or.inl ⟨by kernel_rfl, ?_⟩) (by assumption) ?_; rotate_left; (intro VV hSw; (try dsimp only at hSw); go_simp; first | done | with_reducible rfl); (try simp only [Act.put, List.setIfInBounds_toArray, List.set_cons_zero, List.set_cons_succ])
    refine wpAnyE_take (i := 2) (oi := ⟨some 80, _, _, _, _, _⟩) (v := ?_) rfl (by kernel_rfl) (by kernel_rfl) (by kernel_rfl) (by kernel_rfl) (fun _ _ _ h => h) (Or.inl ⟨by kernel_rfl, ?_⟩) (by assumption) ?_; rotate_left; (intro VV hSw; (try dsimp only at hSw); have hm := (hSw.block _ (heap_lt HG8.out)).trans HG8.out; have y4 : VV.cell? ⟨w7.heap.size, 4, none⟩ = some (.slice mA ml.length mcap) := cell_of_row (i := 4) hm rfl; go_simp; first | done | with_reducible rfl); (try simp only [Act.put, List.setIfInBounds_toArray, List.set_cons_zero, List.set_cons_succ])
    refine wpAnyE_take (i := 4) (oi := ⟨some 82, _, _, _, _, _⟩) (v := ?_) rfl (by kernel_rfl) (by kernel_rfl) (by kernel_rfl) (by kernel_rfl) (fun _ _ _ h => h) (Or.inl ⟨by kernel_rfl, ?_⟩) (by assumption) ?_; rotate_left; (intro VV hSw; (try dsimp only at hSw); have hf := (hSw.block _ (heap_lt ((HB8.out.block _ (heap_lt HF7.out.2.1)).trans HF7.out.2.1))).trans ((HB8.out.block _ (heap_lt HF7.out.2.1)).trans HF7.out.2.1); have f0 : VV.cell? ⟨bf, 0, none⟩ = some (.int .i8 2) := cell_of_row (i := 0) hf rfl; have f1 : VV.cell? ⟨bf, 1, none⟩ = some (.int .i64 0) := cell_of_row (i := 1) hf rfl; have f2 : VV.cell? ⟨bf, 2, none⟩ = some (.string nm) := cell_of_row (i := 2) hf rfl; have f3 : VV.cell? ⟨bf, 3, none⟩ = some (.string ⟨#[]⟩) := cell_of_row (i := 3) hf rfl; have f4 : VV.cell? ⟨bf, 4, none⟩ = some (.slice (some ⟨w6.heap.size + 1, 0, none⟩) 1 1) := cell_of_row (i := 4) hf rfl; go_simp; first | done | with_reducible rfl); (try simp only [Act.put, List.setIfInBounds_toArray, List.set_cons_zero, List.set_cons_succ])
    refine wpAnyE_two (i := 0) (j := 5) (o := ⟨some 78, _, _, _, _, _⟩) (o' := ⟨some 83, _, _, _, _, _⟩) (by kernel_rfl) rfl rfl (fun K hK => ?_) (fun K hK => ?_)
    · rw [if_pos (by rfl)]
      go_simp
      have h1 := h.fresh HP.out
      have hS1 := hS.alloc hS.size (.cells #[] 25)
      obtain ⟨g0, hg⟩ : ∃ g, g = D.heap.size := ⟨_, rfl⟩
      rw [← hg] at h1
      refine hK.out _ _ hS1 (fun hSn => ?_)
      clear hK K hSn; (try simp only [Act.put, List.setIfInBounds_toArray, List.set_cons_zero, List.set_cons_succ])
      rw [← hg]
      clear hg
      generalize D.alloc (.cells #[] 25) = X1 at h1 hS1 ⊢
      clear h hS
      have h := h1
      have hS := hS1
      clear h1 hS1
      refine wpAnyE_two (i := 3) (j := 5) (o := ⟨some 81, _, _, _, _, _⟩) (o' := ⟨some 83, _, _, _, _, _⟩) (by kernel_rfl) rfl rfl (fun K hK => ?_) (fun K hK => ?_)
      · rw [if_pos (by rfl)]
        have hb0 := h.below
        refine wp_own_termsN (.tmp 78) (.tmp 80) rfl h.own hb0.size (h.apart HP.out) rfl rfl (HTL.out.keep (fun b hb => hb0.block b (HP.out b hb)) (fun _ h => h)) (by have := HLL.out; show 0 + _ ≤ _; omega) ?_
        intro v1 X2 O hg hb
        rw [List.nil_append] at O
        have h1 := h.app O hg hb
        have hS1 : Below w8.heap.size w8 X2 := HDW.out.trans (h1.below.mono (by rw [HDZ.out]; exact Nat.le_refl _))
        refine hK.out _ _ hS1 (fun hSn => ?_)
        clear hK K hSn; (try simp only [Act.put, List.setIfInBounds_toArray, List.set_cons_zero, List.set_cons_succ])
        clear O hg hb hb0
        clear h hS
        have h := h1
        have hS := hS1
        clear h1 hS1
        refine wpAnyE_one (i := 5) (o := ⟨some 83, _, _, _, _, _⟩) (by kernel_rfl) rfl (fun K hK => ?_)
        rw [if_pos (by rfl)]
        go_simp
        have h1 := h.alloc HP.out (.cells #[.int .i8 2, .int .i64 0, .string nm, .string ⟨#[]⟩, .slice (some ⟨w6.heap.size + 1, 0, none⟩) 1 1] 25)
        have hS1 := hS.alloc hS.size (.cells #[.int .i8 2, .int .i64 0, .string nm, .string ⟨#[]⟩, .slice (some ⟨w6.heap.size + 1, 0, none⟩) 1 1] 25)
        obtain ⟨g5, hg⟩ : ∃ g, g = X2.heap.size := ⟨_, rfl⟩
        rw [← hg] at h1
        refine hK.out _ _ hS1 (fun hSn => ?_)
        clear hK K hSn; (try simp only [Act.put, List.setIfInBounds_toArray, List.set_cons_zero, List.set_cons_succ])
        rw [← hg]
        clear hg
        generalize X2.alloc (.cells #[.int .i8 2, .int .i64 0, .string nm, .string ⟨#[]⟩, .slice (some ⟨w6.heap.size + 1, 0, none⟩) 1 1] 25) = X3 at h1 hS1 ⊢
        clear h hS
        have h := h1
        have hS := hS1
        clear h1 hS1
        refine wpAnyE_one (i := 6) (o := ⟨some 84, _, _, _, _, _⟩) (by kernel_rfl) rfl (fun K hK => ?_)
        rw [if_pos (by rfl)]
        have hb0 := h.below
        refine wp_own_termN (.tmp 81) (.tmp 83) rfl h.own hb0.size (h.apart HP.out) rfl g5 rfl (h.kept (g5, .cells #[.int .i8 2, .int .i64 0, .string nm, .string ⟨#[]⟩, .slice (some ⟨w6.heap.size + 1, 0, none⟩) 1 1] 25) (by simp)).2.1 (HTF.out.keep (fun b hb => hb0.block b (HP.out b hb)) (fun _ h => h)) (by have := HLL.out; omega) ?_
        intro v2 X4 O hg hb
        have h1 := h.app O hg (hb.imp Eq.symm id)
        obtain ⟨A5, cap5, rfl⟩ := O.shape
        rw [← HN5.out] at h1
        have hS1 : Below w8.heap.size w8 X4 := HDW.out.trans (h1.below.mono (by rw [HDZ.out]; exact Nat.le_refl _))
        refine hK.out _ _ hS1 (fun hSn => ?_)
        clear hK K hSn; (try simp only [Act.put, List.setIfInBounds_toArray, List.set_cons_zero, List.set_cons_succ])
        rw [← HN5.out]
        clear O hg hb hb0
        clear h hS
        have h := h1
        have hS := hS1
        clear h1 hS1
        refine wpAnyE_take (i := 7) (oi := ⟨some 85, _, _, _, _, _⟩) (v := ?_) rfl (by kernel_rfl) (by kernel_rfl) (by kernel_rfl) (by kernel_rfl) (fun _ _ _ h => h) (Or.inl ⟨by kernel_rfl, ?_⟩) (by assumption) ?_; rotate_left; (intro VV hSw; (try dsimp only at hSw); go_simp; first | done | with_reducible rfl); (try simp only [Act.put, List.setIfInBounds_toArray, List.set_cons_zero, List.set_cons_succ])
        have hg9 := (hS.block _ (heap_lt HG8.out)).trans HG8.out
        have y4 : X4.cell? ⟨w7.heap.size, 4, none⟩ = some (.slice mA ml.length mcap) := cell_of_row (i := 4) hg9 rfl
        have yf : X4.frozen? ⟨w7.heap.size, 4, none⟩ = false := free_of_row (i := 4) hg9
        have HR12 := Lib.hid (r12_of h HPD.out HB8.out HZ8.out hS HG8.out HTM.out HM.out HN5.out H7.out.below HDZ.out)
        clear hg9
        refine wpAnyE_late (i := 8) (o := ⟨none, _, _, _, _, _⟩) (by kernel_rfl) rfl (by kernel_rfl) (fun K hK => ?_)
        rw [if_pos (by rfl)]
        go_simp
        refine hK.out _ _ ?_
        clear hK K; (try simp only [Act.put, List.setIfInBounds_toArray, List.set_cons_zero, List.set_cons_succ])
        refine wpAny_done (by kernel_rfl) ?_ _
        clear y4 yf
        go_wp2_with fail
        go_meet
        exact ⟨_, _, HR12⟩
      · rw [if_pos (by rfl)]
        go_simp
        have h1 := h.alloc HP.out (.cells #[.int .i8 2, .int .i64 0, .string nm, .string ⟨#[]⟩, .slice (some ⟨w6.heap.size + 1, 0, none⟩) 1 1] 25)
        have hS1 := hS.alloc hS.size (.cells #[.int .i8 2, .int .i64 0, .string nm, .string ⟨#[]⟩, .slice (some ⟨w6.heap.size + 1, 0, none⟩) 1 1] 25)
        obtain ⟨g5, hg⟩ : ∃ g, g = X1.heap.size := ⟨_, rfl⟩
        rw [← hg] at h1
        refine hK.out _ _ hS1 (fun hSn => ?_)
        clear hK K hSn; (try simp only [Act.put, List.setIfInBounds_toArray, List.set_cons_zero, List.set_cons_succ])
        rw [← hg]
        clear hg
        generalize X1.alloc (.cells #[.int .i8 2, .int .i64 0, .string nm, .string ⟨#[]⟩, .slice (some ⟨w6.heap.size + 1, 0, none⟩) 1 1] 25) = X5 at h1 hS1 ⊢
        clear h hS
        have h := h1
        have hS := hS1
        clear h1 hS1
        refine wpAnyE_one (i := 3) (o := ⟨some 81, _, _, _, _, _⟩) (by kernel_rfl) rfl (fun K hK => ?_)
        rw [if_pos (by rfl)]
        have hb0 := h.below
        refine wp_own_termsN (.tmp 78) (.tmp 80) rfl h.own hb0.size (h.apart HP.out) rfl rfl (HTL.out.keep (fun b hb => hb0.block b (HP.out b hb)) (fun _ h => h)) (by have := HLL.out; show 0 + _ ≤ _; omega) ?_
        intro v1 X6 O hg hb
        rw [List.nil_append] at O
        have h1 := h.app O hg hb
        have hS1 : Below w8.heap.size w8 X6 := HDW.out.trans (h1.below.mono (by rw [HDZ.out]; exact Nat.le_refl _))
        refine hK.out _ _ hS1 (fun hSn => ?_)
        clear hK K hSn; (try simp only [Act.put, List.setIfInBounds_toArray, List.set_cons_zero, List.set_cons_succ])
        clear O hg hb hb0
        clear h hS
        have h := h1
        have hS := hS1
        clear h1 hS1
        refine wpAnyE_one (i := 6) (o := ⟨some 84, _, _, _, _, _⟩) (by kernel_rfl) rfl (fun K hK => ?_)
        rw [if_pos (by rfl)]
        have hb0 := h.below
        refine wp_own_termN (.tmp 81) (.tmp 83) rfl h.own hb0.size (h.apart HP.out) rfl g5 rfl (h.kept (g5, .cells #[.int .i8 2, .int .i64 0, .string nm, .string ⟨#[]⟩, .slice (some ⟨w6.heap.size + 1, 0, none⟩) 1 1] 25) (by simp)).2.1 (HTF.out.keep (fun b hb => hb0.block b (HP.out b hb)) (fun _ h => h)) (by have := HLL.out; omega) ?_
        intro v2 X7 O hg hb
        have h1 := h.app O hg (hb.imp Eq.symm id)
        obtain ⟨A5, cap5, rfl⟩ := O.shape
        rw [← HN5.out] at h1
        have hS1 : Below w8.heap.size w8 X7 := HDW.out.trans (h1.below.mono (by rw [HDZ.out]; exact Nat.le_refl _))
        refine hK.out _ _ hS1 (fun hSn => ?_)
        clear hK K hSn; (try simp only [Act.put, List.setIfInBounds_toArray, List.set_cons_zero, List.set_cons_succ])
        rw [← HN5.out]
        clear O hg hb hb0
        clear h hS
        have h := h1
        have hS := hS1
        clear h1 hS1
        refine wpAnyE_take (i := 7) (oi := ⟨some 85, _, _, _, _, _⟩) (v := ?_) rfl (by kernel_rfl) (by kernel_rfl) (by kernel_rfl) (by kernel_rfl) (fun _ _ _ h => h) (Or.inl ⟨by kernel_rfl, ?_⟩) (by assumption) ?_; rotate_left; (intro VV hSw; (try dsimp only at hSw); go_simp; first | done | with_reducible rfl); (try simp only [Act.put, List.setIfInBounds_toArray, List.set_cons_zero, List.set_cons_succ])
        have hg9 := (hS.block _ (heap_lt HG8.out)).trans HG8.out
        have y4 : X7.cell? ⟨w7.heap.size, 4, none⟩ = some (.slice mA ml.length mcap) := cell_of_row (i := 4) hg9 rfl
        have yf : X7.frozen? ⟨w7.heap.size, 4, none⟩ = false := free_of_row (i := 4) hg9
        have HR12 := Lib.hid (r12_of h HPD.out HB8.out HZ8.out hS HG8.out HTM.out HM.out HN5.out H7.out.below HDZ.out)
        clear hg9
        refine wpAnyE_late (i := 8) (o := ⟨none, _, _, _, _, _⟩) (by kernel_rfl) rfl (by kernel_rfl) (fun K hK => ?_)
        rw [if_pos (by rfl)]
        go_simp
        refine hK.out _ _ ?_
        clear hK K; (try simp only [Act.put, List.setIfInBounds_toArray, List.set_cons_zero, List.set_cons_succ])
        refine wpAny_done (by kernel_rfl) ?_ _
        clear y4 yf
        go_wp2_with fail
        go_meet
        exact ⟨_, _, HR12⟩
    · rw [if_pos (by rfl)]
      go_simp
      have h1 := h.alloc HP.out (.cells #[.int .i8 2, .int .i64 0, .string nm, .string ⟨#[]⟩, .slice (some ⟨w6.heap.size + 1, 0, none⟩) 1 1] 25)
      have hS1 := hS.alloc hS.size (.cells #[.int .i8 2, .int .i64 0, .string nm, .string ⟨#[]⟩, .slice (some ⟨w6.heap.size + 1, 0, none⟩) 1 1] 25)
      obtain ⟨g5, hg⟩ : ∃ g, g = D.heap.size := ⟨_, rfl⟩
      rw [← hg] at h1
      refine hK.out _ _ hS1 (fun hSn => ?_)
      clear hK K hSn; (try simp only [Act.put, List.setIfInBounds_toArray, List.set_cons_zero, List.set_cons_succ])
      rw [← hg]
      clear hg
      generalize D.alloc (.cells #[.int .i8 2, .int .i64 0, .string nm, .string ⟨#[]⟩, .slice (some ⟨w6.heap.size + 1, 0, none⟩) 1 1] 25) = X8 at h1 hS1 ⊢
      clear h hS
      have h := h1
      have hS := hS1
      clear h1 hS1
      refine wpAnyE_one (i := 0) (o := ⟨some 78, _, _, _, _, _⟩) (by kernel_rfl) rfl (fun K hK => ?_)
      rw [if_pos (by rfl)]
      go_simp
      have h1 := h.fresh HP.out
      have hS1 := hS.alloc hS.size (.cells #[] 25)
      obtain ⟨g0, hg⟩ : ∃ g, g = X8.heap.size := ⟨_, rfl⟩
      rw [← hg] at h1
      refine hK.out _ _ hS1 (fun hSn => ?_)
      clear hK K hSn; (try simp only [Act.put, List.setIfInBounds_toArray, List.set_cons_zero, List.set_cons_succ])
      rw [← hg]
      clear hg
      generalize X8.alloc (.cells #[] 25) = X9 at h1 hS1 ⊢
      clear h hS
      have h := h1
      have hS := hS1
      clear h1 hS1
      refine wpAnyE_one (i := 3) (o := ⟨some 81, _, _, _, _, _⟩) (by kernel_rfl) rfl (fun K hK => ?_)
      rw [if_pos (by rfl)]
      have hb0 := h.below
      refine wp_own_termsN (.tmp 78) (.tmp 80) rfl h.own hb0.size (h.apart HP.out) rfl rfl (HTL.out.keep (fun b hb => hb0.block b (HP.out b hb)) (fun _ h => h)) (by have := HLL.out; show 0 + _ ≤ _; omega) ?_
      intro v1 X10 O hg hb
      rw [List.nil_append] at O
      have h1 := h.app O hg hb
      have hS1 : Below w8.heap.size w8 X10 := HDW.out.trans (h1.below.mono (by rw [HDZ.out]; exact Nat.le_refl _))
      refine hK.out _ _ hS1 (fun hSn => ?_)
      clear hK K hSn; (try simp only [Act.put, List.setIfInBounds_toArray, List.set_cons_zero, List.set_cons_succ])
      clear O hg hb hb0
      clear h hS
      have h := h1
      have hS := hS1
      clear h1 hS1
      refine wpAnyE_one (i := 6) (o := ⟨some 84, _, _, _, _, _⟩) (by kernel_rfl) rfl (fun K hK => ?_)
      rw [if_pos (by rfl)]
      have hb0 := h.below
      refine wp_own_termN (.tmp 81) (.tmp 83) rfl h.own hb0.size (h.apart HP.out) rfl g5 rfl (h.kept (g5, .cells #[.int .i8 2, .int .i64 0, .string nm, .string ⟨#[]⟩, .slice (some ⟨w6.heap.size + 1, 0, none⟩) 1 1] 25) (by simp)).2.1 (HTF.out.keep (fun b hb => hb0.block b (HP.out b hb)) (fun _ h => h)) (by have := HLL.out; omega) ?_
      intro v2 X11 O hg hb
      have h1 := h.app O hg (hb.imp Eq.symm id)
      obtain ⟨A5, cap5, rfl⟩ := O.shape
      rw [← HN5.out] at h1
      have hS1 : Below w8.heap.size w8 X11 := HDW.out.trans (h1.below.mono (by rw [HDZ.out]; exact Nat.le_refl _))
      refine hK.out _ _ hS1 (fun hSn => ?_)
      clear hK K hSn; (try simp only [Act.put, List.setIfInBounds_toArray, List.set_cons_zero, List.set_cons_succ])
      rw [← HN5.out]
      clear O hg hb hb0
      clear h hS
      have h := h1
      have hS := hS1
      clear h1 hS1
      refine wpAnyE_take (i := 7) (oi := ⟨some 85, _, _, _, _, _⟩) (v := ?_) rfl (by kernel_rfl) (by kernel_rfl) (by kernel_rfl) (by kernel_rfl) (fun _ _ _ h => h) (Or.inl ⟨by kernel_rfl, ?_⟩) (by assumption) ?_; rotate_left; (intro VV hSw; (try dsimp only at hSw); go_simp; first | done | with_reducible rfl); (try simp only [Act.put, List.setIfInBounds_toArray, List.set_cons_zero, List.set_cons_succ])
      have hg9 := (hS.block _ (heap_lt HG8.out)).trans HG8.out
      have y4 : X11.cell? ⟨w7.heap.size, 4, none⟩ = some (.slice mA ml.length mcap) := cell_of_row (i := 4) hg9 rfl
      have yf : X11.frozen? ⟨w7.heap.size, 4, none⟩ = false := free_of_row (i := 4) hg9
      have HR12 := Lib.hid (r12_of h HPD.out HB8.out HZ8.out hS HG8.out HTM.out HM.out HN5.out H7.out.below HDZ.out)
      clear hg9
      refine wpAnyE_late (i := 8) (o := ⟨none, _, _, _, _, _⟩) (by kernel_rfl) rfl (by kernel_rfl) (fun K hK => ?_)
      rw [if_pos (by rfl)]
      go_simp
      refine hK.out _ _ ?_
      clear hK K; (try simp only [Act.put, List.setIfInBounds_toArray, List.set_cons_zero, List.set_cons_succ])
      refine wpAny_done (by kernel_rfl) ?_ _
      clear y4 yf
      go_wp2_with fail
      go_meet
      exact ⟨_, _, HR12⟩
  case rest =>
  obtain ⟨A5, cap5, hcut⟩ := hcut
  obtain ⟨w9, hw9⟩ : ∃ w9, w9 = wc := ⟨_, rfl⟩
  subst hw9
  have H9 := Lib.hid (H7.out.under hcut.out.below)
  have HMB := Lib.hid hcut.out
  clear hcut
  obtain ⟨M2, hM2⟩ : ∃ M2, M2 = moreM M nm := ⟨_, rfl⟩
  have HM2 : Hid (TmAt (· < w9.heap.size) w9 M2 (.agg #[.int .i8 mk, .int .i64 mn, .string msn, .string mt, .slice A5 n5 cap5])) := by
    rw [hM2, HM.out]
    exact HMB.out.tree
  have HMM := Lib.hid hM2
  clear hM2
  have hlm1 : ms.length = l.length - 1 := by rw [HLM.out]; simp
  have HLS := Lib.hid hlm1
  have HLX : Hid (l.length < 8200) := by
    show _ < _
    have h2 := pres_le9 X
    rw [HXL.out] at h2
    have h3 := len_pres9 l
    have h4 := HNX.out
    have h5 := Tm.pre_ne X
    rw [show X.nodes = X.pre.length from rfl] at h2 h4
    obtain ⟨xk, xn, xs', xt, xl⟩ := X
    rw [Tm.pre, List.length_cons] at h4
    have h6 : xl = l := HXL.out
    rw [h6] at h4
    omega
  clear hlm1
  go_wp2_with fail
  go_cut [13] (fun p wx => ∃ g13 A6 n6 cap6, p = .pointer (some ⟨g13, 0, none⟩) ∧ Hid (R13 w9 M ms nm A6 n6 cap6 g13 wx))
  case first =>
    refine wp_region_held (S := fun V => Below w9.heap.size w9 V) (by kernel_rfl) ?_
    show wpAnyH _ _ _ _ _ _ _ _ w9.drew
    have hS : Below w9.heap.size w9 w9.drew := ⟨rfl, rfl, rfl, Nat.le_refl _, fun _ _ => rfl⟩
    have hDz : w9.drew.heap.size = w9.heap.size := rfl
    generalize w9.drew = D at hS hDz ⊢
    have HDW := Lib.hid hS
    have HDZ := Lib.hid hDz
    obtain ⟨P, hPd⟩ : ∃ P : Nat → Prop, P = (· < D.heap.size) := ⟨_, rfl⟩
    have HPD := Lib.hid hPd
    have HP : Hid (∀ b, P b → b < D.heap.size) := fun b hb => by rw [hPd] at hb; exact hb
    have HTM2 : Hid (TmAt P D M2 (.agg #[.int .i8 mk, .int .i64 mn, .string msn, .string mt, .slice A5 n5 cap5])) := by rw [hPd]; exact HM2.out.laterN hS
    obtain ⟨AT, hAT⟩ : ∃ AT : Option Addr, AT = if cap = 1 then some ⟨g, off, oo⟩ else some ⟨g, off + 5, none⟩ := ⟨_, rfl⟩
    have HAT := Lib.hid hAT
    have HTS : Hid (TRow P D AT (l.length - 1) (cap - 1) ms) := by
      rw [hPd]
      by_cases hc1 : cap = 1
      · have h1 := HR.out.cap
        have h2 := HLP.out
        have h3 := HLS.out
        have h4 : ms = [] := List.length_eq_zero_iff.1 (by omega)
        subst h4
        exact ⟨by simp; omega, by unfold maxLen; omega, by omega, fun j y hj => by simp at hj⟩
      rw [hAT, if_neg hc1]
      have hb := (H9.out.under hS).below
      have h1 := HR.out.keep (Q := (· < D.heap.size)) (w' := D) (fun b hb' => hb.block b hb') (fun b hb' => Nat.lt_of_lt_of_le hb' hb.size)
      rw [HLM.out] at h1 ⊢
      exact tail_row h1
    have h : StN D D P [] (.slice none 0 0) [] := StN.start _ _
    clear hPd hDz hAT
    refine wpAnyH_take (i := 0) (oi := ⟨some 86, _, _, _, _, _⟩) (v := ?_) rfl (by kernel_rfl) (by kernel_rfl) (by kernel_rfl) (fun _ _ _ h => h) (Or.inl ⟨by kernel_rfl, ?_⟩) (by assumption) ?_; rotate_left; (intro VV hSw; (try dsimp only at hSw); have hm := (hSw.block _ (heap_lt HMB.out.box)).trans HMB.out.box; have y0 : VV.cell? ⟨w7.heap.size, 0, none⟩ = some (.int .i8 mk) := cell_of_row (i := 0) hm rfl; have y1 : VV.cell? ⟨w7.heap.size, 1, none⟩ = some (.int .i64 mn) := cell_of_row (i := 1) hm rfl; have y2 : VV.cell? ⟨w7.heap.size, 2, none⟩ = some (.string msn) := cell_of_row (i := 2) hm rfl; have y3 : VV.cell? ⟨w7.heap.size, 3, none⟩ = some (.string mt) := cell_of_row (i := 3) hm rfl; have y4 : VV.cell? ⟨w7.heap.size, 4, none⟩ = some (.slice A5 n5 cap5) := cell_of_row (i := 4) hm rfl; go_simp; first | done | with_reducible rfl); (try simp only [Act.put, List.setIfInBounds_toArray, List.set_cons_zero, List.set_cons_succ])
    refine wpAnyH_take (i := 2) (oi := ⟨some 88, _, _, _, _, _⟩) (v := ?_) rfl (by kernel_rfl) (by kernel_rfl) (by kernel_rfl) (fun _ _ _ h => h) (Or.inl ⟨by kernel_rfl, ?_⟩) (by assumption) ?_; rotate_left; (intro VV hSw; (try dsimp only at hSw); go_simp; first | done | with_reducible rfl); (try simp only [Act.put, List.setIfInBounds_toArray, List.set_cons_zero, List.set_cons_succ])
    refine wpAnyH_take (i := 3) (oi := ⟨some 89, _, _, _, _, _⟩) (v := ?_) rfl (by kernel_rfl) (by kernel_rfl) (by kernel_rfl) (fun _ _ _ h => h) (Or.inl ⟨by kernel_rfl, ?_⟩) (by assumption) ?_; rotate_left; (intro VV hSw; (try dsimp only at hSw); have hbx := H9.out.under hSw; have x4 : VV.cell? ⟨w.heap.size, 4, none⟩ = some (.slice (some ⟨g, off, oo⟩) l.length cap) := hbx.cell 4 rfl; go_simp; first | done | with_reducible rfl); (try simp only [Act.put, List.setIfInBounds_toArray, List.set_cons_zero, List.set_cons_succ])
    refine wpAnyH_take (i := 4) (oi := ⟨some 90, _, _, _, _, _⟩) (v := .slice AT (l.length - 1) (cap - 1)) rfl (by kernel_rfl) (by kernel_rfl) (by kernel_rfl) (fun _ _ _ h => h) (Or.inl ⟨by kernel_rfl, ?_⟩) (by assumption) ?_
    · intro VV hSw
      have i0 : 1 ≤ l.length := HLP.out
      have ic : l.length ≤ cap := HR.out.cap
      have iz : (1 : Int) ≤ (l.length : Int) := by omega
      by_cases hc1 : cap = 1
      · rw [HAT.out, if_pos hc1]
        go_simp
        try exact hc1
      · rw [HAT.out, if_neg hc1]
        go_simp
        try exact hc1
    (try simp only [Act.put, List.setIfInBounds_toArray, List.set_cons_zero, List.set_cons_succ])
    refine wpAnyH_ready (rs := [1, 7]) (by kernel_rfl) (by simp) ?_
    refine AllReadyH.cons (o := ⟨some 87, _, _, _, _, _⟩) rfl (fun K hK => ?_) (AllReadyH.cons (o := ⟨some 13, _, _, _, _, _⟩) rfl (fun K hK => ?_) AllReadyH.nil)
    · rw [if_pos (by rfl)]
      go_simp
      have hTM := HTM2.out.keep (Q := P) (w' := D) (fun b hb => h.below.block b (HP.out b hb)) (fun _ h => h)
      have h1 := h.single HP.out hTM
      have hS1 := hS.alloc hS.size (.cells #[.int .i8 mk, .int .i64 mn, .string msn, .string mt, .slice A5 n5 cap5] 25)
      obtain ⟨g1, hg⟩ : ∃ g, g = D.heap.size := ⟨_, rfl⟩
      rw [← hg] at h1
      refine hK.out _ _ hS1 (fun hSn => ?_)
      clear hK K hSn; (try simp only [Act.put, List.setIfInBounds_toArray, List.set_cons_zero, List.set_cons_succ])
      rw [← hg]
      clear hg hTM
      generalize D.alloc (.cells #[.int .i8 mk, .int .i64 mn, .string msn, .string mt, .slice A5 n5 cap5] 25) = X12 at h1 hS1 ⊢
      clear h hS
      have h := h1
      have hS := hS1
      clear h1 hS1
      refine wpAnyH_ready (rs := [5, 7]) (by kernel_rfl) (by simp) ?_
      refine AllReadyH.cons (o := ⟨some 91, _, _, _, _, _⟩) rfl (fun K hK => ?_) (AllReadyH.cons (o := ⟨some 13, _, _, _, _, _⟩) rfl (fun K hK => ?_) AllReadyH.nil)
      · rw [if_pos (by rfl)]
        have hb0 := h.below
        refine wp_own_termsN (.tmp 87) (.tmp 90) rfl h.own hb0.size (h.apart HP.out) rfl rfl (HTS.out.keep (fun b hb => hb0.block b (HP.out b hb)) (fun _ h => h)) (by have := HLX.out; have := HLS.out; show 1 + _ ≤ _; omega) ?_
        intro v1 X13 O hg hb
        have h1 := h.app O hg hb
        obtain ⟨A6, cap6, rfl⟩ := O.shape
        obtain ⟨n6, hn6⟩ : ∃ n6, n6 = ([M2] ++ ms).length := ⟨_, rfl⟩
        have HN6 := Lib.hid hn6
        clear hn6
        rw [← HN6.out] at h1
        have hS1 : Below w9.heap.size w9 X13 := HDW.out.trans (h1.below.mono (by rw [HDZ.out]; exact Nat.le_refl _))
        refine hK.out _ _ hS1 (fun hSn => ?_)
        clear hK K hSn; (try simp only [Act.put, List.setIfInBounds_toArray, List.set_cons_zero, List.set_cons_succ])
        rw [← HN6.out]
        clear O hg hb hb0
        clear h hS
        have h := h1
        have hS := hS1
        clear h1 hS1
        refine wpAnyH_take (i := 6) (oi := ⟨some 92, _, _, _, _, _⟩) (v := ?_) rfl (by kernel_rfl) (by kernel_rfl) (by kernel_rfl) (fun _ _ _ h => h) (Or.inl ⟨by kernel_rfl, ?_⟩) (by assumption) ?_; rotate_left; (intro VV hSw; (try dsimp only at hSw); go_simp; first | done | with_reducible rfl); (try simp only [Act.put, List.setIfInBounds_toArray, List.set_cons_zero, List.set_cons_succ])
        refine wpAnyH_ready (rs := [7]) (by kernel_rfl) (by simp) ?_
        refine AllReadyH.cons (o := ⟨some 13, _, _, _, _, _⟩) rfl (fun K hK => ?_) AllReadyH.nil
        · rw [if_pos (by rfl)]
          go_simp
          have h1 := h.alloc HP.out (.cells #[.int .i8 0, .int .i64 0, .string ⟨#[]⟩, .string ⟨#[]⟩, .slice none 0 0] 25)
          have hS1 := hS.alloc hS.size (.cells #[.int .i8 0, .int .i64 0, .string ⟨#[]⟩, .string ⟨#[]⟩, .slice none 0 0] 25)
          obtain ⟨g13, hg⟩ : ∃ g, g = X13.heap.size := ⟨_, rfl⟩
          rw [← hg] at h1
          refine hK.out _ _ hS1 (fun hSn => ?_)
          clear hK K hSn; (try simp only [Act.put, List.setIfInBounds_toArray, List.set_cons_zero, List.set_cons_succ])
          rw [← hg]
          clear hg
          generalize X13.alloc (.cells #[.int .i8 0, .int .i64 0, .string ⟨#[]⟩, .string ⟨#[]⟩, .slice none 0 0] 25) = X14 at h1 hS1 ⊢
          clear h hS
          have h := h1
          have hS := hS1
          clear h1 hS1
          obtain ⟨gge, gz, gne⟩ := h.kept (g13, .cells #[.int .i8 0, .int .i64 0, .string ⟨#[]⟩, .string ⟨#[]⟩, .slice none 0 0] 25) (by simp)
          have z0 : X14.cell? ⟨g13, 0, none⟩ = some (.int .i8 0) := cell_of_row (i := 0) gz rfl
          have zf0 : X14.frozen? ⟨g13, 0, none⟩ = false := free_of_row (i := 0) gz
          have z1 : X14.cell? ⟨g13, 1, none⟩ = some (.int .i64 0) := cell_of_row (i := 1) gz rfl
          have zf1 : X14.frozen? ⟨g13, 1, none⟩ = false := free_of_row (i := 1) gz
          have z2 : X14.cell? ⟨g13, 2, none⟩ = some (.string ⟨#[]⟩) := cell_of_row (i := 2) gz rfl
          have zf2 : X14.frozen? ⟨g13, 2, none⟩ = false := free_of_row (i := 2) gz
          have z3 : X14.cell? ⟨g13, 3, none⟩ = some (.string ⟨#[]⟩) := cell_of_row (i := 3) gz rfl
          have zf3 : X14.frozen? ⟨g13, 3, none⟩ = false := free_of_row (i := 3) gz
          have z4 : X14.cell? ⟨g13, 4, none⟩ = some (.slice none 0 0) := cell_of_row (i := 4) gz rfl
          have zf4 : X14.frozen? ⟨g13, 4, none⟩ = false := free_of_row (i := 4) gz
          have HR13 := Lib.hid (r13_of h HPD.out hS HDZ.out HMM.out HN6.out)
          obtain ⟨s5, m5⟩ := set_five7 (.int .i8 0) (.int .i64 0) (.string ⟨#[]⟩) (.string ⟨#[]⟩) (.slice A6 n6 cap6) gz
          have hS9 := hS.trans (m5.below hS.size (fun k e => by have := HDZ.out; have h9 : D.heap.size ≤ g13 := gge; omega))
          clear s5 m5
          refine wpAnyH_ready (rs := [8]) (by kernel_rfl) (by simp) ?_
          refine AllReadyH.cons (o := ⟨none, _, _, _, _, _⟩) rfl (fun K hK => ?_) AllReadyH.nil
          · rw [if_pos (by rfl)]
            go_simp
            refine hK.out _ _ hS9 (fun hSn => ?_)
            clear hK K hSn; (try simp only [Act.put, List.setIfInBounds_toArray, List.set_cons_zero, List.set_cons_succ])
            refine wpAnyH_done (by kernel_rfl) ?_ _
            clear z0 zf0 z1 zf1 z2 zf2 z3 zf3 z4 zf4 gz
            go_wp2_with fail
            go_meet
            exact ⟨g13, A6, n6, cap6, rfl, HR13⟩
      · rw [if_pos (by rfl)]
        go_simp
        have h1 := h.alloc HP.out (.cells #[.int .i8 0, .int .i64 0, .string ⟨#[]⟩, .string ⟨#[]⟩, .slice none 0 0] 25)
        have hS1 := hS.alloc hS.size (.cells #[.int .i8 0, .int .i64 0, .string ⟨#[]⟩, .string ⟨#[]⟩, .slice none 0 0] 25)
        obtain ⟨g13, hg⟩ : ∃ g, g = X12.heap.size := ⟨_, rfl⟩
        rw [← hg] at h1
        refine hK.out _ _ hS1 (fun hSn => ?_)
        clear hK K hSn; (try simp only [Act.put, List.setIfInBounds_toArray, List.set_cons_zero, List.set_cons_succ])
        rw [← hg]
        clear hg
        generalize X12.alloc (.cells #[.int .i8 0, .int .i64 0, .string ⟨#[]⟩, .string ⟨#[]⟩, .slice none 0 0] 25) = X15 at h1 hS1 ⊢
        clear h hS
        have h := h1
        have hS := hS1
        clear h1 hS1
        refine wpAnyH_ready (rs := [5]) (by kernel_rfl) (by simp) ?_
        refine AllReadyH.cons (o := ⟨some 91, _, _, _, _, _⟩) rfl (fun K hK => ?_) AllReadyH.nil
        · rw [if_pos (by rfl)]
          have hb0 := h.below
          refine wp_own_termsN (.tmp 87) (.tmp 90) rfl h.own hb0.size (h.apart HP.out) rfl rfl (HTS.out.keep (fun b hb => hb0.block b (HP.out b hb)) (fun _ h => h)) (by have := HLX.out; have := HLS.out; show 1 + _ ≤ _; omega) ?_
          intro v1 X16 O hg hb
          have h1 := h.app O hg hb
          obtain ⟨A6, cap6, rfl⟩ := O.shape
          obtain ⟨n6, hn6⟩ : ∃ n6, n6 = ([M2] ++ ms).length := ⟨_, rfl⟩
          have HN6 := Lib.hid hn6
          clear hn6
          rw [← HN6.out] at h1
          have hS1 : Below w9.heap.size w9 X16 := HDW.out.trans (h1.below.mono (by rw [HDZ.out]; exact Nat.le_refl _))
          refine hK.out _ _ hS1 (fun hSn => ?_)
          clear hK K hSn; (try simp only [Act.put, List.setIfInBounds_toArray, List.set_cons_zero, List.set_cons_succ])
          rw [← HN6.out]
          clear O hg hb hb0
          clear h hS
          have h := h1
          have hS := hS1
          clear h1 hS1
          refine wpAnyH_take (i := 6) (oi := ⟨some 92, _, _, _, _, _⟩) (v := ?_) rfl (by kernel_rfl) (by kernel_rfl) (by kernel_rfl) (fun _ _ _ h => h) (Or.inl ⟨by kernel_rfl, ?_⟩) (by assumption) ?_; rotate_left; (intro VV hSw; (try dsimp only at hSw); go_simp; first | done | with_reducible rfl); (try simp only [Act.put, List.setIfInBounds_toArray, List.set_cons_zero, List.set_cons_succ])
          obtain ⟨gge, gz, gne⟩ := h.kept (g13, .cells #[.int .i8 0, .int .i64 0, .string ⟨#[]⟩, .string ⟨#[]⟩, .slice none 0 0] 25) (by simp)
          have z0 : X16.cell? ⟨g13, 0, none⟩ = some (.int .i8 0) := cell_of_row (i := 0) gz rfl
          have zf0 : X16.frozen? ⟨g13, 0, none⟩ = false := free_of_row (i := 0) gz
          have z1 : X16.cell? ⟨g13, 1, none⟩ = some (.int .i64 0) := cell_of_row (i := 1) gz rfl
          have zf1 : X16.frozen? ⟨g13, 1, none⟩ = false := free_of_row (i := 1) gz
          have z2 : X16.cell? ⟨g13, 2, none⟩ = some (.string ⟨#[]⟩) := cell_of_row (i := 2) gz rfl
          have zf2 : X16.frozen? ⟨g13, 2, none⟩ = false := free_of_row (i := 2) gz
          have z3 : X16.cell? ⟨g13, 3, none⟩ = some (.string ⟨#[]⟩) := cell_of_row (i := 3) gz rfl
          have zf3 : X16.frozen? ⟨g13, 3, none⟩ = false := free_of_row (i := 3) gz
          have z4 : X16.cell? ⟨g13, 4, none⟩ = some (.slice none 0 0) := cell_of_row (i := 4) gz rfl
          have zf4 : X16.frozen? ⟨g13, 4, none⟩ = false := free_of_row (i := 4) gz
          have HR13 := Lib.hid (r13_of h HPD.out hS HDZ.out HMM.out HN6.out)
          obtain ⟨s5, m5⟩ := set_five7 (.int .i8 0) (.int .i64 0) (.string ⟨#[]⟩) (.string ⟨#[]⟩) (.slice A6 n6 cap6) gz
          have hS9 := hS.trans (m5.below hS.size (fun k e => by have := HDZ.out; have h9 : D.heap.size ≤ g13 := gge; omega))
          clear s5 m5
          refine wpAnyH_ready (rs := [8]) (by kernel_rfl) (by simp) ?_
          refine AllReadyH.cons (o := ⟨none, _, _, _, _, _⟩) rfl (fun K hK => ?_) AllReadyH.nil
          · rw [if_pos (by rfl)]
            go_simp
            refine hK.out _ _ hS9 (fun hSn => ?_)
            clear hK K hSn; (try simp only [Act.put, List.setIfInBounds_toArray, List.set_cons_zero, List.set_cons_succ])
            refine wpAnyH_done (by kernel_rfl) ?_ _
            clear z0 zf0 z1 zf1 z2 zf2 z3 zf3 z4 zf4 gz
            go_wp2_with fail
            go_meet
            exact ⟨g13, A6, n6, cap6, rfl, HR13⟩
    · rw [if_pos (by rfl)]
      go_simp
      have h1 := h.alloc HP.out (.cells #[.int .i8 0, .int .i64 0, .string ⟨#[]⟩, .string ⟨#[]⟩, .slice none 0 0] 25)
      have hS1 := hS.alloc hS.size (.cells #[.int .i8 0, .int .i64 0, .string ⟨#[]⟩, .string ⟨#[]⟩, .slice none 0 0] 25)
      obtain ⟨g13, hg⟩ : ∃ g, g = D.heap.size := ⟨_, rfl⟩
      rw [← hg] at h1
      refine hK.out _ _ hS1 (fun hSn => ?_)
      clear hK K hSn; (try simp only [Act.put, List.setIfInBounds_toArray, List.set_cons_zero, List.set_cons_succ])
      rw [← hg]
      clear hg
      generalize D.alloc (.cells #[.int .i8 0, .int .i64 0, .string ⟨#[]⟩, .string ⟨#[]⟩, .slice none 0 0] 25) = X17 at h1 hS1 ⊢
      clear h hS
      have h := h1
      have hS := hS1
      clear h1 hS1
      refine wpAnyH_ready (rs := [1]) (by kernel_rfl) (by simp) ?_
      refine AllReadyH.cons (o := ⟨some 87, _, _, _, _, _⟩) rfl (fun K hK => ?_) AllReadyH.nil
      · rw [if_pos (by rfl)]
        go_simp
        have hTM := HTM2.out.keep (Q := P) (w' := X17) (fun b hb => h.below.block b (HP.out b hb)) (fun _ h => h)
        have h1 := h.single HP.out hTM
        have hS1 := hS.alloc hS.size (.cells #[.int .i8 mk, .int .i64 mn, .string msn, .string mt, .slice A5 n5 cap5] 25)
        obtain ⟨g1, hg⟩ : ∃ g, g = X17.heap.size := ⟨_, rfl⟩
        rw [← hg] at h1
        refine hK.out _ _ hS1 (fun hSn => ?_)
        clear hK K hSn; (try simp only [Act.put, List.setIfInBounds_toArray, List.set_cons_zero, List.set_cons_succ])
        rw [← hg]
        clear hg hTM
        generalize X17.alloc (.cells #[.int .i8 mk, .int .i64 mn, .string msn, .string mt, .slice A5 n5 cap5] 25) = X18 at h1 hS1 ⊢
        clear h hS
        have h := h1
        have hS := hS1
        clear h1 hS1
        refine wpAnyH_ready (rs := [5]) (by kernel_rfl) (by simp) ?_
        refine AllReadyH.cons (o := ⟨some 91, _, _, _, _, _⟩) rfl (fun K hK => ?_) AllReadyH.nil
        · rw [if_pos (by rfl)]
          have hb0 := h.below
          refine wp_own_termsN (.tmp 87) (.tmp 90) rfl h.own hb0.size (h.apart HP.out) rfl rfl (HTS.out.keep (fun b hb => hb0.block b (HP.out b hb)) (fun _ h => h)) (by have := HLX.out; have := HLS.out; show 1 + _ ≤ _; omega) ?_
          intro v1 X19 O hg hb
          have h1 := h.app O hg hb
          obtain ⟨A6, cap6, rfl⟩ := O.shape
          obtain ⟨n6, hn6⟩ : ∃ n6, n6 = ([M2] ++ ms).length := ⟨_, rfl⟩
          have HN6 := Lib.hid hn6
          clear hn6
          rw [← HN6.out] at h1
          have hS1 : Below w9.heap.size w9 X19 := HDW.out.trans (h1.below.mono (by rw [HDZ.out]; exact Nat.le_refl _))
          refine hK.out _ _ hS1 (fun hSn => ?_)
          clear hK K hSn; (try simp only [Act.put, List.setIfInBounds_toArray, List.set_cons_zero, List.set_cons_succ])
          rw [← HN6.out]
          clear O hg hb hb0
          clear h hS
          have h := h1
          have hS := hS1
          clear h1 hS1
          refine wpAnyH_take (i := 6) (oi := ⟨some 92, _, _, _, _, _⟩) (v := ?_) rfl (by kernel_rfl) (by kernel_rfl) (by kernel_rfl) (fun _ _ _ h => h) (Or.inl ⟨by kernel_rfl, ?_⟩) (by assumption) ?_; rotate_left; (intro VV hSw; (try dsimp only at hSw); go_simp; first | done | with_reducible rfl); (try simp only [Act.put, List.setIfInBounds_toArray, List.set_cons_zero, List.set_cons_succ])
          obtain ⟨gge, gz, gne⟩ := h.kept (g13, .cells #[.int .i8 0, .int .i64 0, .string ⟨#[]⟩, .string ⟨#[]⟩, .slice none 0 0] 25) (by simp)
          have z0 : X19.cell? ⟨g13, 0, none⟩ = some (.int .i8 0) := cell_of_row (i := 0) gz rfl
          have zf0 : X19.frozen? ⟨g13, 0, none⟩ = false := free_of_row (i := 0) gz
          have z1 : X19.cell? ⟨g13, 1, none⟩ = some (.int .i64 0) := cell_of_row (i := 1) gz rfl
          have zf1 : X19.frozen? ⟨g13, 1, none⟩ = false := free_of_row (i := 1) gz
          have z2 : X19.cell? ⟨g13, 2, none⟩ = some (.string ⟨#[]⟩) := cell_of_row (i := 2) gz rfl
          have zf2 : X19.frozen? ⟨g13, 2, none⟩ = false := free_of_row (i := 2) gz
          have z3 : X19.cell? ⟨g13, 3, none⟩ = some (.string ⟨#[]⟩) := cell_of_row (i := 3) gz rfl
          have zf3 : X19.frozen? ⟨g13, 3, none⟩ = false := free_of_row (i := 3) gz
          have z4 : X19.cell? ⟨g13, 4, none⟩ = some (.slice none 0 0) := cell_of_row (i := 4) gz rfl
          have zf4 : X19.frozen? ⟨g13, 4, none⟩ = false := free_of_row (i := 4) gz
          have HR13 := Lib.hid (r13_of h HPD.out hS HDZ.out HMM.out HN6.out)
          obtain ⟨s5, m5⟩ := set_five7 (.int .i8 0) (.int .i64 0) (.string ⟨#[]⟩) (.string ⟨#[]⟩) (.slice A6 n6 cap6) gz
          have hS9 := hS.trans (m5.below hS.size (fun k e => by have := HDZ.out; have h9 : D.heap.size ≤ g13 := gge; omega))
          clear s5 m5
          refine wpAnyH_ready (rs := [8]) (by kernel_rfl) (by simp) ?_
          refine AllReadyH.cons (o := ⟨none, _, _, _, _, _⟩) rfl (fun K hK => ?_) AllReadyH.nil
          · rw [if_pos (by rfl)]
            go_simp
            refine hK.out _ _ hS9 (fun hSn => ?_)
            clear hK K hSn; (try simp only [Act.put, List.setIfInBounds_toArray, List.set_cons_zero, List.set_cons_succ])
            refine wpAnyH_done (by kernel_rfl) ?_ _
            clear z0 zf0 z1 zf1 z2 zf2 z3 zf3 z4 zf4 gz
            go_wp2_with fail
            go_meet
            exact ⟨g13, A6, n6, cap6, rfl, HR13⟩
  case rest =>
  obtain ⟨g13, A6, n6, cap6, rfl, hcut⟩ := hcut
  obtain ⟨w10, hw10⟩ : ∃ w10, w10 = wc := ⟨_, rfl⟩
  subst hw10
  have H10 := Lib.hid (H9.out.under hcut.below)
  have HO := Lib.hid hcut
  have HM10 := Lib.hid ((hcut.below.block _ (heap_lt HMB.out.box)).trans HMB.out.box)
  have hMs : M.s = msn := by rw [HM.out]; rfl
  have hFn : findT (M.s, nm, 0) (fns9T X) = none := by
    rw [hMs]
    have := HBB.out
    cases hq : findT (msn, nm, 0) (fns9T X) with
    | none => rfl
    | some y => rw [hq] at this; cases this
  have hnn : X.nodes + 4 ≤ 4096 := by have h1 := HBIG.out; have h2 := HN0.out; omega
  have hmore := more9 (HXL.out.trans HLM.out) HE0.out.symm HA1.out.symm HA2.out.symm hFn hnn
  rw [hMs] at hmore
  have hno : (moreT M ms nm).nodes ≤ 8200 := by
    have h1 : X.nodes = M.nodes + (Tm.pres ms).length + 1 := by
      obtain ⟨xk, xn, xs', xt, xl⟩ := X
      have h6 : xl = M :: ms := HXL.out.trans HLM.out
      rw [h6, nodes_mk9, nodes_pres_cons]
    rw [moreT, nodes_mk9, nodes_pres_cons, moreM_nodes]
    omega
  obtain ⟨OT, hOT⟩ : ∃ OT, OT = moreT M ms nm := ⟨_, rfl⟩
  rw [← hOT] at hmore hno
  have HOT : Hid (TmAt (· < w10.heap.size) w10 OT (.agg #[.int .i8 0, .int .i64 0, .string ⟨#[]⟩, .string ⟨#[]⟩, .slice A6 n6 cap6])) := by rw [hOT]; exact hcut.tree
  have HMORE := Lib.hid hmore
  have HNO := Lib.hid hno
  clear hcut hMs hFn hnn hmore hno hOT
  have z0 : w10.cell? ⟨g13, 0, none⟩ = some (.int .i8 0) := cell_of_row (i := 0) HO.out.box rfl
  have z1 : w10.cell? ⟨g13, 1, none⟩ = some (.int .i64 0) := cell_of_row (i := 1) HO.out.box rfl
  have z2 : w10.cell? ⟨g13, 2, none⟩ = some (.string ⟨#[]⟩) := cell_of_row (i := 2) HO.out.box rfl
  have z3 : w10.cell? ⟨g13, 3, none⟩ = some (.string ⟨#[]⟩) := cell_of_row (i := 3) HO.out.box rfl
  have z4 : w10.cell? ⟨g13, 4, none⟩ = some (.slice A6 n6 cap6) := cell_of_row (i := 4) HO.out.box rfl
  go_wp2_with fail
  refine (check9_any OT _ w10 HOT.out HNO.out (HE.out.env.under H10.out.below) (HE.out.under H10.out.below).err).mono ?_
  rintro e w11 ⟨rfl, b11⟩
  have H11 := Lib.hid (H10.out.under b11)
  have HO11 := Lib.hid ((b11.block _ (heap_lt HO.out.box)).trans HO.out.box)
  have HM11 := Lib.hid ((b11.block _ (heap_lt HM10.out)).trans HM10.out)
  have HT11 := Lib.hid (HOT.out.laterN b11)
  clear b11 z0 z1 z2 z3 z4
  rw [HMORE.out.1]
  have z0 : w11.cell? ⟨g13, 0, none⟩ = some (.int .i8 0) := cell_of_row (i := 0) HO11.out rfl
  have z1 : w11.cell? ⟨g13, 1, none⟩ = some (.int .i64 0) := cell_of_row (i := 1) HO11.out rfl
  have z2 : w11.cell? ⟨g13, 2, none⟩ = some (.string ⟨#[]⟩) := cell_of_row (i := 2) HO11.out rfl
  have z3 : w11.cell? ⟨g13, 3, none⟩ = some (.string ⟨#[]⟩) := cell_of_row (i := 3) HO11.out rfl
  have z4 : w11.cell? ⟨g13, 4, none⟩ = some (.slice A6 n6 cap6) := cell_of_row (i := 4) HO11.out rfl
  have y0 : w11.cell? ⟨w7.heap.size, 0, none⟩ = some (.int .i8 mk) := cell_of_row (i := 0) HM11.out rfl
  have y1 : w11.cell? ⟨w7.heap.size, 1, none⟩ = some (.int .i64 mn) := cell_of_row (i := 1) HM11.out rfl
  have y2 : w11.cell? ⟨w7.heap.size, 2, none⟩ = some (.string msn) := cell_of_row (i := 2) HM11.out rfl
  have y3 : w11.cell? ⟨w7.heap.size, 3, none⟩ = some (.string mt) := cell_of_row (i := 3) HM11.out rfl
  have y4 : w11.cell? ⟨w7.heap.size, 4, none⟩ = some (.slice A5 n5 cap5) := cell_of_row (i := 4) HM11.out rfl
  go_wp2_with fail
  refine (find_any OT _ msn nm 0 w11 HT11.out HNO.out (HE.out.env.under H11.out.below)).mono ?_
  rintro e w12 ⟨vf, ⟨k', n', s', t', A', m', c', rfl⟩, rfl, -, b12⟩
  rw [HMORE.out.2.1]
  have H12 := Lib.hid (H11.out.under b12)
  have HO12 := Lib.hid ((b12.block _ (heap_lt HO11.out)).trans HO11.out)
  have HT12 := Lib.hid (HT11.out.laterN b12)
  clear b12 z0 z1 z2 z3 z4 y0 y1 y2 y3 y4
  go_wp2_with fail
  obtain ⟨w13, hw13⟩ : ∃ w13, w13 = w12.alloc (.cells #[.int .i8 k', .int .i64 n', .string s', .string t', .slice A' m' c'] 25) := ⟨_, rfl⟩
  obtain ⟨-, hb13⟩ := alloc9_at w12 _ w13 hw13
  have H13 := Lib.hid (H12.out.under hb13)
  have HO13 := Lib.hid ((hb13.block _ (heap_lt HO12.out)).trans HO12.out)
  have HT13 := Lib.hid (HT12.out.laterN hb13)
  rw [← hw13]
  clear hw13 hb13
  obtain ⟨LO, hLO⟩ : ∃ LO, LO = ((fns9T OT).map (·.1)).length := ⟨_, rfl⟩
  obtain ⟨LN, hLN⟩ : ∃ LN, LN = ((fns9T X).map (·.1)).length := ⟨_, rfl⟩
  have hq9 : LO = LN + 1 := by rw [hLO, hLN, List.length_map, List.length_map]; exact HMORE.out.2.2
  have hb9 : LN ≤ 100000 := by rw [hLN, List.length_map]; exact fns9_le X HNX.out
  have HLO := Lib.hid hLO
  have HLN := Lib.hid hLN
  have HQ9 := Lib.hid hq9
  have HB9 := Lib.hid hb9
  clear hLO hLN hq9 hb9
  refine wp_region_held (S := fun V => Below w13.heap.size w13 V) (by kernel_rfl) ?_
  show wpAnyH _ _ _ _ _ _ _ _ w13.drew
  have hS : Below w13.heap.size w13 w13.drew := ⟨rfl, rfl, rfl, Nat.le_refl _, fun _ _ => rfl⟩
  generalize w13.drew = D at hS ⊢
  refine wpAnyH_take (i := 0) (oi := ⟨some 106, _, _, _, _, _⟩) (v := ?_) rfl (by kernel_rfl) (by kernel_rfl) (by kernel_rfl) (fun _ _ _ h => h) (Or.inl ⟨by kernel_rfl, ?_⟩) (by assumption) ?_; rotate_left; (intro VV hSw; (try dsimp only at hSw); go_simp; first | done | with_reducible rfl); (try simp only [Act.put, List.setIfInBounds_toArray, List.set_cons_zero, List.set_cons_succ])
  refine wpAnyH_take (i := 1) (oi := ⟨some 107, _, _, _, _, _⟩) (v := ?_) rfl (by kernel_rfl) (by kernel_rfl) (by kernel_rfl) (fun _ _ _ h => h) (Or.inl ⟨by kernel_rfl, ?_⟩) (by assumption) ?_; rotate_left; (intro VV hSw; (try dsimp only at hSw); go_simp; first | done | with_reducible rfl); (try simp only [Act.put, List.setIfInBounds_toArray, List.set_cons_zero, List.set_cons_succ])
  refine wpAnyH_take (i := 2) (oi := ⟨some 108, _, _, _, _, _⟩) (v := ?_) rfl (by kernel_rfl) (by kernel_rfl) (by kernel_rfl) (fun _ _ _ h => h) (Or.inl ⟨by kernel_rfl, ?_⟩) (by assumption) ?_; rotate_left; (intro VV hSw; (try dsimp only at hSw); go_simp; first | done | with_reducible rfl); (try simp only [Act.put, List.setIfInBounds_toArray, List.set_cons_zero, List.set_cons_succ])
  refine wpAnyH_take (i := 3) (oi := ⟨some 109, _, _, _, _, _⟩) (v := ?_) rfl (by kernel_rfl) (by kernel_rfl) (by kernel_rfl) (fun _ _ _ h => h) (Or.inl ⟨by kernel_rfl, ?_⟩) (by assumption) ?_; rotate_left; (intro VV hSw; (try dsimp only at hSw); go_simp; first | done | with_reducible rfl); (try simp only [Act.put, List.setIfInBounds_toArray, List.set_cons_zero, List.set_cons_succ])
  refine wpAnyH_take (i := 4) (oi := ⟨some 110, _, _, _, _, _⟩) (v := ?_) rfl (by kernel_rfl) (by kernel_rfl) (by kernel_rfl) (fun _ _ _ h => h) (Or.inl ⟨by kernel_rfl, ?_⟩) (by assumption) ?_; rotate_left; (intro VV hSw; (try dsimp only at hSw); go_simp; first | done | with_reducible rfl); (try simp only [Act.put, List.setIfInBounds_toArray, List.set_cons_zero, List.set_cons_succ])
  refine wpAnyH_take (i := 5) (oi := ⟨some 111, _, _, _, _, _⟩) (v := ?_) rfl (by kernel_rfl) (by kernel_rfl) (by kernel_rfl) (fun _ _ _ h => h) (Or.inl ⟨by kernel_rfl, ?_⟩) (by assumption) ?_; rotate_left; (intro VV hSw; (try dsimp only at hSw); go_simp; first | done | with_reducible rfl); (try simp only [Act.put, List.setIfInBounds_toArray, List.set_cons_zero, List.set_cons_succ])
  refine wpAnyH_take (i := 6) (oi := ⟨some 112, _, _, _, _, _⟩) (v := ?_) rfl (by kernel_rfl) (by kernel_rfl) (by kernel_rfl) (fun _ _ _ h => h) (Or.inl ⟨by kernel_rfl, ?_⟩) (by assumption) ?_; rotate_left; (intro VV hSw; (try dsimp only at hSw); go_simp; first | done | with_reducible rfl); (try simp only [Act.put, List.setIfInBounds_toArray, List.set_cons_zero, List.set_cons_succ])
  refine wpAnyH_take (i := 7) (oi := ⟨some 113, _, _, _, _, _⟩) (v := ?_) rfl (by kernel_rfl) (by kernel_rfl) (by kernel_rfl) (fun _ _ _ h => h) (Or.inl ⟨by kernel_rfl, ?_⟩) (by assumption) ?_; rotate_left; (intro VV hSw; (try dsimp only at hSw); go_simp; first | done | with_reducible rfl); (try simp only [Act.put, List.setIfInBounds_toArray, List.set_cons_zero, List.set_cons_succ])
  refine wpAnyH_take (i := 8) (oi := ⟨some 114, _, _, _, _, _⟩) (v := ?_) rfl (by kernel_rfl) (by kernel_rfl) (by kernel_rfl) (fun _ _ _ h => h) (Or.inl ⟨by kernel_rfl, ?_⟩) (by assumption) ?_; rotate_left; (intro VV hSw; (try dsimp only at hSw); go_simp; first | done | with_reducible rfl); (try simp only [Act.put, List.setIfInBounds_toArray, List.set_cons_zero, List.set_cons_succ])
  refine wpAnyH_take (i := 9) (oi := ⟨some 115, _, _, _, _, _⟩) (v := ?_) rfl (by kernel_rfl) (by kernel_rfl) (by kernel_rfl) (fun _ _ _ h => h) (Or.inl ⟨by kernel_rfl, ?_⟩) (by assumption) ?_; rotate_left; (intro VV hSw; (try dsimp only at hSw); go_simp; first | done | with_reducible rfl); (try simp only [Act.put, List.setIfInBounds_toArray, List.set_cons_zero, List.set_cons_succ])
  refine wpAnyH_take (i := 10) (oi := ⟨some 116, _, _, _, _, _⟩) (v := ?_) rfl (by kernel_rfl) (by kernel_rfl) (by kernel_rfl) (fun _ _ _ h => h) (Or.inl ⟨by kernel_rfl, ?_⟩) (by assumption) ?_; rotate_left; (intro VV hSw; (try dsimp only at hSw); have hm := (hSw.block _ (heap_lt HO13.out)).trans HO13.out; have z0 : VV.cell? ⟨g13, 0, none⟩ = some (.int .i8 0) := cell_of_row (i := 0) hm rfl; have z1 : VV.cell? ⟨g13, 1, none⟩ = some (.int .i64 0) := cell_of_row (i := 1) hm rfl; have z2 : VV.cell? ⟨g13, 2, none⟩ = some (.string ⟨#[]⟩) := cell_of_row (i := 2) hm rfl; have z3 : VV.cell? ⟨g13, 3, none⟩ = some (.string ⟨#[]⟩) := cell_of_row (i := 3) hm rfl; have z4 : VV.cell? ⟨g13, 4, none⟩ = some (.slice A6 n6 cap6) := cell_of_row (i := 4) hm rfl; go_simp; first | done | with_reducible rfl); (try simp only [Act.put, List.setIfInBounds_toArray, List.set_cons_zero, List.set_cons_succ])
  refine wpAnyH_take (i := 13) (oi := ⟨some 119, _, _, _, _, _⟩) (v := ?_) rfl (by kernel_rfl) (by kernel_rfl) (by kernel_rfl) (fun _ _ _ h => h) (Or.inl ⟨by kernel_rfl, ?_⟩) (by assumption) ?_; rotate_left; (intro VV hSw; (try dsimp only at hSw); have hbx := H13.out.under hSw; have x0 : VV.cell? ⟨w.heap.size, 0, none⟩ = some (.int .i8 k) := hbx.cell 0 rfl; have x1 : VV.cell? ⟨w.heap.size, 1, none⟩ = some (.int .i64 n) := hbx.cell 1 rfl; have x2 : VV.cell? ⟨w.heap.size, 2, none⟩ = some (.string s) := hbx.cell 2 rfl; have x3 : VV.cell? ⟨w.heap.size, 3, none⟩ = some (.string t) := hbx.cell 3 rfl; have x4 : VV.cell? ⟨w.heap.size, 4, none⟩ = some (.slice (some ⟨g, off, oo⟩) l.length cap) := hbx.cell 4 rfl; go_simp; first | done | with_reducible rfl); (try simp only [Act.put, List.setIfInBounds_toArray, List.set_cons_zero, List.set_cons_succ])
  refine wpAnyH_ready (rs := [11]) (by kernel_rfl) (by simp) ?_
  refine AllReadyH.cons (o := ⟨some 117, _, _, _, _, _⟩) rfl (fun K hK => ?_) AllReadyH.nil
  · rw [if_pos (by rfl)]
    go_simp
    have hbx := H13.out.under hS
    refine (Functions_any OT _ D (HT13.out.laterN hS) HNO.out (HE.out.env.under hbx.below) (fns9_le OT HNO.out)).mono ?_
    rintro e Y0 ⟨vf, rfl, ⟨A7, cA7, rfl, -⟩, bf⟩
    rw [← HLO.out]
    have hS1 := hS.trans (bf.mono hS.size)
    refine hK.out _ _ hS1 (fun hSn => ?_)
    clear hK K hSn; (try simp only [Act.put, List.setIfInBounds_toArray, List.set_cons_zero, List.set_cons_succ])
    clear hS hbx bf
    have hS := hS1
    clear hS1
    refine wpAnyH_take (i := 12) (oi := ⟨some 118, _, _, _, _, _⟩) (v := ?_) rfl (by kernel_rfl) (by kernel_rfl) (by kernel_rfl) (fun _ _ _ h => h) (Or.inl ⟨by kernel_rfl, ?_⟩) (by assumption) ?_; rotate_left; (intro VV hSw; (try dsimp only at hSw); go_simp; first | done | with_reducible rfl); (try simp only [Act.put, List.setIfInBounds_toArray, List.set_cons_zero, List.set_cons_succ])
    refine wpAnyH_ready (rs := [14]) (by kernel_rfl) (by simp) ?_
    refine AllReadyH.cons (o := ⟨some 120, _, _, _, _, _⟩) rfl (fun K hK => ?_) AllReadyH.nil
    · rw [if_pos (by rfl)]
      go_simp
      have hbx := H13.out.under hS
      refine (Functions_any X _ Y0 (HT.out.laterN hbx.below) HNX.out (HE.out.env.under hbx.below) (fns9_le X HNX.out)).mono ?_
      rintro e Y1 ⟨vf, rfl, ⟨A8, cA8, rfl, -⟩, bf⟩
      rw [← HLN.out]
      have hS1 := hS.trans (bf.mono hS.size)
      refine hK.out _ _ hS1 (fun hSn => ?_)
      clear hK K hSn; (try simp only [Act.put, List.setIfInBounds_toArray, List.set_cons_zero, List.set_cons_succ])
      clear hS hbx bf
      have hS := hS1
      clear hS1
      refine wpAnyH_take (i := 15) (oi := ⟨some 121, _, _, _, _, _⟩) (v := ?_) rfl (by kernel_rfl) (by kernel_rfl) (by kernel_rfl) (fun _ _ _ h => h) (Or.inl ⟨by kernel_rfl, ?_⟩) (by assumption) ?_; rotate_left; (intro VV hSw; (try dsimp only at hSw); go_simp; first | done | with_reducible rfl); (try simp only [Act.put, List.setIfInBounds_toArray, List.set_cons_zero, List.set_cons_succ])
      have hwr : IntKind.i64.wrap ((LN : Int) + 1) = (LN : Int) + 1 := by
        have q1 := HB9.out
        unfold IntKind.wrap
        simp [IntKind.bits, IntKind.signed]
        omega
      refine wpAnyH_take (i := 16) (oi := ⟨some 122, _, _, _, _, _⟩) (v := .int .i64 ((LN : Int) + 1)) rfl (by kernel_rfl) (by kernel_rfl) (by kernel_rfl) (fun _ _ _ h => h) (Or.inl ⟨by kernel_rfl, ?_⟩) (by assumption) ?_
      · intro VV hSw
        go_simp
        try rw [hwr]
      (try simp only [Act.put, List.setIfInBounds_toArray, List.set_cons_zero, List.set_cons_succ])
      have hq : (LO : Int) = (LN : Int) + 1 := by have := HQ9.out; omega
      refine wpAnyH_take (i := 17) (oi := ⟨some 123, _, _, _, _, _⟩) (v := .bool true) rfl (by kernel_rfl) (by kernel_rfl) (by kernel_rfl) (fun _ _ _ h => h) (Or.inl ⟨by kernel_rfl, ?_⟩) (by assumption) ?_
      · intro VV hSw
        go_simp
        try (first | done | (rw [hq]; simp; done) | (simp [hq]; done))
      (try simp only [Act.put, List.setIfInBounds_toArray, List.set_cons_zero, List.set_cons_succ])
      refine wpAnyH_take (i := 18) (oi := ⟨some 124, _, _, _, _, _⟩) (v := ?_) rfl (by kernel_rfl) (by kernel_rfl) (by kernel_rfl) (fun _ _ _ h => h) (Or.inl ⟨by kernel_rfl, ?_⟩) (by assumption) ?_; rotate_left; (intro VV hSw; (try dsimp only at hSw); go_simp; first | done | with_reducible rfl); (try simp only [Act.put, List.setIfInBounds_toArray, List.set_cons_zero, List.set_cons_succ])
      refine wpAnyH_take (i := 19) (oi := ⟨some 125, _, _, _, _, _⟩) (v := ?_) rfl (by kernel_rfl) (by kernel_rfl) (by kernel_rfl) (fun _ _ _ h => h) (Or.inl ⟨by kernel_rfl, ?_⟩) (by assumption) ?_; rotate_left; (intro VV hSw; (try dsimp only at hSw); go_simp; first | done | with_reducible rfl); (try simp only [Act.put, List.setIfInBounds_toArray, List.set_cons_zero, List.set_cons_succ])
      refine wpAnyH_ready (rs := [20]) (by kernel_rfl) (by simp) ?_
      refine AllReadyH.cons (o := ⟨some 126, _, _, _, _, _⟩) rfl (fun K hK => ?_) AllReadyH.nil
      · rw [if_pos (by rfl)]
        go_simp
        refine (wakes9_any _ (HE.out.under (H13.out.under hS).below)).mono ?_
        rintro e VW ⟨rfl, bw⟩
        have hS1 := hS.trans (bw.mono hS.size)
        refine hK.out _ _ hS1 (fun hSn => ?_)
        clear hK K hSn; (try simp only [Act.put, List.setIfInBounds_toArray, List.set_cons_zero, List.set_cons_succ])
        refine wpAnyH_take (i := 21) (oi := ⟨some 127, _, _, _, _, _⟩) (v := ?_) rfl (by kernel_rfl) (by kernel_rfl) (by kernel_rfl) (fun _ _ _ h => h) (Or.inl ⟨by kernel_rfl, ?_⟩) (by assumption) ?_; rotate_left; (intro VV hSw; (try dsimp only at hSw); go_simp; first | done | with_reducible rfl); (try simp only [Act.put, List.setIfInBounds_toArray, List.set_cons_zero, List.set_cons_succ])
        refine wpAnyH_take (i := 22) (oi := ⟨some 4, _, _, _, _, _⟩) (v := ?_) rfl (by kernel_rfl) (by kernel_rfl) (by kernel_rfl) (fun _ _ _ h => h) (Or.inl ⟨by kernel_rfl, ?_⟩) (by assumption) ?_; rotate_left; (intro VV hSw; (try dsimp only at hSw); go_simp; first | done | with_reducible rfl); (try simp only [Act.put, List.setIfInBounds_toArray, List.set_cons_zero, List.set_cons_succ])
        refine wpAnyH_done (by kernel_rfl) ?_ _
        have HFIN := Lib.hid (H13.out.under hS1).below
        go_wp2_with fail
        go_ret
        exact ⟨rfl, HFIN.out⟩
end Go.Proofs.YtbhomgpdebiedaaGreatDoor
