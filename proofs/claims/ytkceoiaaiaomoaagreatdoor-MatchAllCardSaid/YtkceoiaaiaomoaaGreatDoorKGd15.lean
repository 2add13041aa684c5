/- Layer 11: a variable's value under a row of binds (GuardFirst, plain). -/
import Derived.Test.YtkceoiaaiaomoaaGreatDoorKGd13
import Derived.Test.YtkceoiaaiaomoaaGreatDoorKRef03C
import Derived.Test.YtkceoiaaiaomoaaGreatDoorKListT
import Derived.Test.YtkceoiaaiaomoaaGreatDoorKBnd
import Derived.Test.YtkceoiaaiaomoaaGreatDoorKAppend
import Derived.StillTailTactics
import Derived.Deep.QuietTactic
import Derived.BigQuiet
import Derived.LoopTactic
import Derived.LoopNIn
import Derived.Lib.Hide
import Derived.Laws.AppendOwn
import Derived.OwnWalk
import Derived.Maps.AppendAt
section

end
section
set_option linter.unusedVariables false
namespace Go.Proofs.YtkceoiaaiaomoaaGreatDoor
open Go.RowKit

def SameP (x y : Tm) (w : World) (e : Ending) (w' : World) : Prop := ∃ b : Bool, e = .returned (.bool b) ∧ (b = true ↔ x = y) ∧ Below w.heap.size w w'

set_option maxHeartbeats 8000000 in
set_option maxRecDepth 100000 in
theorem Same_any (x : Tm) : ∀ (y : Tm) (v u : Value) (w : World), TmAt (· < w.heap.size) w x v → TmAt (· < w.heap.size) w y u → Calls Tryz.prog 37 #[v, u] w (SameP x y w) := by
  induction x using Tm.ind with
  | h k n s t l ih =>
  intro y v u w hx hy
  obtain ⟨A, cap, rfl, hR, -⟩ := hx.parts
  obtain ⟨k', n', s', t', m⟩ := y
  obtain ⟨B, cap', rfl, hQ, -⟩ := hy.parts
  have hl1 := hR.max
  have hl2 := hQ.max
  unfold maxLen at hl1 hl2
  obtain ⟨w1, hw1⟩ : ∃ w1, w1 = (w.alloc (.cells #[(.int .i8 k), (.int .i64 n), (.string s), (.string t), (.slice A l.length cap)] 44)).alloc (.cells #[(.int .i8 k'), (.int .i64 n'), (.string s'), (.string t'), (.slice B m.length cap')] 44) := ⟨_, rfl⟩
  have h0 : Bx2 w w1 #[(.int .i8 k), (.int .i64 n), (.string s), (.string t), (.slice A l.length cap)] #[(.int .i8 k'), (.int .i64 n'), (.string s'), (.string t'), (.slice B m.length cap')] := by rw [hw1]; exact bx2_of _ _ _
  have H0 := Lib.hid h0
  have HR := Lib.hid hR
  have HQ := Lib.hid hQ
  have HIH := Lib.hid ih
  clear hx hy hR hQ ih
  have x0 : w1.cell? ⟨w.heap.size, 0, none⟩ = some (.int .i8 k) := cell_of_row h0.bx rfl
  have x1 : w1.cell? ⟨w.heap.size, 1, none⟩ = some (.int .i64 n) := cell_of_row h0.bx rfl
  have x2 : w1.cell? ⟨w.heap.size, 2, none⟩ = some (.string s) := cell_of_row h0.bx rfl
  have x3 : w1.cell? ⟨w.heap.size, 3, none⟩ = some (.string t) := cell_of_row h0.bx rfl
  have x4 : w1.cell? ⟨w.heap.size, 4, none⟩ = some (.slice A l.length cap) := cell_of_row h0.bx rfl
  have y0 : w1.cell? ⟨(w.heap.size + 1), 0, none⟩ = some (.int .i8 k') := cell_of_row h0.by_ rfl
  have y1 : w1.cell? ⟨(w.heap.size + 1), 1, none⟩ = some (.int .i64 n') := cell_of_row h0.by_ rfl
  have y2 : w1.cell? ⟨(w.heap.size + 1), 2, none⟩ = some (.string s') := cell_of_row h0.by_ rfl
  have y3 : w1.cell? ⟨(w.heap.size + 1), 3, none⟩ = some (.string t') := cell_of_row h0.by_ rfl
  have y4 : w1.cell? ⟨(w.heap.size + 1), 4, none⟩ = some (.slice B m.length cap') := cell_of_row h0.by_ rfl
  clear h0
  subst hw1
  by_cases hk : k = k'
  case neg =>
    have hk1 : (k != k') = true := by simpa using hk
    have HN := Lib.hid hk
    clear hk
    go_enter Tryz.func37, Tryz.ntmps37
    go_wp2_with fail
    go_ret
    exact ⟨false, rfl, ⟨fun h => (by cases h), fun h => by rw [Tm.mk.injEq] at h; exact absurd (h.1) HN.out⟩, H0.out.below⟩
  have hk1 : (k != k') = false := by simpa using hk
  have Ehk := Lib.hid hk
  clear hk
  by_cases hn : n = n'
  case neg =>
    have hn1 : (n != n') = true := by simpa using hn
    have HN := Lib.hid hn
    clear hn
    go_enter Tryz.func37, Tryz.ntmps37
    go_wp2_with fail
    go_ret
    exact ⟨false, rfl, ⟨fun h => (by cases h), fun h => by rw [Tm.mk.injEq] at h; exact absurd (h.2.1) HN.out⟩, H0.out.below⟩
  have hn1 : (n != n') = false := by simpa using hn
  have Ehn := Lib.hid hn
  clear hn
  by_cases hs : s = s'
  case neg =>
    have hs1 : (s.toList == s'.toList) = false := by rw [beq_eq_false_iff_ne, ByteArray.toList_eq, ByteArray.toList_eq]; exact fun e => hs (ByteArray.ext (Array.toList_inj.1 e))
    have hs2 : (!s.toList == s'.toList) = true := by rw [hs1]; rfl
    have HN := Lib.hid hs
    clear hs
    go_enter Tryz.func37, Tryz.ntmps37
    go_wp2_with fail
    go_ret
    exact ⟨false, rfl, ⟨fun h => (by cases h), fun h => by rw [Tm.mk.injEq] at h; exact absurd (h.2.2.1) HN.out⟩, H0.out.below⟩
  have hs1 : (s.toList == s'.toList) = true := by rw [hs]; exact beq_self_eq_true _
  have hs2 : (!s.toList == s'.toList) = false := by rw [hs1]; rfl
  have Ehs := Lib.hid hs
  clear hs
  by_cases ht : t = t'
  case neg =>
    have ht1 : (t.toList == t'.toList) = false := by rw [beq_eq_false_iff_ne, ByteArray.toList_eq, ByteArray.toList_eq]; exact fun e => ht (ByteArray.ext (Array.toList_inj.1 e))
    have ht2 : (!t.toList == t'.toList) = true := by rw [ht1]; rfl
    have HN := Lib.hid ht
    clear ht
    go_enter Tryz.func37, Tryz.ntmps37
    go_wp2_with fail
    go_ret
    exact ⟨false, rfl, ⟨fun h => (by cases h), fun h => by rw [Tm.mk.injEq] at h; exact absurd (h.2.2.2.1) HN.out⟩, H0.out.below⟩
  have ht1 : (t.toList == t'.toList) = true := by rw [ht]; exact beq_self_eq_true _
  have ht2 : (!t.toList == t'.toList) = false := by rw [ht1]; rfl
  have Eht := Lib.hid ht
  clear ht
  by_cases hl : l.length = m.length
  case neg =>
    have hle1 : ((l.length : Int) != (m.length : Int)) = true := by rw [bne_iff_ne]; omega
    have HN := Lib.hid hl
    clear hl
    go_enter Tryz.func37, Tryz.ntmps37
    go_wp2_with fail
    go_ret
    exact ⟨false, rfl, ⟨fun h => (by cases h), fun h => by rw [Tm.mk.injEq] at h; exact absurd (congrArg List.length h.2.2.2.2) HN.out⟩, H0.out.below⟩
  have hle1 : ((l.length : Int) != (m.length : Int)) = false := by rw [hl]; simp
  have Ehl := Lib.hid hl
  clear hl
  go_enter Tryz.func37, Tryz.ntmps37
  go_wp2_with fail
  clear x0 x1 x2 x3 x4 y0 y1 y2 y3 y4
  go_loopw [5] (fun i wr => ∃ j : Nat, j ≤ l.length ∧ i = .int .i64 j ∧ l.take j = m.take j ∧ Bx2 w wr #[(.int .i8 k), (.int .i64 n), (.string s), (.string t), (.slice A l.length cap)] #[(.int .i8 k'), (.int .i64 n'), (.string s'), (.string t'), (.slice B m.length cap')]) (fun i _ => l.length - (intOf i).toNat)
  case atStart => exact ⟨0, Nat.zero_le _, rfl, rfl, H0.out⟩
  case round =>
    obtain ⟨j, hj, rfl, hd, hB⟩ := hrel
    have HD := Lib.hid hd
    have HB := Lib.hid hB
    clear hd
    have x4 : wr.cell? ⟨w.heap.size, 4, none⟩ = some (.slice A l.length cap) := cell_of_row hB.bx rfl
    have y4 : wr.cell? ⟨w.heap.size + 1, 4, none⟩ = some (.slice B m.length cap') := cell_of_row hB.by_ rfl
    clear hB
    by_cases hlt : j < l.length
    · have hlt2 : j < m.length := by rw [← Ehl.out]; exact hlt
      obtain ⟨x, hx⟩ : ∃ x, l[j]? = some x := ⟨l[j], List.getElem?_eq_getElem hlt⟩
      obtain ⟨y, hy⟩ : ∃ y, m[j]? = some y := ⟨m[j], List.getElem?_eq_getElem hlt2⟩
      obtain ⟨ad, u, rfl, had, hE, hTx⟩ := HR.out.at_ j x hx
      obtain ⟨bd, u', rfl, hbd, hE', hTy⟩ := HQ.out.at_ j y hy
      have hTx1 := hTx.later HB.out.below
      have hTy1 := hTy.later HB.out.below
      obtain ⟨c0, c1, c2, c3, c4, rfl, e0, e1, e2, e3, e4⟩ := hE.keep (HB.out.below.block ad.block had)
      obtain ⟨d0, d1, d2, d3, d4, rfl, g0, g1, g2, g3, g4⟩ := hE'.keep (HB.out.below.block bd.block hbd)
      have hmem := List.mem_of_getElem? hx
      have HXE := Lib.hid hx
      have HYE := Lib.hid hy
      have HC : Hid (Calls Tryz.prog 37 #[.agg #[c0, c1, c2, c3, c4], .agg #[d0, d1, d2, d3, d4]] { wr with drawn := wr.drawn + 1 } (SameP x y wr)) :=
        (HIH.out x hmem y _ _ { wr with drawn := wr.drawn + 1 } (hTx1.keep (fun _ _ => rfl) (fun _ h => h)) (hTy1.keep (fun _ _ => rfl) (fun _ h => h))).mono fun e w' ⟨b, he, hi, hb⟩ => ⟨b, he, hi, (⟨rfl, rfl, rfl, Nat.le_refl _, fun _ _ => rfl⟩ : Below wr.heap.size wr { wr with drawn := wr.drawn + 1 }).trans hb⟩
      clear hx hy hE hE' hTx hTy hTx1 hTy1 hmem had hbd
      have i0 : (0 : Int) ≤ (j : Int) := by omega
      have i1 : (j : Int) < (l.length : Int) := by omega
      have i2 : (j : Int) < (m.length : Int) := by omega
      go_wp2_with fail
      go_still_tail 10, (by kernel_rfl)
      go_wp2_with fail
      refine HC.out.mono ?_
      clear e0 e1 e2 e3 e4 g0 g1 g2 g3 g4 x4 y4
      rintro e w2 ⟨b, rfl, hb, b1⟩
      have HB1 := Lib.hid (HB.out.on b1)
      have HBI := Lib.hid hb
      clear hb b1
      cases b
      · go_wp2_with fail
        go_ret
        refine ⟨false, rfl, ⟨fun h => (by cases h), fun h => ?_⟩, HB1.out.below⟩
        rw [Tm.mk.injEq] at h
        have h5 := h.2.2.2.2
        have h6 := HXE.out
        rw [h5, HYE.out] at h6
        exact HBI.out.2 (Option.some.inj h6).symm
      · go_wp2_with fail
        go_roundw
        case rel => exact ⟨j + 1, by omega, by go_num, by rw [List.take_add_one, List.take_add_one, HD.out, HXE.out, HYE.out, HBI.out.1 trivial], HB1.out⟩
        case measure => simp [intOf]; omega
    · obtain rfl : j = l.length := by omega
      go_wp2_with fail
      go_ret
      refine ⟨true, rfl, ⟨fun _ => ?_, fun _ => rfl⟩, HB.out.below⟩
      have h := HD.out
      rw [List.take_length, Ehl.out, List.take_length] at h
      rw [Ehk.out, Ehn.out, Ehs.out, Eht.out, h]
end Go.Proofs.YtkceoiaaiaomoaaGreatDoor
end
section
set_option linter.unusedVariables false
set_option linter.unusedSimpArgs false
namespace Go.Proofs.YtkceoiaaiaomoaaGreatDoor
open Go.RowKit

theorem info_termN : (Tryz.prog.info? 25).map (fun i => (i.zero, i.size, i.bytes)) = some (some (.agg #[.int .i8 0, .int .i64 0, .string ⟨#[]⟩, .string ⟨#[]⟩, .slice none 0 0]), 5, 72) := by kernel_rfl

def FiveN (u : Value) : Prop := ∃ c0 c1 c2 c3 c4, u = .agg #[c0, c1, c2, c3, c4]
theorem TmAt.fiveN {P : Nat → Prop} {w : World} {x : Tm} {v : Value} (h : TmAt P w x v) : FiveN v := by cases h; exact ⟨_, _, _, _, _, rfl⟩

def fiveN (u : Value) : List Value := match u with | .agg c => c.toList | _ => []
def flatN (us : List Value) : List Value := us.flatMap fiveN
theorem flat_appendN (a b : List Value) : flatN (a ++ b) = flatN a ++ flatN b := by simp [flatN]
theorem flat_lengthN {us : List Value} (h : ∀ u ∈ us, FiveN u) : (flatN us).length = us.length * 5 := by
  induction us with
  | nil => rfl
  | cons u us ih =>
    obtain ⟨c0, c1, c2, c3, c4, rfl⟩ := h u (by simp)
    have := ih (fun v hv => h v (by simp [hv]))
    simp only [flatN, List.flatMap_cons, List.length_append, List.length_cons] at this ⊢
    rw [this]
    simp [fiveN]; omega
theorem flat_atN : ∀ {us : List Value} (_ : ∀ u ∈ us, FiveN u) {j : Nat} {u : Value} (_ : us[j]? = some u) (i : Nat) (_ : i < 5), (flatN us)[j * 5 + i]? = (fiveN u)[i]?
  | v :: us, h, 0, u, hj, i, hi => by
    obtain ⟨c0, c1, c2, c3, c4, rfl⟩ := h v (by simp)
    simp at hj
    subst hj
    simp only [flatN, List.flatMap_cons, Nat.zero_mul, Nat.zero_add]
    rw [List.getElem?_append_left (by simp [fiveN]; omega)]
  | v :: us, h, j + 1, u, hj, i, hi => by
    obtain ⟨c0, c1, c2, c3, c4, rfl⟩ := h v (by simp)
    have := flat_atN (us := us) (fun u hu => h u (by simp [hu])) (j := j) (by simpa using hj) i hi
    simp only [flatN, List.flatMap_cons] at this ⊢
    rw [List.getElem?_append_right (by simp [fiveN]; omega)]
    rw [← this]
    congr 1
    simp [fiveN]; omega

theorem own_elemN {base : Nat} {w : World} {A : Option Addr} {n cap : Nat} {us : List Value} (h : w.ownsRow base 25 5 (.slice A n cap) n (flatN us)) (hf : ∀ u ∈ us, FiveN u) {j : Nat} {u : Value} (hj : us[j]? = some u) :
    ∃ g, A = some ⟨g, 0, none⟩ ∧ base ≤ g ∧ g < w.heap.size ∧ (∃ c fz, w.heap[g]? = some (.cells c 25 fz)) ∧ ElemAt w ⟨g, 0, none⟩ j u := by
  have hlen := flat_lengthN hf
  have hjl := (List.getElem?_eq_some_iff.1 hj).1
  have hown := h
  rcases h.2 with ⟨e, hn⟩ | ⟨g, cap', cur, e, hb, hg, rest⟩
  · have h1 := h.1
    omega
  · simp only [Value.slice.injEq] at e
    obtain ⟨rfl, _, rfl⟩ := e
    refine ⟨g, rfl, hb, heap_lt hg, ⟨_, _, hg⟩, ?_⟩
    have hc := hown.cells (g := g) rfl
    obtain ⟨c0, c1, c2, c3, c4, rfl⟩ := hf u (List.mem_of_getElem? hj)
    have at_ : ∀ i, i < 5 → ∀ x, (fiveN (.agg #[c0, c1, c2, c3, c4]))[i]? = some x → w.cell? ((⟨g, 0, none⟩ : Addr).add (j * 5 + i)) = some x := fun i hi x hx => hc _ _ ((flat_atN hf hj i hi).trans hx)
    have a0 := at_ 0 (by decide) c0 rfl
    have a1 := at_ 1 (by decide) c1 rfl
    have a2 := at_ 2 (by decide) c2 rfl
    have a3 := at_ 3 (by decide) c3 rfl
    have a4 := at_ 4 (by decide) c4 rfl
    have addj : ∀ i, (⟨g, 0, none⟩ : Addr).add (j * 5 + (i + 1)) = ⟨((⟨g, 0, none⟩ : Addr).add (j * 5)).block, ((⟨g, 0, none⟩ : Addr).add (j * 5)).off + (i + 1), none⟩ := by
      intro i
      unfold Addr.add
      by_cases h0 : j * 5 = 0
      · simp [h0]
      · simp [h0]
    rw [addj 0] at a1
    rw [addj 1] at a2
    rw [addj 2] at a3
    rw [addj 3] at a4
    exact ⟨c0, c1, c2, c3, c4, rfl, a0, a1, a2, a3, a4⟩

structure OwnTN (base : Nat) (P : Nat → Prop) (w : World) (v : Value) (hs : List Tm) : Prop where
  row : ∃ us : List Value, w.ownsRow base 25 5 v hs.length (flatN us) ∧ us.length = hs.length ∧ ∀ (j : Nat) (x : Tm), hs[j]? = some x → ∃ u, us[j]? = some u ∧ TmAt P w x u

theorem OwnTN.nil (base : Nat) (P : Nat → Prop) (w : World) : OwnTN base P w (.slice none 0 0) [] := ⟨[], World.ownsRow_nil _ _ _ _, rfl, fun j x h => by simp at h⟩
theorem ownT_fiveN {P : Nat → Prop} {w : World} {hs : List Tm} {us : List Value} (hl : us.length = hs.length) (h : ∀ (j : Nat) (x : Tm), hs[j]? = some x → ∃ u, us[j]? = some u ∧ TmAt P w x u) : ∀ u ∈ us, FiveN u := by
  intro u hu
  obtain ⟨j, hj, rfl⟩ := List.getElem_of_mem hu
  obtain ⟨u', h1, h2⟩ := h j hs[j] (List.getElem?_eq_getElem (by omega))
  rw [List.getElem?_eq_getElem hj] at h1
  cases h1
  exact h2.fiveN
theorem OwnTN.trow {base : Nat} {P Q : Nat → Prop} {w : World} {A : Option Addr} {n cap : Nat} {hs : List Tm} (h : OwnTN base P w (.slice A n cap) hs) (hP : ∀ b, P b → Q b) (hQ : ∀ b, base ≤ b → b < w.heap.size → (∃ c fz, w.heap[b]? = some (.cells c 25 fz)) → Q b) : n = hs.length ∧ TRow Q w A n cap hs := by
  obtain ⟨us, ho, hl, ht⟩ := h.row
  have hf := ownT_fiveN hl ht
  have hn : n = hs.length ∧ n ≤ cap ∧ cap ≤ maxLen := by
    rcases ho.2 with ⟨e, hn⟩ | ⟨g, cap', cur, e, _, _, hc, hm, _⟩
    · simp only [Value.slice.injEq] at e
      obtain ⟨rfl, rfl, rfl⟩ := e
      exact ⟨hn.symm, Nat.le_refl _, Nat.zero_le _⟩
    · simp only [Value.slice.injEq] at e
      obtain ⟨_, rfl, rfl⟩ := e
      exact ⟨rfl, hc, hm⟩
  obtain ⟨rfl, h2, h3⟩ := hn
  refine ⟨rfl, rfl, Nat.le_trans h2 h3, h2, fun j x hj => ?_⟩
  obtain ⟨u, hu, hT⟩ := ht j x hj
  obtain ⟨g, rfl, hb, hg, hty, hE⟩ := own_elemN ho hf hu
  exact ⟨_, u, rfl, hQ _ hb hg hty, hE, hT.mono hP⟩
theorem OwnTN.shape {base : Nat} {P : Nat → Prop} {w : World} {v : Value} {hs : List Tm} (h : OwnTN base P w v hs) : ∃ A cap, v = .slice A hs.length cap := by
  obtain ⟨us, ho, _⟩ := h.row
  rcases ho.2 with ⟨rfl, hn⟩ | ⟨g, cap', cur, rfl, _⟩
  · exact ⟨none, 0, by rw [hn]⟩
  · exact ⟨_, _, rfl⟩
theorem OwnTN.keep {base : Nat} {P Q F : Nat → Prop} {w w' : World} {v : Value} {hs : List Tm} (h : OwnTN base P w v hs) (hm : Mod F w w') (hv : ∀ g, v.ownBlock = some g → ¬ F g) (hP : ∀ b, P b → b < w.heap.size ∧ ¬ F b) (hQ : ∀ b, P b → Q b) : OwnTN base Q w' v hs := by
  obtain ⟨us, ho, hl, ht⟩ := h.row
  exact ⟨us, hm.row ho hv, hl, fun j x hj => by obtain ⟨u, hu, hT⟩ := ht j x hj; exact ⟨u, hu, hT.keep (fun b hb => hm.block b (hP b hb).1 (hP b hb).2) hQ⟩⟩

section
variable {ops : Array Oper} {rest : List Oper} {o : Oper} {a : Act} {w : World}
end

theorem TRow.flatN {P : Nat → Prop} {w : World} {ad : Addr} {n cap : Nat} {l : List Tm} (h : TRow P w (some ad) n cap l) :
    ∃ us : List Value, us.length = l.length ∧ (∀ (j : Nat) (x : Tm), l[j]? = some x → ∃ u, us[j]? = some u ∧ TmAt P w x u) ∧ ∀ i u, (flatN us)[i]? = some u → w.cell? (ad.add i) = some u := by
  obtain ⟨us, hl, hu⟩ := rows_choose (n := l.length) (p := fun j u => ElemAt w ad j u ∧ ∀ x, l[j]? = some x → TmAt P w x u) (fun j hj => by
    obtain ⟨ad', v, e, _, he, ht⟩ := h.at_ j _ (List.getElem?_eq_getElem hj)
    cases e
    exact ⟨v, he, fun x hx => by rw [List.getElem?_eq_getElem hj] at hx; cases hx; exact ht⟩)
  have at_ : ∀ (j : Nat) (x : Tm), l[j]? = some x → ∃ u, us[j]? = some u ∧ TmAt P w x u := fun j x hx => by
    have hj := (List.getElem?_eq_some_iff.1 hx).1
    have e : us[j]? = some us[j] := List.getElem?_eq_getElem (by omega)
    exact ⟨_, e, (hu _ _ e).2 x hx⟩
  have hf := ownT_fiveN hl at_
  refine ⟨us, hl, at_, fun i u hi => ?_⟩
  have hlen := flat_lengthN hf
  have hil := (List.getElem?_eq_some_iff.1 hi).1
  have e5 : i / 5 * 5 + i % 5 = i := by omega
  have hj : i / 5 < us.length := by omega
  have eu : us[i / 5]? = some us[i / 5] := List.getElem?_eq_getElem hj
  obtain ⟨c0, c1, c2, c3, c4, ec, g0, g1, g2, g3, g4⟩ := (hu _ _ eu).1
  have hfl := flat_atN hf eu (i % 5) (by omega)
  rw [e5, hi, ec] at hfl
  have addj : ∀ r, (ad.add (i / 5 * 5)).add r = ad.add (i / 5 * 5 + r) := by
    intro r
    unfold Addr.add
    by_cases h0 : i / 5 * 5 = 0
    · simp [h0]
    · by_cases h1 : r = 0
      · simp [h1]
      · simp [h0, h1]; omega
  have hm : i % 5 = 0 ∨ i % 5 = 1 ∨ i % 5 = 2 ∨ i % 5 = 3 ∨ i % 5 = 4 := by omega
  rcases hm with hm | hm | hm | hm | hm
  all_goals
    rw [hm] at hfl e5
    simp [fiveN] at hfl
    subst hfl
    rw [← e5]
  · rw [Nat.add_zero]; exact g0
  · rw [← addj]; rw [show (ad.add (i / 5 * 5)).add 1 = ⟨(ad.add (i / 5 * 5)).block, (ad.add (i / 5 * 5)).off + 1, none⟩ by simp [Addr.add]]; exact g1
  · rw [← addj]; rw [show (ad.add (i / 5 * 5)).add 2 = ⟨(ad.add (i / 5 * 5)).block, (ad.add (i / 5 * 5)).off + 2, none⟩ by simp [Addr.add]]; exact g2
  · rw [← addj]; rw [show (ad.add (i / 5 * 5)).add 3 = ⟨(ad.add (i / 5 * 5)).block, (ad.add (i / 5 * 5)).off + 3, none⟩ by simp [Addr.add]]; exact g3
  · rw [← addj]; rw [show (ad.add (i / 5 * 5)).add 4 = ⟨(ad.add (i / 5 * 5)).block, (ad.add (i / 5 * 5)).off + 4, none⟩ by simp [Addr.add]]; exact g4

theorem append_noughtN {P : Program} {w : World} {base : Nat} {t ty e : TypeId} {i : TypeInfo} {size : Nat} (ht : P.underlying t = some (.slice e)) (hi : P.info? e = some i)
    {v : Value} {n : Nat} {xs : List Value} (ho : w.ownsRow base e size v n xs) (c : Nat) : (Builtin.append_ #[t, t] ty #[v, .slice none 0 c]).run P w = .ok v w := by
  rcases ho.2 with ⟨e1, _⟩ | ⟨g, cap, cur, e1, _, _, hnc, _⟩
  · subst e1; simp [Builtin.append_, run_underlying ht, sizeOf, typeInfo, hi, Builtin.lenOf, Builtin.firstCells]
  · subst e1; simp [Builtin.append_, run_underlying ht, sizeOf, typeInfo, hi, Builtin.lenOf, Builtin.firstCells, hnc, storeCells]

section
variable {ops : Array Oper} {rest : List Oper} {o : Oper} {a : Act} {w : World}
end

theorem OwnTN.own {base : Nat} {P : Nat → Prop} {w : World} {v : Value} {hs : List Tm} (h : OwnTN base P w v hs) : ∀ g, v.ownBlock = some g → base ≤ g ∧ g < w.heap.size := by
  intro g hg
  obtain ⟨us, ho, _⟩ := h.row
  exact ho.lt g hg

structure StN (w0 V : World) (P : Nat → Prop) (B : List (Nat × Obj)) (v : Value) (hs : List Tm) : Prop where
  below : Below w0.heap.size w0 V
  own : OwnTN w0.heap.size P V v hs
  kept : ∀ q ∈ B, w0.heap.size ≤ q.1 ∧ V.heap[q.1]? = some q.2 ∧ v.ownBlock ≠ some q.1

section
variable {w0 V : World} {P : Nat → Prop} {B : List (Nat × Obj)} {v : Value} {hs : List Tm}
theorem StN.start (w0 : World) (P : Nat → Prop) : StN w0 w0 P [] (.slice none 0 0) [] := ⟨Below.refl _ _, OwnTN.nil _ _ _, fun q hq => by simp at hq⟩
theorem StN.under (h : StN w0 V P B v hs) (hP : ∀ b, P b → b < w0.heap.size) {V' : World} (hb : Below V.heap.size V V') : StN w0 V' P B v hs := by
  have hs' := h.below.size
  refine ⟨h.below.trans (hb.mono hs'), h.own.keep (Mod.of_below (F := fun _ => False) hb) (fun _ _ f => f) (fun b hb' => ⟨Nat.lt_of_lt_of_le (hP b hb') hs', fun f => f⟩) (fun _ h => h), fun q hq => ?_⟩
  obtain ⟨h1, h2, h3⟩ := h.kept q hq
  exact ⟨h1, (hb.block _ (heap_lt h2)).trans h2, h3⟩
theorem StN.apart (h : StN w0 V P B v hs) (hP : ∀ b, P b → b < w0.heap.size) : ∀ b, P b → b < V.heap.size ∧ v.ownBlock ≠ some b := fun b hb =>
  ⟨Nat.lt_of_lt_of_le (hP b hb) h.below.size, fun e => by have := (h.own.own b e).1; have := hP b hb; omega⟩
theorem StN.alloc (h : StN w0 V P B v hs) (hP : ∀ b, P b → b < w0.heap.size) (o : Obj) : StN w0 (V.alloc o) P ((V.heap.size, o) :: B) v hs := by
  have h' := h.under hP ((Below.refl _ V).alloc (Nat.le_refl _) o)
  refine ⟨h'.below, h'.own, fun q hq => ?_⟩
  rcases List.mem_cons.1 hq with rfl | hq
  · exact ⟨h.below.size, block_alloc _ _, fun e => by have := (h.own.own _ e).2; omega⟩
  · exact h'.kept q hq
theorem StN.app (h : StN w0 V P B v hs) {V' : World} {v' : Value} {hs' : List Tm} (O : OwnTN w0.heap.size P V' v' hs') (hg : V.grownBy V' v.ownBlock) (hb : v'.ownBlock = v.ownBlock ∨ v'.ownBlock = some V.heap.size) : StN w0 V' P B v' hs' := by
  have hm : Mod (fun g => v.ownBlock = some g) V V' := Mod.grown hg (fun _ _ e => e)
  refine ⟨h.below.trans (hm.below h.below.size (fun g e => (h.own.own g e).1)), O, fun q hq => ?_⟩
  obtain ⟨h1, h2, h3⟩ := h.kept q hq
  have hlt := heap_lt h2
  refine ⟨h1, (hm.block _ hlt h3).trans h2, fun e => ?_⟩
  rcases hb with hb | hb
  · exact h3 (hb.symm.trans e)
  · rw [hb] at e; injection e with e; omega
end

theorem flat_setN : ∀ (us : List Value), (∀ u ∈ us, FiveN u) → ∀ (k : Nat), k < us.length → ∀ (c0 c1 c2 c3 c4 : Value), flatN (us.set k (.agg #[c0, c1, c2, c3, c4])) = (((((flatN us).set (k * 5) c0).set (k * 5 + 1) c1).set (k * 5 + 2) c2).set (k * 5 + 3) c3).set (k * 5 + 4) c4
  | [], _, k, hk, _, _, _, _, _ => by simp at hk
  | u :: us, h, 0, _, c0, c1, c2, c3, c4 => by
    obtain ⟨d0, d1, d2, d3, d4, rfl⟩ := h u (by simp)
    simp [flatN, fiveN]
  | u :: us, h, k + 1, hk, c0, c1, c2, c3, c4 => by
    obtain ⟨d0, d1, d2, d3, d4, rfl⟩ := h u (by simp)
    have ih := flat_setN us (fun v hv => h v (by simp [hv])) k (by simpa using hk) c0 c1 c2 c3 c4
    have e : ∀ us : List Value, flatN ((.agg #[d0, d1, d2, d3, d4] : Value) :: us) = d0 :: d1 :: d2 :: d3 :: d4 :: flatN us := fun us => by simp [flatN, fiveN]
    rw [List.set_cons_succ, e, e, ih]
    rw [show (k + 1) * 5 = k * 5 + 5 by omega]
    simp only [List.set_cons_succ, show k * 5 + 5 + 1 = k * 5 + 1 + 5 by omega, show k * 5 + 5 + 2 = k * 5 + 2 + 5 by omega, show k * 5 + 5 + 3 = k * 5 + 3 + 5 by omega, show k * 5 + 5 + 4 = k * 5 + 4 + 5 by omega]

theorem OwnTN.set {base : Nat} {P : Nat → Prop} {W : World} {g cap : Nat} {l : List Tm} (O : OwnTN base P W (.slice (some ⟨g, 0, none⟩) l.length cap) l) (hP : ∀ b, P b → b < base) (k : Nat) (hk : k < l.length) {y : Tm} {c0 c1 c2 c3 c4 : Value} (hy : TmAt P W y (.agg #[c0, c1, c2, c3, c4])) :
    OwnTN base P (((((W.setCell ⟨g, k * 5, none⟩ c0).setCell ⟨g, k * 5 + 1, none⟩ c1).setCell ⟨g, k * 5 + 2, none⟩ c2).setCell ⟨g, k * 5 + 3, none⟩ c3).setCell ⟨g, k * 5 + 4, none⟩ c4) (.slice (some ⟨g, 0, none⟩) l.length cap) (l.set k y) ∧
    Mod (fun b => b = g) W (((((W.setCell ⟨g, k * 5, none⟩ c0).setCell ⟨g, k * 5 + 1, none⟩ c1).setCell ⟨g, k * 5 + 2, none⟩ c2).setCell ⟨g, k * 5 + 3, none⟩ c3).setCell ⟨g, k * 5 + 4, none⟩ c4) := by
  have m : Mod (fun b => b = g) W (((((W.setCell ⟨g, k * 5, none⟩ c0).setCell ⟨g, k * 5 + 1, none⟩ c1).setCell ⟨g, k * 5 + 2, none⟩ c2).setCell ⟨g, k * 5 + 3, none⟩ c3).setCell ⟨g, k * 5 + 4, none⟩ c4) := by
    have q : ∀ (V : World) (i : Nat) (c : Value), Mod (fun b => b = g) V (V.setCell ⟨g, i, none⟩ c) := fun V i c => Mod.setCell V _ c (.inl rfl)
    exact ((((q _ _ _).trans (q _ _ _) (fun _ _ h => h)).trans (q _ _ _) (fun _ _ h => h)).trans (q _ _ _) (fun _ _ h => h)).trans (q _ _ _) (fun _ _ h => h)
  refine ⟨?_, m⟩
  obtain ⟨us, ho, hul, hut⟩ := O.row
  have hf := ownT_fiveN hul hut
  have hkeep : ∀ b, P b → (((((W.setCell ⟨g, k * 5, none⟩ c0).setCell ⟨g, k * 5 + 1, none⟩ c1).setCell ⟨g, k * 5 + 2, none⟩ c2).setCell ⟨g, k * 5 + 3, none⟩ c3).setCell ⟨g, k * 5 + 4, none⟩ c4).heap[b]? = W.heap[b]? := by
    intro b hb
    have h1 := O.own g rfl
    have h2 := hP b hb
    exact m.block b (by omega) (by omega)
  rcases ho.2 with ⟨e, _⟩ | ⟨g', cap', cur, e, hbg, hcur, hnc, hcm, hcs, htk⟩
  · cases e
  · cases e
    have s1 := set_row (i := k * 5) c0 hcur
    have s2 := set_row (i := k * 5 + 1) c1 s1
    have s3 := set_row (i := k * 5 + 2) c2 s2
    have s4 := set_row (i := k * 5 + 3) c3 s3
    have s5 := set_row (i := k * 5 + 4) c4 s4
    refine ⟨us.set k (.agg #[c0, c1, c2, c3, c4]), ⟨?_, .inr ⟨g, cap, _, by rw [List.length_set], hbg, s5, by rw [List.length_set]; exact hnc, hcm, by simpa using hcs, ?_⟩⟩, by simp [hul], fun j x hj => ?_⟩
    · rw [flat_setN us hf k (by omega)]
      simp only [List.length_set]
      exact ho.1
    · rw [flat_setN us hf k (by omega), ← htk]
      simp [List.take_set]
    · rw [List.getElem?_set] at hj
      by_cases hjk : k = j
      · subst hjk
        rw [if_pos rfl, if_pos hk] at hj
        cases hj
        exact ⟨_, by rw [List.getElem?_set, if_pos rfl, if_pos (by omega)], hy.keep hkeep (fun _ h => h)⟩
      · rw [if_neg hjk] at hj
        obtain ⟨u, hu, hT⟩ := hut j x hj
        exact ⟨u, by rw [List.getElem?_set, if_neg hjk]; exact hu, hT.keep hkeep (fun _ h => h)⟩
end Go.Proofs.YtkceoiaaiaomoaaGreatDoor
end
section
set_option linter.unusedVariables false
set_option linter.unusedSimpArgs false
namespace Go.Proofs.YtkceoiaaiaomoaaGreatDoor
open Go.RowKit

theorem info_bind : (Tryz.prog.info? 61).map (fun i => (i.zero, i.size, i.bytes)) = some (some (.agg #[.string ⟨#[]⟩, .int .i8 0, .int .i64 0, .string ⟨#[]⟩, .string ⟨#[]⟩, .slice none 0 0]), 6, 88) := by kernel_rfl
def BdV (P : Nat → Prop) (w : World) (b : Bd) (u : Value) : Prop := ∃ c0 c1 c2 c3 c4, u = .agg #[.string b.1, c0, c1, c2, c3, c4] ∧ b.1.size ≤ maxLen ∧ TmAt P w b.2 (.agg #[c0, c1, c2, c3, c4])
theorem BdV.keep {P Q : Nat → Prop} {w w' : World} {b : Bd} {u : Value} (h : BdV P w b u) (hb : ∀ k, P k → w'.heap[k]? = w.heap[k]?) (hQ : ∀ k, P k → Q k) : BdV Q w' b u := by
  obtain ⟨c0, c1, c2, c3, c4, e, hs, ht⟩ := h
  exact ⟨c0, c1, c2, c3, c4, e, hs, ht.keep hb hQ⟩
def SixB (u : Value) : Prop := ∃ c0 c1 c2 c3 c4 c5, u = .agg #[c0, c1, c2, c3, c4, c5]
theorem BdV.six {P : Nat → Prop} {w : World} {b : Bd} {u : Value} (h : BdV P w b u) : SixB u := by
  obtain ⟨c0, c1, c2, c3, c4, e, _⟩ := h
  exact ⟨_, c0, c1, c2, c3, c4, e⟩
theorem flat_length6 {us : List Value} (h : ∀ u ∈ us, SixB u) : (flatN us).length = us.length * 6 := by
  induction us with
  | nil => rfl
  | cons u us ih =>
    obtain ⟨c0, c1, c2, c3, c4, c5, rfl⟩ := h u (by simp)
    have := ih (fun v hv => h v (by simp [hv]))
    simp only [flatN, List.flatMap_cons, List.length_append, List.length_cons] at this ⊢
    rw [this]
    simp [fiveN]; omega
theorem flat_at6 : ∀ {us : List Value} (_ : ∀ u ∈ us, SixB u) {j : Nat} {u : Value} (_ : us[j]? = some u) (i : Nat) (_ : i < 6), (flatN us)[j * 6 + i]? = (fiveN u)[i]?
  | v :: us, h, 0, u, hj, i, hi => by
    obtain ⟨c0, c1, c2, c3, c4, c5, rfl⟩ := h v (by simp)
    simp at hj
    subst hj
    simp only [flatN, List.flatMap_cons, Nat.zero_mul, Nat.zero_add]
    rw [List.getElem?_append_left (by simp [fiveN]; omega)]
  | v :: us, h, j + 1, u, hj, i, hi => by
    obtain ⟨c0, c1, c2, c3, c4, c5, rfl⟩ := h v (by simp)
    have := flat_at6 (us := us) (fun u hu => h u (by simp [hu])) (j := j) (by simpa using hj) i hi
    simp only [flatN, List.flatMap_cons] at this ⊢
    rw [List.getElem?_append_right (by simp [fiveN]; omega)]
    rw [← this]
    congr 1
    simp [fiveN]; omega

structure OwnB (base : Nat) (P : Nat → Prop) (w : World) (v : Value) (hs : List Bd) : Prop where
  row : ∃ us : List Value, w.ownsRow base 61 6 v hs.length (flatN us) ∧ us.length = hs.length ∧ ∀ (j : Nat) (b : Bd), hs[j]? = some b → ∃ u, us[j]? = some u ∧ BdV P w b u
theorem ownB_six {P : Nat → Prop} {w : World} {hs : List Bd} {us : List Value} (hl : us.length = hs.length) (h : ∀ (j : Nat) (b : Bd), hs[j]? = some b → ∃ u, us[j]? = some u ∧ BdV P w b u) : ∀ u ∈ us, SixB u := by
  intro u hu
  obtain ⟨j, hj, rfl⟩ := List.getElem_of_mem hu
  obtain ⟨u', h1, h2⟩ := h j hs[j] (List.getElem?_eq_getElem (by omega))
  rw [List.getElem?_eq_getElem hj] at h1
  cases h1
  exact h2.six
theorem OwnB.one {base g : Nat} {P : Nat → Prop} {w : World} {s : ByteArray} {t : Tm} {c0 c1 c2 c3 c4 : Value} (hg : w.heap[g]? = some (.cells #[.string s, c0, c1, c2, c3, c4] 61 (0, 0))) (hb : base ≤ g) (hs : s.size ≤ maxLen) (ht : TmAt P w t (.agg #[c0, c1, c2, c3, c4])) : OwnB base P w (.slice (some ⟨g, 0, none⟩) 1 1) [(s, t)] :=
  ⟨[.agg #[.string s, c0, c1, c2, c3, c4]], ⟨rfl, .inr ⟨g, 1, _, rfl, hb, hg, Nat.le_refl _, by decide, rfl, rfl⟩⟩, rfl, fun j b hj => by
    match j, hj with
    | 0, hj => simp at hj; subst hj; exact ⟨_, rfl, c0, c1, c2, c3, c4, rfl, hs, ht⟩
    | j + 1, hj => simp at hj⟩
theorem OwnB.none {base g : Nat} {P : Nat → Prop} {w : World} (hg : w.heap[g]? = some (.cells #[] 61 (0, 0))) (hb : base ≤ g) : OwnB base P w (.slice (some ⟨g, 0, none⟩) 0 0) [] :=
  ⟨[], ⟨rfl, .inr ⟨g, 0, _, rfl, hb, hg, Nat.le_refl _, by decide, rfl, rfl⟩⟩, rfl, fun j b hj => by simp at hj⟩
theorem OwnB.shape {base : Nat} {P : Nat → Prop} {w : World} {v : Value} {hs : List Bd} (h : OwnB base P w v hs) : ∃ A cap, v = .slice A hs.length cap := by
  obtain ⟨us, ho, _⟩ := h.row
  rcases ho.2 with ⟨rfl, hn⟩ | ⟨g, cap', cur, rfl, _⟩
  · exact ⟨Option.none, 0, by rw [hn]⟩
  · exact ⟨_, _, rfl⟩
theorem own_elem6 {base : Nat} {w : World} {A : Option Addr} {n cap : Nat} {us : List Value} (h : w.ownsRow base 61 6 (.slice A n cap) n (flatN us)) (hf : ∀ u ∈ us, SixB u) {j : Nat} {s : ByteArray} {c0 c1 c2 c3 c4 : Value} (hj : us[j]? = some (.agg #[.string s, c0, c1, c2, c3, c4])) :
    ∃ g, A = some ⟨g, 0, none⟩ ∧ base ≤ g ∧ g < w.heap.size ∧ BElem w ⟨g, 0, none⟩ j s (.agg #[c0, c1, c2, c3, c4]) := by
  have hlen := flat_length6 hf
  have hjl := (List.getElem?_eq_some_iff.1 hj).1
  have hown := h
  rcases h.2 with ⟨e, hn⟩ | ⟨g, cap', cur, e, hb, hg, rest⟩
  · have h1 := h.1
    omega
  · simp only [Value.slice.injEq] at e
    obtain ⟨rfl, _, rfl⟩ := e
    refine ⟨g, rfl, hb, heap_lt hg, ?_⟩
    have hc := hown.cells (g := g) rfl
    have at_ : ∀ i, i < 6 → ∀ x, (fiveN (.agg #[.string s, c0, c1, c2, c3, c4]))[i]? = some x → w.cell? ((⟨g, 0, none⟩ : Addr).add (j * 6 + i)) = some x := fun i hi x hx => hc _ _ ((flat_at6 hf hj i hi).trans hx)
    have a0 := at_ 0 (by decide) (.string s) rfl
    have a1 := at_ 1 (by decide) c0 rfl
    have a2 := at_ 2 (by decide) c1 rfl
    have a3 := at_ 3 (by decide) c2 rfl
    have a4 := at_ 4 (by decide) c3 rfl
    have a5 := at_ 5 (by decide) c4 rfl
    have addj : ∀ i, (⟨g, 0, none⟩ : Addr).add (j * 6 + (i + 1)) = ⟨((⟨g, 0, none⟩ : Addr).add (j * 6)).block, ((⟨g, 0, none⟩ : Addr).add (j * 6)).off + (i + 1), none⟩ := by
      intro i
      unfold Addr.add
      by_cases h0 : j * 6 = 0
      · simp [h0]
      · simp [h0]
    rw [addj 0] at a1
    rw [addj 1] at a2
    rw [addj 2] at a3
    rw [addj 3] at a4
    rw [addj 4] at a5
    exact ⟨c0, c1, c2, c3, c4, rfl, a0, a1, a2, a3, a4, a5⟩
theorem OwnB.brow {base : Nat} {P Q : Nat → Prop} {w : World} {A : Option Addr} {n cap : Nat} {hs : List Bd} (h : OwnB base P w (.slice A n cap) hs) (hP : ∀ b, P b → Q b) (hQ : ∀ b, base ≤ b → b < w.heap.size → Q b) : BRow Q w A n cap hs := by
  obtain ⟨us, ho, hl, ht⟩ := h.row
  have hf := ownB_six hl ht
  have hn : n = hs.length ∧ n ≤ cap ∧ cap ≤ maxLen := by
    rcases ho.2 with ⟨e, hn⟩ | ⟨g, cap', cur, e, _, _, hc, hm, _⟩
    · simp only [Value.slice.injEq] at e
      obtain ⟨rfl, rfl, rfl⟩ := e
      exact ⟨hn.symm, Nat.le_refl _, Nat.zero_le _⟩
    · simp only [Value.slice.injEq] at e
      obtain ⟨_, rfl, rfl⟩ := e
      exact ⟨rfl, hc, hm⟩
  obtain ⟨rfl, h2, h3⟩ := hn
  refine ⟨rfl, Nat.le_trans h2 h3, h2, fun j x hj => ?_⟩
  obtain ⟨u, hu, c0, c1, c2, c3, c4, rfl, hs', hT⟩ := ht j x hj
  obtain ⟨g, rfl, hb, hg, hE⟩ := own_elem6 ho hf hu
  exact ⟨_, _, rfl, hQ _ hb hg, hs', hE, hT.mono hP⟩
theorem OwnB.keep {base : Nat} {P Q F : Nat → Prop} {w w' : World} {v : Value} {hs : List Bd} (h : OwnB base P w v hs) (hm : Mod F w w') (hv : ∀ g, v.ownBlock = some g → ¬ F g) (hP : ∀ b, P b → b < w.heap.size ∧ ¬ F b) (hQ : ∀ b, P b → Q b) : OwnB base Q w' v hs := by
  obtain ⟨us, ho, hl, ht⟩ := h.row
  exact ⟨us, hm.row ho hv, hl, fun j x hj => by obtain ⟨u, hu, hT⟩ := ht j x hj; exact ⟨u, hu, hT.keep (fun b hb => hm.block b (hP b hb).1 (hP b hb).2) hQ⟩⟩
structure RowB (P : Nat → Prop) (w : World) (A : Option Addr) (n : Nat) (l : List Bd) : Prop where
  len : l.length = n
  at_ : ∀ j b, l[j]? = some b → ∃ ad v, A = some ad ∧ b.1.size ≤ maxLen ∧ BElem w ad j b.1 v ∧ TmAt P w b.2 v
theorem BRow.rowB {P : Nat → Prop} {w : World} {A : Option Addr} {n cap : Nat} {l : List Bd} (h : BRow P w A n cap l) : RowB P w A n l := ⟨h.len, fun j b hj => by obtain ⟨ad, v, e, _, r⟩ := h.at_ j b hj; exact ⟨ad, v, e, r⟩⟩
theorem RowB.one {g : Nat} {P : Nat → Prop} {w : World} {s : ByteArray} {t : Tm} {c0 c1 c2 c3 c4 : Value} (hg : w.heap[g]? = some (.cells #[.string s, c0, c1, c2, c3, c4] 61 (0, 0))) (hs : s.size ≤ maxLen) (ht : TmAt P w t (.agg #[c0, c1, c2, c3, c4])) : RowB P w (some ⟨g, 0, none⟩) 1 [(s, t)] :=
  ⟨rfl, fun j b hj => by
    match j, hj with
    | 0, hj =>
      simp at hj; subst hj
      exact ⟨_, _, rfl, hs, ⟨c0, c1, c2, c3, c4, rfl, cell_of_row (i := 0) hg rfl, cell_of_row (i := 1) hg rfl, cell_of_row (i := 2) hg rfl, cell_of_row (i := 3) hg rfl, cell_of_row (i := 4) hg rfl, cell_of_row (i := 5) hg rfl⟩, ht⟩
    | j + 1, hj => simp at hj⟩
theorem RowB.flat6 {P : Nat → Prop} {w : World} {ad : Addr} {n : Nat} {l : List Bd} (h : RowB P w (some ad) n l) :
    ∃ us : List Value, us.length = l.length ∧ (∀ (j : Nat) (b : Bd), l[j]? = some b → ∃ u, us[j]? = some u ∧ BdV P w b u) ∧ ∀ i u, (flatN us)[i]? = some u → w.cell? (ad.add i) = some u := by
  obtain ⟨us, hl, hu⟩ := rows_choose (n := l.length) (p := fun j u => ∃ s c0 c1 c2 c3 c4, u = .agg #[.string s, c0, c1, c2, c3, c4] ∧ BElem w ad j s (.agg #[c0, c1, c2, c3, c4]) ∧ ∀ b, l[j]? = some b → BdV P w b u) (fun j hj => by
    obtain ⟨ad', v, e, hs, he, ht⟩ := h.at_ j _ (List.getElem?_eq_getElem hj)
    cases e
    obtain ⟨c0, c1, c2, c3, c4, rfl, q⟩ := he
    exact ⟨_, _, c0, c1, c2, c3, c4, rfl, ⟨c0, c1, c2, c3, c4, rfl, q⟩, fun b hb => by rw [List.getElem?_eq_getElem hj] at hb; cases hb; exact ⟨c0, c1, c2, c3, c4, rfl, hs, ht⟩⟩)
  have at_ : ∀ (j : Nat) (b : Bd), l[j]? = some b → ∃ u, us[j]? = some u ∧ BdV P w b u := fun j b hx => by
    have hj := (List.getElem?_eq_some_iff.1 hx).1
    have e : us[j]? = some us[j] := List.getElem?_eq_getElem (by omega)
    obtain ⟨_, _, _, _, _, _, _, _, q⟩ := hu _ _ e
    exact ⟨_, e, q b hx⟩
  have hf := ownB_six hl at_
  refine ⟨us, hl, at_, fun i u hi => ?_⟩
  have hlen := flat_length6 hf
  have hil := (List.getElem?_eq_some_iff.1 hi).1
  have e5 : i / 6 * 6 + i % 6 = i := by omega
  have hj : i / 6 < us.length := by omega
  have eu : us[i / 6]? = some us[i / 6] := List.getElem?_eq_getElem hj
  obtain ⟨s, d0, d1, d2, d3, d4, ec, hE, _⟩ := hu _ _ eu
  obtain ⟨c0, c1, c2, c3, c4, ec2, gs, g0, g1, g2, g3, g4⟩ := hE
  simp only [Value.agg.injEq, Array.mk.injEq, List.cons.injEq, and_true] at ec2
  obtain ⟨rfl, rfl, rfl, rfl, rfl⟩ := ec2
  have hfl := flat_at6 hf eu (i % 6) (by omega)
  rw [e5, hi, ec] at hfl
  have addj : ∀ r, (ad.add (i / 6 * 6)).add r = ad.add (i / 6 * 6 + r) := by
    intro r
    unfold Addr.add
    by_cases h0 : i / 6 * 6 = 0
    · simp [h0]
    · by_cases h1 : r = 0
      · simp [h1]
      · simp [h0, h1]; omega
  have hm : i % 6 = 0 ∨ i % 6 = 1 ∨ i % 6 = 2 ∨ i % 6 = 3 ∨ i % 6 = 4 ∨ i % 6 = 5 := by omega
  rcases hm with hm | hm | hm | hm | hm | hm
  all_goals
    rw [hm] at hfl e5
    simp [fiveN] at hfl
    subst hfl
    rw [← e5]
  · rw [Nat.add_zero]; exact gs
  · rw [← addj]; rw [show (ad.add (i / 6 * 6)).add 1 = ⟨(ad.add (i / 6 * 6)).block, (ad.add (i / 6 * 6)).off + 1, none⟩ by simp [Addr.add]]; exact g0
  · rw [← addj]; rw [show (ad.add (i / 6 * 6)).add 2 = ⟨(ad.add (i / 6 * 6)).block, (ad.add (i / 6 * 6)).off + 2, none⟩ by simp [Addr.add]]; exact g1
  · rw [← addj]; rw [show (ad.add (i / 6 * 6)).add 3 = ⟨(ad.add (i / 6 * 6)).block, (ad.add (i / 6 * 6)).off + 3, none⟩ by simp [Addr.add]]; exact g2
  · rw [← addj]; rw [show (ad.add (i / 6 * 6)).add 4 = ⟨(ad.add (i / 6 * 6)).block, (ad.add (i / 6 * 6)).off + 4, none⟩ by simp [Addr.add]]; exact g3
  · rw [← addj]; rw [show (ad.add (i / 6 * 6)).add 5 = ⟨(ad.add (i / 6 * 6)).block, (ad.add (i / 6 * 6)).off + 5, none⟩ by simp [Addr.add]]; exact g4

section
variable {ops : Array Oper} {rest : List Oper} {o : Oper} {a : Act} {w : World}
set_option maxRecDepth 100000 in
theorem wp_own_binds {K : Act → World → Prop} {Q : Exit → Act → World → Prop} (sl x : Operand)
    (ho : o.op = .call { callee := .builtin .append, args := #[sl, x], argTypes := #[45, 45] })
    {base : Nat} {P : Nat → Prop} {v : Value} {hs : List Bd} (hown : OwnB base P w v hs) (hbase : base ≤ w.heap.size) (hP : ∀ b, P b → b < w.heap.size ∧ v.ownBlock ≠ some b) (he : a.eval sl = v)
    {A : Option Addr} {m cap : Nat} {ys : List Bd} (hx : a.eval x = .slice A m cap) (hR : RowB P w A m ys) (hlen : hs.length + ys.length ≤ 1000000)
    (h : ∀ v' w', OwnB base P w' v' (hs ++ ys) → w.grownBy w' v.ownBlock → (v'.ownBlock = v.ownBlock ∨ v'.ownBlock = some w.heap.size) → K (a.put o.dst v') w') : o.wp Tryz.prog a w K Q := by
  obtain ⟨i, hi, hz, hsz, hby⟩ := info_parts info_bind
  obtain ⟨us, hu, hl, ht⟩ := hown.row
  obtain rfl := hR.len
  unfold Oper.wp execOp
  simp only [ho, resolve, invoke, builtin, Sem.run_bind, Sem.run_pure, Result.andThen_ok, List.map_toArray, List.map_cons, List.map_nil, he, hx]
  rcases A with _ | ad
  · have hy : ys = [] := by
      cases ys with
      | nil => rfl
      | cons y ys => obtain ⟨ad, _, e, _⟩ := hR.at_ 0 y rfl; cases e
    subst hy
    rw [show ([] : List Bd).length = 0 from rfl, append_noughtN Tryz.underlying45 hi hu cap]
    exact h _ _ (by rw [List.append_nil]; exact hown) (World.grownBy.refl w _) (.inl rfl)
  · obtain ⟨vs, hvl, hvt, hvc⟩ := hR.flat6
    have hf := ownB_six hl ht
    have hg := ownB_six hvl hvt
    have h1 : ∀ u ∈ flatN vs, u.oneCell' = true := by
      intro u hu
      obtain ⟨v, hv, hu⟩ := List.mem_flatMap.1 hu
      obtain ⟨j, hj, rfl⟩ := List.getElem_of_mem hv
      obtain ⟨u', e1, c0, c1, c2, c3, c4, rfl, _, hT⟩ := hvt j ys[j] (List.getElem?_eq_getElem (by omega))
      rw [List.getElem?_eq_getElem hj] at e1
      rw [Option.some.inj e1] at hu
      generalize ys[j].2 = q at hT
      cases hT
      simp [fiveN] at hu
      rcases hu with rfl | rfl | rfl | rfl | rfl | rfl <;> rfl
    obtain ⟨v', w', hr, h2, h3, _, h5⟩ := run_append_own_at (P := Tryz.prog) w base 45 o.type 61 i _ 6 88 Tryz.underlying45 hi hz hsz hby rfl (by decide) v hs.length (flatN us) hu ad ys.length cap (flatN vs) (by rw [flat_length6 hg, hvl]) hvc h1 (by unfold maxLen; omega) (by omega) hbase
    rw [hr]
    have keepP : ∀ b, P b → w'.heap[b]? = w.heap[b]? := fun b hb => h3.block b (hP b hb).1 (fun e => (hP b hb).2 e.symm)
    refine h _ _ ⟨us ++ vs, ?_, by simp [hl, hvl], fun j z hj => ?_⟩ h3 h5
    · rw [List.length_append, flat_appendN]; exact h2
    · rw [List.getElem?_append] at hj
      split at hj
      · obtain ⟨u, hu', hT⟩ := ht j z hj
        exact ⟨u, by rw [List.getElem?_append_left (by omega)]; exact hu', hT.keep keepP (fun _ h => h)⟩
      · obtain ⟨u, hu', hT⟩ := hvt _ z hj
        exact ⟨u, by rw [List.getElem?_append_right (by omega), hl]; exact hu', hT.keep keepP (fun _ h => h)⟩
theorem wpList_own_binds {Q : Exit → Act → World → Prop} (hgd : o.guard = none) (sl x : Operand)
    (ho : o.op = .call { callee := .builtin .append, args := #[sl, x], argTypes := #[45, 45] })
    {base : Nat} {P : Nat → Prop} {v : Value} {hs : List Bd} (hown : OwnB base P w v hs) (hbase : base ≤ w.heap.size) (hP : ∀ b, P b → b < w.heap.size ∧ v.ownBlock ≠ some b) (he : a.eval sl = v)
    {A : Option Addr} {m cap : Nat} {ys : List Bd} (hx : a.eval x = .slice A m cap) (hR : RowB P w A m ys) (hlen : hs.length + ys.length ≤ 1000000)
    (h : ∀ v' w', OwnB base P w' v' (hs ++ ys) → w.grownBy w' v.ownBlock → (v'.ownBlock = v.ownBlock ∨ v'.ownBlock = some w.heap.size) → wpList Tryz.prog ops Q rest (a.put o.dst v') w') : wpList Tryz.prog ops Q (o :: rest) a w :=
  wpList_plain hgd fun K hK => wp_own_binds sl x ho hown hbase hP he hx hR hlen fun v' w' h1 h2 h3 => hK _ _ (h v' w' h1 h2 h3)
end
end Go.Proofs.YtkceoiaaiaomoaaGreatDoor
end
section
set_option linter.unusedVariables false
set_option linter.unusedSimpArgs false
namespace Go.Proofs.YtkceoiaaiaomoaaGreatDoor
open Go.RowKit

def vaN (s : ByteArray) : Tm := .mk 5 0 s ⟨#[]⟩ []
theorem findB_app : ∀ (a b : List Bd) (s : ByteArray), findB (a ++ b) s = match findB a s with | some y => some y | none => findB b s
  | [], b, s => rfl
  | x :: a, b, s => by
    rw [List.cons_append, findB, findB]
    by_cases h : x.1 = s
    · rw [if_pos h, if_pos h]
    · rw [if_neg h, if_neg h]; exact findB_app a b s
end Go.Proofs.YtkceoiaaiaomoaaGreatDoor
end
