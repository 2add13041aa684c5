/- The reader: row. -/
import Derived.Test.YtohbljgagbnjoaaDoorRdMin
import Derived.LoopTactic
import Derived.LoopNIn
set_option linter.unusedVariables false
namespace Go.Proofs.YtohbljgagbnjoaaDoor
open Go.RowKit
open Go.Lib (decDigits itoa)

/-- What may stand behind a term's text. -/
def Good (r : List UInt8) : Prop := Sep r ∧ Go.Lib.hasPrefix r [32] = false
theorem good_of {c : UInt8} {r : List UInt8} (h : kindN (c.toNat : Int) = 0) (h2 : (32 == c) = false) : Good (c :: r) :=
  ⟨sep_of h, by unfold Go.Lib.hasPrefix; rw [List.isPrefixOf, h2]; rfl⟩

/-- The contract of part at a term's text. -/
def ReadOf (w0 : World) (s : ByteArray) (x : Tm) : Prop := ∀ (rb pos bg : Nat) (W : World) (r : List UInt8), RS w0 rb s pos bg W → s.data.toList.drop pos = txt x ++ r → Good r → bg + x.nodes ≤ 256 →
  Calls Tryd.prog 42 #[.pointer (some ⟨rb, 0, none⟩)] W fun e W' => ∃ tv bg', e = .returned (.tuple #[tv, .int .i64 0]) ∧ TmAt (fun b => W.heap.size ≤ b ∧ b < W'.heap.size) W' x tv ∧ RS w0 rb s (pos + (txt x).length) bg' W' ∧ bg' ≤ bg + x.nodes ∧ Mod (fun k => k = rb) W W'

theorem pres_len_append (a b : List Tm) : (Tm.pres (a ++ b)).length = (Tm.pres a).length + (Tm.pres b).length := by rw [Tm.pres_append, List.length_append]

set_option maxHeartbeats 4000000 in
set_option maxRecDepth 100000 in
theorem row_is {w0 W : World} {rb pos bg : Nat} {s : ByteArray} (l : List Tm) (hne : l ≠ []) (hO : ∀ y ∈ l, ReadOf w0 s y) (h : RS w0 rb s pos bg W) (hs : s.size ≤ 1099511627776) {r : List UInt8} (hr : Good r) (hr2 : Go.Lib.hasPrefix r [44] = false) (hd : s.data.toList.drop pos = joinC (l.map txt) ++ r) (hb : bg + (Tm.pres l).length ≤ 256) (hll : l.length ≤ 1000) (hple : pos + (joinC (l.map txt)).length ≤ s.size) :
    Calls Tryd.prog 94 #[.pointer (some ⟨rb, 0, none⟩)] W fun e W' => ∃ A cap bg', e = .returned (.tuple #[.slice A l.length cap, .int .i64 0]) ∧ TRow (fun b => W.heap.size ≤ b ∧ b < W'.heap.size) W' A l.length cap l ∧ RS w0 rb s (pos + (joinC (l.map txt)).length) bg' W' ∧ bg' ≤ bg + (Tm.pres l).length ∧ Mod (fun k => k = rb) W W' := by
  have hrb := h.lt
  have HH := Lib.hid h
  have HO := Lib.hid hO
  have HR := Lib.hid hr
  have HR2 := Lib.hid hr2
  have HD := Lib.hid hd
  have HBG := Lib.hid hb
  have HLL := Lib.hid hll
  have HPL := Lib.hid hple
  have HRB := Lib.hid hrb
  clear h hO hr hr2 hd hb hll hple hrb
  go_enter Tryd.func94, Tryd.ntmps94
  go_wp2_with fail
  go_loopw [4] (fun vb wr => ∃ (pre : List Tm) (y : Tm) (rest : List Tm) (p bg' : Nat), l = pre ++ y :: rest ∧ RS w0 rb s p bg' wr ∧ s.data.toList.drop p = joinC ((y :: rest).map txt) ++ r ∧ p + (joinC ((y :: rest).map txt)).length = pos + (joinC (l.map txt)).length ∧ bg' + (Tm.pres (y :: rest)).length ≤ bg + (Tm.pres l).length ∧ Mod (fun k => k = rb) W wr ∧ OwnT W.heap.size (fun b => W.heap.size ≤ b ∧ b < wr.heap.size ∧ vb.ownBlock ≠ some b) wr vb pre) (fun vb _ => l.length - lenOf vb)
  case atStart =>
    obtain ⟨y, rest, rfl⟩ : ∃ y rest, l = y :: rest := by
      cases l with
      | nil => exact (hne rfl).elim
      | cons y rest => exact ⟨y, rest, rfl⟩
    exact ⟨[], y, rest, pos, bg, rfl, HH.out, HD.out, rfl, Nat.le_refl _, Mod.refl _ _, OwnT.nil _ _ _⟩
  case round =>
    obtain ⟨pre, y, rest, p, bg', hl, hrs, hdp, hpe, hbp, hm, hO⟩ := hrel
    obtain ⟨A2, cap2, rfl⟩ := hO.shape
    -- what the part's contract says here
    obtain ⟨r1, hr1, hg1, hje⟩ : ∃ r1, s.data.toList.drop p = txt y ++ r1 ∧ Good r1 ∧ ((rest = [] ∧ r1 = r ∧ joinC ((y :: rest).map txt) = txt y) ∨ (∃ y2 rest2, rest = y2 :: rest2 ∧ r1 = 44 :: (joinC (rest.map txt) ++ r) ∧ joinC ((y :: rest).map txt) = txt y ++ 44 :: joinC (rest.map txt))) := by
      cases rest with
      | nil => exact ⟨r, hdp, HR.out, .inl ⟨rfl, rfl, rfl⟩⟩
      | cons y2 rest2 => exact ⟨44 :: (joinC ((y2 :: rest2).map txt) ++ r), by rw [hdp]; simp [joinC], good_of (by decide) (by decide), .inr ⟨y2, rest2, rfl, rfl, rfl⟩⟩
    have hpy : (Tm.pres (y :: rest)).length = y.nodes + (Tm.pres rest).length := by rw [Tm.pres, List.length_append]; rfl
    have hcall := HO.out y (by rw [hl]; simp) rb p bg' wr r1 hrs hr1 hg1 (by have := HBG.out; omega)
    have HC := Lib.hid hcall
    have HL := Lib.hid hl
    have HRS := Lib.hid hrs
    have HR1 := Lib.hid hr1
    have HJE := Lib.hid hje
    have HPE := Lib.hid hpe
    have HBP := Lib.hid hbp
    have HPY := Lib.hid hpy
    have HM := Lib.hid hm
    have HOW := Lib.hid hO
    clear hcall hl hrs hr1 hg1 hje hpe hbp hpy hm hO hdp
    go_wp2_with fail
    refine HC.out.mono ?_
    rintro e W1 ⟨tv, bg2, rfl, hT, hrs1, hbg2, hm1⟩
    obtain ⟨k', n', s', t', L', A', cap', hy', rfl⟩ : ∃ k' n' s' t' L' A' cap', y = Tm.mk k' n' s' t' L' ∧ tv = .agg #[.int .i8 k', .int .i64 n', .string s', .string t', .slice A' L'.length cap'] := by
      cases hT; exact ⟨_, _, _, _, _, _, _, rfl, rfl⟩
    clear hy'
    obtain ⟨W2, hW2⟩ : ∃ W2, W2 = W1.alloc (.cells #[.int .i8 k', .int .i64 n', .string s', .string t', .slice A' L'.length cap'] 25) := ⟨_, rfl⟩
    obtain ⟨W3, hW3⟩ : ∃ W3, W3 = W2.alloc (.cells #[.int .i8 k', .int .i64 n', .string s', .string t', .slice A' L'.length cap'] 25) := ⟨_, rfl⟩
    have z2 : W2.heap.size = W1.heap.size + 1 := by rw [hW2]; exact World.size_alloc _ _
    have z3 : W3.heap.size = W1.heap.size + 2 := by rw [hW3, World.size_alloc, z2]
    have g2 : W2.heap[W1.heap.size]? = some (.cells #[.int .i8 k', .int .i64 n', .string s', .string t', .slice A' L'.length cap'] 25 (0, 0)) := by rw [hW2]; exact block_alloc _ _
    have g3 : W3.heap[W1.heap.size + 1]? = some (.cells #[.int .i8 k', .int .i64 n', .string s', .string t', .slice A' L'.length cap'] 25 (0, 0)) := by rw [hW3, ← z2]; exact block_alloc _ _
    have m13 : Mod (fun _ => False) W1 W3 := by rw [hW3, hW2]; exact (Mod.alloc _ _ _).trans (Mod.alloc _ _ _) (fun _ _ h => h)
    have d0 : W2.cell? ⟨W1.heap.size, 0, none⟩ = some (.int .i8 k') := cell_of_row g2 rfl
    have d1 : W2.cell? ⟨W1.heap.size, 1, none⟩ = some (.int .i64 n') := cell_of_row g2 rfl
    have d2 : W2.cell? ⟨W1.heap.size, 2, none⟩ = some (.string s') := cell_of_row g2 rfl
    have d3 : W2.cell? ⟨W1.heap.size, 3, none⟩ = some (.string t') := cell_of_row g2 rfl
    have d4 : W2.cell? ⟨W1.heap.size, 4, none⟩ = some (.slice A' L'.length cap') := cell_of_row g2 rfl
    have hwr := HM.out.size
    have hwr1 := hm1.size
    have hrb := HRB.out
    have hob : ∀ g, (Value.slice A2 pre.length cap2).ownBlock = some g → W.heap.size ≤ g ∧ g < wr.heap.size := fun g hg => by
      obtain ⟨us, ho, _⟩ := HOW.out.row
      exact ho.lt g hg
    have ow1 : OwnT W.heap.size (fun b => W.heap.size ≤ b ∧ b < W3.heap.size ∧ (Value.slice A2 pre.length cap2).ownBlock ≠ some b) W1 (.slice A2 pre.length cap2) pre := HOW.out.keep hm1 (fun g hg => by have := (hob g hg).1; omega) (fun b hb => ⟨hb.2.1, by omega⟩) (fun b hb => ⟨hb.1, by omega, hb.2.2⟩)
    have ow3 : OwnT W.heap.size (fun b => W.heap.size ≤ b ∧ b < W3.heap.size ∧ (Value.slice A2 pre.length cap2).ownBlock ≠ some b) W3 (.slice A2 pre.length cap2) pre := by
      have ow1' : OwnT W.heap.size (fun b => W.heap.size ≤ b ∧ b < W1.heap.size ∧ (Value.slice A2 pre.length cap2).ownBlock ≠ some b) W1 (.slice A2 pre.length cap2) pre := HOW.out.keep hm1 (fun g hg => by have := (hob g hg).1; omega) (fun b hb => ⟨hb.2.1, by omega⟩) (fun b hb => ⟨hb.1, by omega, hb.2.2⟩)
      exact ow1'.keep m13 (fun g hg h => h) (fun b hb => ⟨hb.2.1, fun h => h⟩) (fun b hb => ⟨hb.1, by omega, hb.2.2⟩)
    have t3 : TmAt (fun b => W.heap.size ≤ b ∧ b < W3.heap.size ∧ (Value.slice A2 pre.length cap2).ownBlock ≠ some b) W3 y (.agg #[.int .i8 k', .int .i64 n', .string s', .string t', .slice A' L'.length cap']) := hT.keep (fun b hb => m13.block b hb.2 (fun h => h)) (fun b hb => ⟨by omega, by omega, fun e => by have := (hob b e).2; omega⟩)
    have HOW3 := Lib.hid ow3
    have HT3 := Lib.hid t3
    have HG3 := Lib.hid g3
    have HM13 := Lib.hid m13
    have HZ3 := Lib.hid z3
    have HRS1 := Lib.hid hrs1
    have HBG2 := Lib.hid hbg2
    have HM1 := Lib.hid (HM.out.trans hm1 (fun _ _ h => h))
    have HOB := Lib.hid hob
    have hpl : pre.length + 1 ≤ 1000000 := by have h1 := HL.out; have h2 := HLL.out; rw [h1, List.length_append] at h2; omega
    have HPRE := Lib.hid hpl
    have hb3 : W.heap.size ≤ W3.heap.size := by omega
    have HW3 := Lib.hid hW3
    have HB3 := Lib.hid hb3
    clear hT hrs1 hbg2 hm1 z2 z3 g2 g3 m13 ow1 ow3 t3 hob hpl hwr hwr1 hb3
    subst hW2
    go_wp2_with (rw [← hW3]; refine wpList_own_term rfl (.tmp 15) (.tmp 17) rfl HOW3.out HB3.out (fun b hb => ⟨hb.2.1, hb.2.2⟩) rfl (W1.heap.size + 1) rfl HG3.out HT3.out HPRE.out ?_)
    intro v' w' O' hg hwh
    (try rw [← HW3.out] at hg); (try rw [← HW3.out] at hwh)
    have hrb := HRB.out
    have hwr := HM1.out.size
    have m' : Mod (fun g => W.heap.size ≤ g) W1 w' := (HM13.out.mono (fun _ _ h => h.elim)).trans (Mod.grown (F := fun g => W.heap.size ≤ g) hg (fun g _ e => (HOB.out g e).1)) (fun _ _ h => h)
    have hlo := HRS1.out.lo
    have rs2 : RS w0 rb s (p + (txt y).length) bg2 w' := HRS1.out.mod m' (by omega) (fun k (h : W.heap.size ≤ k) => by omega)
    have mA : Mod (fun k => k = rb) W w' := HM1.out.trans m' (fun i hi (h : W.heap.size ≤ i) => by omega)
    obtain ⟨A5, cap5, rfl⟩ := O'.shape
    have hob' : ∀ g, (Value.slice A5 (pre ++ [y]).length cap5).ownBlock = some g → W.heap.size ≤ g := fun g hg => by
      obtain ⟨us, ho, _⟩ := O'.row
      exact (ho.lt g hg).1
    have hsz : W3.heap.size ≤ w'.heap.size := hg.size
    have hz3 := HZ3.out
    have own' : OwnT W.heap.size (fun b => W.heap.size ≤ b ∧ b < w'.heap.size ∧ (Value.slice A5 (pre ++ [y]).length cap5).ownBlock ≠ some b) w' (.slice A5 (pre ++ [y]).length cap5) (pre ++ [y]) :=
      O'.keep (Mod.refl (fun _ => False) w') (fun _ _ h => h) (fun b hb => ⟨by have h1 := hb.2.1; omega, fun h => h⟩) (fun b hb => ⟨hb.1, by have h1 := hb.2.1; omega, fun e => by
        rcases hwh with h1 | h1
        · exact hb.2.2 (h1.trans e)
        · rw [h1] at e; injection e with e; have h1 := hb.2.1; omega⟩)
    have hdr := (drop_more HR1.out).1
    have HRS2 := Lib.hid rs2
    have HMA := Lib.hid mA
    have HOWN := Lib.hid own'
    have HOB' := Lib.hid hob'
    have HDR := Lib.hid hdr
    clear rs2 mA own' hob' hdr O' hg hwh m' hsz hz3 hwr hlo hrb hW3
    rcases HJE.out with ⟨rfl, rfl, hj⟩ | ⟨y2, rest2, rfl, hr1e, hj⟩
    · have T : Hid (∀ V, RS w0 rb s (p + (txt y).length) bg2 V → Calls Tryd.prog 93 #[.pointer (some ⟨rb, 0, none⟩), .string ⟨#[44]⟩] V fun e W' => e = .returned (.bool false) ∧ RS w0 rb s (p + (txt y).length) bg2 W' ∧ Mod (fun k => k = rb) V W') := fun V hV =>
        take_is hV (by have h1 := HPE.out; have h2 := HPL.out; rw [hj] at h1; omega) hs ⟨#[44]⟩ (by decide) false (by rw [HDR.out]; exact HR2.out)
      have HJ := Lib.hid hj
      clear hj
      go_wp2_with fail
      refine (T.out _ HRS2.out).mono ?_
      rintro e V ⟨rfl, hV, mV⟩
      have HV := Lib.hid hV
      have HMV := Lib.hid mV
      clear hV mV
      go_wp2_with fail
      go_ret2
      have hle : l = pre ++ [y] := HL.out
      have hO5 := HOWN.out.keep HMV.out (Q := fun b => W.heap.size ≤ b ∧ b < V.heap.size) (fun g hg e => by have := HOB'.out g hg; have := HRB.out; omega) (fun b hb => ⟨hb.2.1, by have h1 := hb.1; have := HRB.out; omega⟩) (fun b hb => ⟨hb.1, by have h1 := hb.2.1; have := HMV.out.size; omega⟩)
      have hlen : (pre ++ [y]).length = l.length := by rw [hle]
      have ht := (hO5.trow (Q := fun b => W.heap.size ≤ b ∧ b < V.heap.size) (fun b hb => hb) (fun b h1 h2 _ => ⟨h1, h2⟩)).2
      rw [← hle] at ht
      refine ⟨A5, cap5, bg2, by rw [← hlen]; simp, ht, ?_, ?_, HMA.out.trans HMV.out (fun _ _ h => h)⟩
      · have h1 := HPE.out
        rw [HJ.out] at h1
        rw [← h1]; exact HV.out
      · have h1 := HBG2.out; have h2 := HBP.out; have h3 := HPY.out; omega
    · have hdr2 : s.data.toList.drop (p + (txt y).length) = 44 :: (joinC ((y2 :: rest2).map txt) ++ r) := by rw [HDR.out, hr1e]
      obtain ⟨hp3, -, -, hdr3⟩ := drop_one hdr2
      have T : Hid (∀ V, RS w0 rb s (p + (txt y).length) bg2 V → Calls Tryd.prog 93 #[.pointer (some ⟨rb, 0, none⟩), .string ⟨#[44]⟩] V fun e W' => e = .returned (.bool true) ∧ RS w0 rb s (p + (txt y).length + 1) bg2 W' ∧ Mod (fun k => k = rb) V W') := fun V hV => take_at hV hs 44 hdr2
      have HJ := Lib.hid hj
      have HDR3 := Lib.hid hdr3
      clear hj hdr2 hp3 hdr3 hr1e
      go_wp2_with fail
      refine (T.out _ HRS2.out).mono ?_
      rintro e V ⟨rfl, hV, mV⟩
      have HV := Lib.hid hV
      have HMV := Lib.hid mV
      clear hV mV
      go_wp2_with fail
      go_roundw
      case rel =>
        refine ⟨pre ++ [y], y2, rest2, p + (txt y).length + 1, bg2, by rw [HL.out]; simp, HV.out, HDR3.out, ?_, ?_, HMA.out.trans HMV.out (fun _ _ h => h), ?_⟩
        · have h1 := HPE.out
          rw [HJ.out, List.length_append, List.length_cons] at h1
          omega
        · have h1 := HBG2.out; have h2 := HBP.out; have h3 := HPY.out; omega
        · have hx : pre.length + 1 = (pre ++ [y]).length := by simp
          rw [hx]
          exact HOWN.out.keep HMV.out (fun g hg e => by have := HOB'.out g hg; have := HRB.out; omega) (fun b hb => ⟨hb.2.1, by have h1 := hb.1; have := HRB.out; omega⟩) (fun b hb => ⟨hb.1, by have h1 := hb.2.1; have := HMV.out.size; omega, hb.2.2⟩)
      case measure =>
        have h1 := HL.out
        simp only [lenOf, List.length_append, List.length_cons, List.length_nil] at *
        rw [h1]; simp only [List.length_append, List.length_cons]; omega
end Go.Proofs.YtohbljgagbnjoaaDoor
