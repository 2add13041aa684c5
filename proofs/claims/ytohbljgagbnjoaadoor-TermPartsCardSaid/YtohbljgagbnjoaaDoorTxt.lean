/- The text of a term, as a plain function on terms; term.appendRow. -/
import Derived.Test.YtohbljgagbnjoaaDoorBuf
import Derived.Test.YtohbljgagbnjoaaDoorUnroll
set_option linter.unusedVariables false
namespace Go.Proofs.YtohbljgagbnjoaaDoor
open Go.RowKit
open Go.Lib (itoa byteCells)

/-- Texts with commas between. -/
def joinC : List (List UInt8) → List UInt8
  | [] => []
  | [a] => a
  | a :: b :: l => a ++ 44 :: joinC (b :: l)
theorem joinC_snoc : ∀ (l : List (List UInt8)) (b : List UInt8), joinC (l ++ [b]) = if l = [] then b else joinC l ++ 44 :: b
  | [], b => by simp [joinC]
  | [a], b => by simp [joinC]
  | a :: c :: l, b => by
    have h := joinC_snoc (c :: l) b
    simp only [List.cons_append] at h ⊢
    rw [joinC, h]
    simp [joinC]

def consB (c : List (List UInt8 × List UInt8)) : List UInt8 := match c with | [h, t] => h.1 ++ t.2 | _ => []

def ownB (k n : Int) (s t : ByteArray) (c : List (List UInt8 × List UInt8)) : List UInt8 :=
  if k = 0 then itoa n
  else if k = 1 then s.data.toList
  else if k = 2 then [35, 82, 101, 102, 60] ++ itoa n ++ [62]
  else if k = 3 then [102, 117, 110, 32] ++ s.data.toList ++ [58] ++ t.data.toList ++ [47] ++ itoa n
  else if k = 4 then [60] ++ itoa n ++ [62]
  else if k = 5 then [123] ++ joinC (c.map (·.1)) ++ [125]
  else if k = 6 then [91, 93]
  else if k = 7 then [91] ++ consB c ++ [93]
  else []

mutual
/-- The text of a term; and what stands for it behind a list's head. -/
def Tm.tx : Tm → List UInt8 × List UInt8
  | .mk k n s t l => (ownB k n s t (Tm.txs l), if k = 7 then 44 :: consB (Tm.txs l) else if k = 6 then [] else 124 :: ownB k n s t (Tm.txs l))
def Tm.txs : List Tm → List (List UInt8 × List UInt8)
  | [] => []
  | x :: l => x.tx :: Tm.txs l
end
theorem Tm.txs_map (l : List Tm) : Tm.txs l = l.map Tm.tx := by
  induction l with
  | nil => rfl
  | cons x l ih => rw [Tm.txs, ih]; rfl
/-- The text of a term. -/
def txt (x : Tm) : List UInt8 := x.tx.1
theorem txt_mk (k n : Int) (s t : ByteArray) (l : List Tm) : txt (.mk k n s t l) = ownB k n s t (l.map Tm.tx) := by unfold txt; rw [Tm.tx, Tm.txs_map]
theorem map_tx (l : List Tm) : (l.map Tm.tx).map (·.1) = l.map txt := by simp [txt]

theorem tail_cons {n : Int} {s t : ByteArray} {l : List Tm} : (Tm.mk 7 n s t l).tx.2 = 44 :: consB (l.map Tm.tx) := by rw [Tm.tx, Tm.txs_map]; simp
/-- What stands for a term that is no cons behind a list's head. -/
def tailT (x : Tm) : List UInt8 := if x.k = 6 then [] else 124 :: txt x
theorem tail_other {x : Tm} (h : x.k ≠ 7) : x.tx.2 = tailT x := by
  obtain ⟨k, n, s, t, l⟩ := x
  have h7 : ¬ k = 7 := h
  rw [Tm.tx]
  exact (if_neg h7).trans rfl

theorem chain_body {n : Int} {s t : ByteArray} {a b : Tm} {hs : List Tm} {z : Tm} (h : Chain (.mk 7 n s t [a, b]) hs z) : (hs = [] ∧ z = .mk 7 n s t [a, b]) ∨ (hs ≠ [] ∧ consB ([a, b].map Tm.tx) = joinC (hs.map txt) ++ z.tx.2) := by
  induction h with
  | nil => exact .inl ⟨rfl, rfl⟩
  | @snoc hs n' s' t' c d _ ih =>
    refine .inr ⟨by simp, ?_⟩
    rcases ih with ⟨rfl, e⟩ | ⟨hne, e⟩
    · simp only [Tm.mk.injEq, true_and] at e
      obtain ⟨_, _, _, e⟩ := e
      simp only [List.cons.injEq, and_true] at e
      obtain ⟨rfl, rfl⟩ := e
      simp [consB, joinC, txt]
    · rw [e, List.map_append, List.map_cons, List.map_nil, joinC_snoc, if_neg (by simpa using hne), tail_cons]
      simp [consB, txt]
/-- The text of a cons, by its heads and its tail. -/
theorem chain_text {n : Int} {s t : ByteArray} {a b : Tm} {hs : List Tm} {z : Tm} (h : Chain (.mk 7 n s t [a, b]) hs z) (hz : z.k ≠ 7) :
    txt (.mk 7 n s t [a, b]) = [91] ++ joinC (hs.map txt) ++ tailT z ++ [93] := by
  rcases chain_body h with ⟨_, rfl⟩ | ⟨_, e⟩
  · exact (hz rfl).elim
  · rw [txt_mk, ownB, if_neg (by decide), if_neg (by decide), if_neg (by decide), if_neg (by decide), if_neg (by decide), if_neg (by decide), if_neg (by decide), if_pos rfl, e, tail_other hz]
    simp

/-- Blocks that no text under way turns: those below B, and rows of terms. -/
def Stays (B : Nat) (w : World) (b : Nat) : Prop := b < B ∨ ∃ c fz, w.heap[b]? = some (.cells c 25 fz)
theorem Buf.stays {B : Nat} {w0 w : World} {v : Value} {l : List UInt8} (h : Buf B w0 v l w) {b : Nat} (hb : Stays B w0 b) : w.heap[b]? = w0.heap[b]? := by
  rcases hb with hb | ⟨c, fz, hb⟩
  · exact h.below.block b hb
  · rw [hb]; exact h.block hb (fun c' fz' e => by injection e with _ e2; revert e2; decide)
theorem Stays.on {B : Nat} {w0 w : World} {v : Value} {l : List UInt8} (h : Buf B w0 v l w) {b : Nat} (hb : Stays B w0 b) : Stays B w b := by
  have := h.stays hb
  rcases hb with hb | ⟨c, fz, hb⟩
  · exact .inl hb
  · exact .inr ⟨c, fz, this.trans hb⟩
theorem Stays.lt {B : Nat} {w : World} {b : Nat} (hb : Stays B w b) (hB : B ≤ w.heap.size) : b < w.heap.size := by
  rcases hb with hb | ⟨c, fz, hb⟩
  · omega
  · exact heap_lt hb

/-- The contract of appendTerm at a term. -/
def TxtOf (x : Tm) : Prop := ∀ (B : Nat) (P : Nat → Prop) (sv v : Value) (xs : List UInt8) (w : World), Buf B w sv xs w → Pow B w → (∀ b, P b → Stays B w b) → TmAt P w x v → Valid x → xs.length + (txt x).length + 64 ≤ 140737488355328 →
  Calls Tryd.prog 41 #[sv, v] w fun e w' => ∃ v', e = .returned v' ∧ Buf B w v' (xs ++ txt x) w'

theorem joinC_take {l : List Tm} {j : Nat} {y : Tm} (h : l[j]? = some y) : joinC ((l.take (j + 1)).map txt) = if j = 0 then txt y else joinC ((l.take j).map txt) ++ 44 :: txt y := by
  rw [List.take_add_one, h]
  simp only [Option.toList, List.map_append, List.map_cons, List.map_nil]
  rw [joinC_snoc]
  have hl := (List.getElem?_eq_some_iff.1 h).1
  by_cases h0 : j = 0
  · subst h0; simp
  · rw [if_neg h0, if_neg]
    intro e
    have := congrArg List.length e
    simp only [List.length_map, List.length_take, List.length_nil] at this
    omega
theorem joinC_len_take (l : List Tm) (j : Nat) : (joinC ((l.take j).map txt)).length ≤ (joinC (l.map txt)).length := by
  have : ∀ (m : List (List UInt8)) (j : Nat), (joinC (m.take j)).length ≤ (joinC m).length := by
    intro m
    induction m with
    | nil => intro j; simp
    | cons a m ih =>
      intro j
      cases j with
      | zero => simp [joinC]
      | succ j =>
        cases m with
        | nil => simp
        | cons b m =>
          have h := ih j
          cases j with
          | zero => simp [joinC]
          | succ j => simp only [List.take_succ_cons, joinC, List.length_append, List.length_cons] at h ⊢; omega
  rw [List.map_take]
  exact this _ _

set_option maxHeartbeats 4000000 in
set_option maxRecDepth 100000 in
theorem appendRow_any (l : List Tm) (hO : ∀ y ∈ l, TxtOf y) (hV : ∀ y ∈ l, Valid y) (B : Nat) (P : Nat → Prop) (sv : Value) (xs : List UInt8) (A : Option Addr) (cap : Nat) (w : World) (hb : Buf B w sv xs w) (hp : Pow B w) (hP : ∀ b, P b → Stays B w b) (hR : TRow P w A l.length cap l)
    (hlen : xs.length + (joinC (l.map txt)).length + 64 ≤ 140737488355328) :
    Calls Tryd.prog 72 #[sv, .slice A l.length cap] w fun e w' => ∃ v', e = .returned v' ∧ Buf B w v' (xs ++ joinC (l.map txt)) w' := by
  have hmax := hR.max
  unfold maxLen at hmax
  have HB := Lib.hid hb
  have HP := Lib.hid hp
  have HPB := Lib.hid hP
  have HR := Lib.hid hR
  have HO := Lib.hid hO
  have HV := Lib.hid hV
  have HLE := Lib.hid hlen
  clear hb hp hP hR hO hV hlen
  go_enter Tryd.func72, Tryd.ntmps72
  go_wp2_with fail
  go_loopw [0, 9] (fun vb i wr => ∃ j : Nat, j ≤ l.length ∧ i = .int .i64 j ∧ Buf B w vb (xs ++ joinC ((l.take j).map txt)) wr) (fun _ i _ => l.length - (intOf i).toNat)
  case atStart => exact ⟨0, Nat.zero_le _, rfl, by simpa [joinC] using HB.out⟩
  case round =>
    obtain ⟨j, hj, rfl, hbr⟩ := hrel
    have HBR := Lib.hid hbr
    clear hbr
    by_cases hlt : j < l.length
    · obtain ⟨y, hy⟩ : ∃ y, l[j]? = some y := ⟨l[j], List.getElem?_eq_getElem hlt⟩
      obtain ⟨ad, u, rfl, had, hE, hTy⟩ := HR.out.at_ j y hy
      have hEr : ElemAt wr ad j u := hE.keep (HBR.out.stays (HPB.out _ had))
      have hTr : TmAt P wr y u := hTy.keep (fun b hb => HBR.out.stays (HPB.out b hb)) (fun _ h => h)
      obtain ⟨k', n', s', t', L', A', cap', hy', rfl⟩ : ∃ k' n' s' t' L' A' cap', y = Tm.mk k' n' s' t' L' ∧ u = .agg #[.int .i8 k', .int .i64 n', .string s', .string t', .slice A' L'.length cap'] := by
        cases hTy; exact ⟨_, _, _, _, _, _, _, rfl, rfl⟩
      obtain ⟨c0, c1, c2, c3, c4, hc, e0, e1, e2, e3, e4⟩ := hEr
      simp only [Value.agg.injEq, Array.mk.injEq, List.cons.injEq, and_true] at hc
      obtain ⟨rfl, rfl, rfl, rfl, rfl⟩ := hc
      have hmem := List.mem_of_getElem? hy
      have hjt := joinC_take hy
      have hjl := joinC_len_take l (j + 1)
      have hl2 : (joinC ((l.take j).map txt)).length + (txt y).length + (if j = 0 then 0 else 1) ≤ (joinC (l.map txt)).length := by
        rw [hjt] at hjl
        by_cases h0 : j = 0
        · rw [if_pos h0] at hjl ⊢; subst h0; simpa [joinC] using hjl
        · rw [if_neg h0, List.length_append, List.length_cons] at hjl; rw [if_neg h0]; omega
      have HL2 := Lib.hid hl2
      have hj0 : joinC ((l.take (j + 1)).map txt) = if j = 0 then txt y else joinC ((l.take j).map txt) ++ 44 :: txt y := hjt
      have HJT := Lib.hid hjt
      clear hjl hl2 hj0
      have HTR := Lib.hid hTr
      obtain ⟨W1, hW1⟩ : ∃ W1, W1 = wr.alloc (.cells #[.int .i8 k', .int .i64 n', .string s', .string t', .slice A' L'.length cap'] 25) := ⟨_, rfl⟩
      have hb1 := HBR.out.alloc (.cells #[.int .i8 k', .int .i64 n', .string s', .string t', .slice A' L'.length cap'] 25)
      rw [← hW1] at hb1
      have gx : W1.heap[wr.heap.size]? = some (.cells #[.int .i8 k', .int .i64 n', .string s', .string t', .slice A' L'.length cap'] 25) := by rw [hW1]; exact block_alloc _ _
      have mW1 : Mod (fun _ => False) wr W1 := by rw [hW1]; exact Mod.alloc _ _ _
      have HB1 := Lib.hid hb1
      have HGX := Lib.hid gx
      have HM1 := Lib.hid mW1
      clear hE hTy hTr hy' hjt hy hb1 gx mW1
      -- the call at a world in which the text has come so far
      have call : ∀ (vb : Value) (l0 : List UInt8) (V : World), Buf B w vb l0 V → l0.length + (txt y).length + 64 ≤ 140737488355328 → Calls Tryd.prog 41 #[vb, .agg #[.int .i8 k', .int .i64 n', .string s', .string t', .slice A' L'.length cap']] V fun e w' => ∃ v', e = .returned v' ∧ Buf B w v' (l0 ++ txt y) w' := by
        intro vb l0 V hV' hl0
        refine ((HO.out y hmem) B P vb _ l0 V hV'.again (HP.out.on hV'.below) (fun b hb => (HPB.out b hb).on hV') ?_ (HV.out y hmem) hl0).mono ?_
        · exact HTR.out.keep (fun b hb => (hV'.stays (HPB.out b hb)).trans (HBR.out.stays (HPB.out b hb)).symm) (fun _ h => h)
        · rintro e w' ⟨v', rfl, h⟩
          exact ⟨v', rfl, hV'.then h⟩
      have HC := Lib.hid call
      clear call
      by_cases h0 : j = 0
      · have HJ0 : Hid (joinC ((l.take 1).map txt) = txt y) := by have h := HJT.out; rw [if_pos h0] at h; subst h0; exact h
        have HL0 : Hid ((txt y).length ≤ (joinC (l.map txt)).length) := by have h := HL2.out; show _ ≤ _; omega
        subst h0
        have ea0 : ad.add (0 * 5) = ad := by simp [Addr.add]
        rw [ea0] at e0 e1 e2 e3 e4
        clear ea0
        have d0 : W1.cell? ⟨wr.heap.size, 0, none⟩ = some (.int .i8 k') := cell_of_row HGX.out rfl
        have d1 : W1.cell? ⟨wr.heap.size, 1, none⟩ = some (.int .i64 n') := cell_of_row HGX.out rfl
        have d2 : W1.cell? ⟨wr.heap.size, 2, none⟩ = some (.string s') := cell_of_row HGX.out rfl
        have d3 : W1.cell? ⟨wr.heap.size, 3, none⟩ = some (.string t') := cell_of_row HGX.out rfl
        have d4 : W1.cell? ⟨wr.heap.size, 4, none⟩ = some (.slice A' L'.length cap') := cell_of_row HGX.out rfl
        subst hW1
        go_wp2_with fail
        refine (HC.out _ _ _ HB1.out (by have := HLE.out; have := HL0.out; simp [joinC]; omega)).mono ?_
        rintro e w2 ⟨v2, rfl, hb2⟩
        have HB2 := Lib.hid hb2
        clear hb2 d0 d1 d2 d3 d4 e0 e1 e2 e3 e4
        go_wp2_with fail
        go_roundw
        case rel => exact ⟨1, by omega, by rfl, by have h := HB2.out; rw [HJ0.out]; simpa [joinC] using h⟩
        case measure => simp [intOf]; omega
      · have hg0 : (0 : Int) < (j : Int) := by omega
        have HJ1 : Hid (joinC ((l.take (j + 1)).map txt) = joinC ((l.take j).map txt) ++ 44 :: txt y) := by have h := HJT.out; rw [if_neg h0] at h; exact h
        have HL1 : Hid ((joinC ((l.take j).map txt)).length + (txt y).length + 1 ≤ (joinC (l.map txt)).length) := by have h := HL2.out; rw [if_neg h0] at h; exact h
        clear h0
        obtain ⟨W2, hW2⟩ : ∃ W2, W2 = W1.alloc (.cells #[.int .u8 44] 5) := ⟨_, rfl⟩
        have HB2 : Hid (Buf B w u0 (xs ++ joinC ((l.take j).map txt)) W2) := by rw [hW2]; exact HB1.out.alloc _
        have HC2 : Hid (W2.cell? ⟨W1.heap.size, 0, none⟩ = some (.int .u8 (44 : UInt8).toNat)) := by rw [hW2]; exact cell_of_row (block_alloc _ _) rfl
        have HGX2 : Hid (W2.heap[wr.heap.size]? = some (.cells #[.int .i8 k', .int .i64 n', .string s', .string t', .slice A' L'.length cap'] 25 (0, 0))) := by rw [hW2]; exact (Below.heap_alloc _ _ _ (heap_lt HGX.out)).trans HGX.out
        have HS2 : Hid (W1.heap.size = wr.heap.size + 1) := by rw [hW1]; exact World.size_alloc _ _
        subst hW1
        have HC3 : Hid (W2.cell? ⟨wr.heap.size + 1, 0, none⟩ = some (.int .u8 (44 : UInt8).toNat)) := by have h := HC2.out; rw [HS2.out] at h; exact h
        have HLN : Hid ((xs ++ joinC ((l.take j).map txt)).length + 1 ≤ 140737488355328) := by have := HLE.out; have := HL1.out; show _ ≤ _; rw [List.length_append]; omega
        have HLC : Hid ((xs ++ joinC ((l.take j).map txt) ++ [(44 : UInt8)]).length + (txt y).length + 64 ≤ 140737488355328) := by have := HLE.out; have := HL1.out; show _ ≤ _; simp only [List.length_append, List.length_singleton]; omega
        go_wp2_with (at_builtin; rw [← hW2]; refine wpList_buf_byte rfl (.tmp 16) (.tmp 17) rfl HB2.out.again rfl (wr.heap.size + 1) 44 rfl HC3.out HLN.out ?_)
        intro v3 w3 hb3
        rw [← hW2] at hb3
        have gx3 : w3.heap[wr.heap.size]? = some (.cells #[.int .i8 k', .int .i64 n', .string s', .string t', .slice A' L'.length cap'] 25 (0, 0)) := (hb3.stays (.inr ⟨_, _, HGX2.out⟩)).trans HGX2.out
        have d0 : w3.cell? ⟨wr.heap.size, 0, none⟩ = some (.int .i8 k') := cell_of_row gx3 rfl
        have d1 : w3.cell? ⟨wr.heap.size, 1, none⟩ = some (.int .i64 n') := cell_of_row gx3 rfl
        have d2 : w3.cell? ⟨wr.heap.size, 2, none⟩ = some (.string s') := cell_of_row gx3 rfl
        have d3 : w3.cell? ⟨wr.heap.size, 3, none⟩ = some (.string t') := cell_of_row gx3 rfl
        have d4 : w3.cell? ⟨wr.heap.size, 4, none⟩ = some (.slice A' L'.length cap') := cell_of_row gx3 rfl
        have HB3 := Lib.hid (HB2.out.then hb3)
        clear hb3 gx3 e0 e1 e2 e3 e4 hW2
        go_wp2_with fail
        refine (HC.out _ _ _ HB3.out (by have h := HLC.out; simpa using h)).mono ?_
        rintro e w4 ⟨v4, rfl, hb4⟩
        have HB4 := Lib.hid hb4
        clear hb4 d0 d1 d2 d3 d4
        go_wp2_with fail
        go_roundw
        case rel => exact ⟨j + 1, by omega, by go_num, by have h := HB4.out; rw [HJ1.out]; simpa using h⟩
        case measure => simp [intOf]; omega
    · obtain rfl : j = l.length := by omega
      go_wp2_with fail
      go_ret
      exact ⟨_, rfl, by have h := HBR.out; rwa [List.take_length] at h⟩
end Go.Proofs.YtohbljgagbnjoaaDoor
