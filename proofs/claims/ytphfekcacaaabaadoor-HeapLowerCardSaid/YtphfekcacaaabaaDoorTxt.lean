/- The text of a term, as a plain function on terms; term.appendRow. -/
import Derived.Test.YtphfekcacaaabaaDoorBuf
import Derived.Test.YtphfekcacaaabaaDoorUnroll
set_option linter.unusedVariables false
namespace Go.Proofs.YtphfekcacaaabaaDoor
open Go.RowKit
open Go.Lib (itoa byteCells)

/-- Texts with commas between. -/
def joinC : List (List UInt8) → List UInt8
  | [] => []
  | [a] => a
  | a :: b :: l => a ++ 44 :: joinC (b :: l)
theorem joinC_snoc : ∀ (l : List (List UInt8)) (b : List UInt8), joinC (l ++ [b]) = if l = [] then b else joinC l ++ 44 :: b
  | [], b => by simp [joinC]
  | [a], b => by simp [joinC]
  | a :: c :: l, b => by
    have h := joinC_snoc (c :: l) b
    simp only [List.cons_append] at h ⊢
    rw [joinC, h]
    simp [joinC]

def consB (c : List (List UInt8 × List UInt8)) : List UInt8 := match c with | [h, t] => h.1 ++ t.2 | _ => []

def ownB (k n : Int) (s t : ByteArray) (c : List (List UInt8 × List UInt8)) : List UInt8 :=
  if k = 0 then itoa n
  else if k = 1 then s.data.toList
  else if k = 2 then [35, 82, 101, 102, 60] ++ itoa n ++ [62]
  else if k = 3 then [102, 117, 110, 32] ++ s.data.toList ++ [58] ++ t.data.toList ++ [47] ++ itoa n
  else if k = 4 then [60] ++ itoa n ++ [62]
  else if k = 5 then [123] ++ joinC (c.map (·.1)) ++ [125]
  else if k = 6 then [91, 93]
  else if k = 7 then [91] ++ consB c ++ [93]
  else []

mutual
/-- The text of a term; and what stands for it behind a list's head. -/
def Tm.tx : Tm → List UInt8 × List UInt8
  | .mk k n s t l => (ownB k n s t (Tm.txs l), if k = 7 then 44 :: consB (Tm.txs l) else if k = 6 then [] else 124 :: ownB k n s t (Tm.txs l))
def Tm.txs : List Tm → List (List UInt8 × List UInt8)
  | [] => []
  | x :: l => x.tx :: Tm.txs l
end
theorem Tm.txs_map (l : List Tm) : Tm.txs l = l.map Tm.tx := by
  induction l with
  | nil => rfl
  | cons x l ih => rw [Tm.txs, ih]; rfl
/-- The text of a term. -/
def txt (x : Tm) : List UInt8 := x.tx.1
theorem txt_mk (k n : Int) (s t : ByteArray) (l : List Tm) : txt (.mk k n s t l) = ownB k n s t (l.map Tm.tx) := by unfold txt; rw [Tm.tx, Tm.txs_map]
theorem map_tx (l : List Tm) : (l.map Tm.tx).map (·.1) = l.map txt := by simp [txt]

theorem tail_cons {n : Int} {s t : ByteArray} {l : List Tm} : (Tm.mk 7 n s t l).tx.2 = 44 :: consB (l.map Tm.tx) := by rw [Tm.tx, Tm.txs_map]; simp
/-- What stands for a term that is no cons behind a list's head. -/
def tailT (x : Tm) : List UInt8 := if x.k = 6 then [] else 124 :: txt x
theorem tail_other {x : Tm} (h : x.k ≠ 7) : x.tx.2 = tailT x := by
  obtain ⟨k, n, s, t, l⟩ := x
  have h7 : ¬ k = 7 := h
  rw [Tm.tx]
  exact (if_neg h7).trans rfl

theorem chain_body {n : Int} {s t : ByteArray} {a b : Tm} {hs : List Tm} {z : Tm} (h : Chain (.mk 7 n s t [a, b]) hs z) : (hs = [] ∧ z = .mk 7 n s t [a, b]) ∨ (hs ≠ [] ∧ consB ([a, b].map Tm.tx) = joinC (hs.map txt) ++ z.tx.2) := by
  induction h with
  | nil => exact .inl ⟨rfl, rfl⟩
  | @snoc hs n' s' t' c d _ ih =>
    refine .inr ⟨by simp, ?_⟩
    rcases ih with ⟨rfl, e⟩ | ⟨hne, e⟩
    · simp only [Tm.mk.injEq, true_and] at e
      obtain ⟨_, _, _, e⟩ := e
      simp only [List.cons.injEq, and_true] at e
      obtain ⟨rfl, rfl⟩ := e
      simp [consB, joinC, txt]
    · rw [e, List.map_append, List.map_cons, List.map_nil, joinC_snoc, if_neg (by simpa using hne), tail_cons]
      simp [consB, txt]
/-- The text of a cons, by its heads and its tail. -/
theorem chain_text {n : Int} {s t : ByteArray} {a b : Tm} {hs : List Tm} {z : Tm} (h : Chain (.mk 7 n s t [a, b]) hs z) (hz : z.k ≠ 7) :
    txt (.mk 7 n s t [a, b]) = [91] ++ joinC (hs.map txt) ++ tailT z ++ [93] := by
  rcases chain_body h with ⟨_, rfl⟩ | ⟨_, e⟩
  · exact (hz rfl).elim
  · rw [txt_mk, ownB, if_neg (by decide), if_neg (by decide), if_neg (by decide), if_neg (by decide), if_neg (by decide), if_neg (by decide), if_neg (by decide), if_pos rfl, e, tail_other hz]
    simp

/-- Blocks that no text under way turns: those below B, and rows of terms. -/
def Stays (B : Nat) (w : World) (b : Nat) : Prop := b < B ∨ ∃ c fz, w.heap[b]? = some (.cells c 25 fz)
theorem Buf.stays {B : Nat} {w0 w : World} {v : Value} {l : List UInt8} (h : Buf B w0 v l w) {b : Nat} (hb : Stays B w0 b) : w.heap[b]? = w0.heap[b]? := by
  rcases hb with hb | ⟨c, fz, hb⟩
  · exact h.below.block b hb
  · rw [hb]; exact h.block hb (fun c' fz' e => by injection e with _ e2; revert e2; decide)
theorem Stays.on {B : Nat} {w0 w : World} {v : Value} {l : List UInt8} (h : Buf B w0 v l w) {b : Nat} (hb : Stays B w0 b) : Stays B w b := by
  have := h.stays hb
  rcases hb with hb | ⟨c, fz, hb⟩
  · exact .inl hb
  · exact .inr ⟨c, fz, this.trans hb⟩
theorem Stays.lt {B : Nat} {w : World} {b : Nat} (hb : Stays B w b) (hB : B ≤ w.heap.size) : b < w.heap.size := by
  rcases hb with hb | ⟨c, fz, hb⟩
  · omega
  · exact heap_lt hb

theorem joinC_take {l : List Tm} {j : Nat} {y : Tm} (h : l[j]? = some y) : joinC ((l.take (j + 1)).map txt) = if j = 0 then txt y else joinC ((l.take j).map txt) ++ 44 :: txt y := by
  rw [List.take_add_one, h]
  simp only [Option.toList, List.map_append, List.map_cons, List.map_nil]
  rw [joinC_snoc]
  have hl := (List.getElem?_eq_some_iff.1 h).1
  by_cases h0 : j = 0
  · subst h0; simp
  · rw [if_neg h0, if_neg]
    intro e
    have := congrArg List.length e
    simp only [List.length_map, List.length_take, List.length_nil] at this
    omega
theorem joinC_len_take (l : List Tm) (j : Nat) : (joinC ((l.take j).map txt)).length ≤ (joinC (l.map txt)).length := by
  have : ∀ (m : List (List UInt8)) (j : Nat), (joinC (m.take j)).length ≤ (joinC m).length := by
    intro m
    induction m with
    | nil => intro j; simp
    | cons a m ih =>
      intro j
      cases j with
      | zero => simp [joinC]
      | succ j =>
        cases m with
        | nil => simp
        | cons b m =>
          have h := ih j
          cases j with
          | zero => simp [joinC]
          | succ j => simp only [List.take_succ_cons, joinC, List.length_append, List.length_cons] at h ⊢; omega
  rw [List.map_take]
  exact this _ _

/-- The table of powers of ten lies in its variable. -/
def PowTab (w : World) : Prop := Go.Lib.TabIs Tryd.prog w "internal/strconv.uint64pow10" .u64 Go.Lib.pow10Tab
end Go.Proofs.YtphfekcacaaabaaDoor
