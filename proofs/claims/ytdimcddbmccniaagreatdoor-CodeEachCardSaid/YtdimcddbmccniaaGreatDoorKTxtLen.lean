/- How long texts of terms are. -/
import Derived.Test.YtdimcddbmccniaaGreatDoorKNd7
import Derived.Test.YtdimcddbmccniaaGreatDoorKUnroll
import Derived.Test.YtdimcddbmccniaaGreatDoorKCd1
import Derived.Test.YtdimcddbmccniaaGreatDoorKTmL
import Derived.Lib.AppendStr
import Derived.Lib.OthersKept
import Derived.Lib.BufferKept
import Derived.Lib.UnsafeStr
import Derived.Lib.AppendIntMem
import Derived.Lib.ItoaLen
import Derived.Laws.AppendOwn
import Derived.Lib.Hide
section
set_option linter.unusedVariables false
namespace Go.Proofs.YtdimcddbmccniaaGreatDoor
open Go.RowKit

theorem okN_no {k n : Int} {s t : ByteArray} {len : Nat} (h : k < 0 ∨ 7 < k) : okN k n s t len = false := by
  unfold okN
  rw [if_neg (by omega), if_neg (by omega), if_neg (by omega), if_neg (by omega), if_neg (by omega), if_neg (by omega), if_neg (by omega), if_neg (by omega)]

theorem check_valid {x : Tm} (h : checkN x = 0) : Valid x ∧ x.nodes ≤ 256 := by
  unfold checkN at h
  by_cases ha : (x.pre.take 257).all okB = true
  · rw [if_pos ha] at h
    by_cases hn : 256 < x.nodes
    · rw [if_pos hn] at h; cases h
    · refine ⟨fun y hy => ?_, by omega⟩
      have : x.pre.take 257 = x.pre := List.take_of_length_le (by unfold Tm.nodes at hn; omega)
      rw [this] at ha
      exact List.all_eq_true.1 ha y hy
  · rw [if_neg ha] at h; cases h

theorem name_size {s : ByteArray} {k : Int} (h : nameB s k = true) : 1 ≤ s.size ∧ s.size ≤ 32 := by
  have := of_decide_eq_true h; exact ⟨this.1, this.2.1⟩
theorem toList_size (s : ByteArray) : s.data.toList.length = s.size := by rw [Array.length_toList]; rfl

end Go.Proofs.YtdimcddbmccniaaGreatDoor
end
section
set_option linter.unusedVariables false
namespace Go.Proofs.YtdimcddbmccniaaGreatDoor
open Go.RowKit Go.Lib

structure Buf (B : Nat) (w0 : World) (v : Value) (l : List UInt8) (w : World) : Prop where
  own : w.ownsRow B 5 1 v l.length (byteCells l)
  below : Below B w0 w
  base : B ≤ w.heap.size
  kept : OthersKept 5 none w0 w

theorem Buf.row {B : Nat} {w0 w : World} {v : Value} {l : List UInt8} (h : Buf B w0 v l w) : ∀ g, v.ownBlock = some g → ∃ c fz, w.heap[g]? = some (.cells c 5 fz) := by
  intro g hg
  rcases h.own.2 with ⟨rfl, _⟩ | ⟨g', cap, cur, rfl, _, hb, _⟩
  · simp [Value.ownBlock] at hg
  · simp [Value.ownBlock] at hg; subst hg; exact ⟨_, _, hb⟩
theorem Buf.grown {B : Nat} {w0 w w' : World} {v v' : Value} {l l' : List UInt8} (h : Buf B w0 v l w) (ho : w'.ownsRow B 5 1 v' l'.length (byteCells l')) (hg : w.grownBy w' v.ownBlock) : Buf B w0 v' l' w' :=
  ⟨ho, h.below.grown hg h.base (fun k hk => (h.own.lt k hk).1), Nat.le_trans h.base hg.size, h.kept.grown hg h.row⟩
theorem Buf.alloc {B : Nat} {w0 w : World} {v : Value} {l : List UInt8} (h : Buf B w0 v l w) (o : Obj) : Buf B w0 v l (w.alloc o) :=
  ⟨h.own.alloc o, h.below.alloc h.base o, Nat.le_trans h.base (by simp), h.kept.alloc o⟩
theorem Buf.drew {B : Nat} {w0 w : World} {v : Value} {l : List UInt8} (h : Buf B w0 v l w) : Buf B w0 v l { w with drawn := w.drawn + 1 } := ⟨h.own, h.below.drew, h.base, h.kept⟩
theorem Buf.block {B : Nat} {w0 w : World} {v : Value} {l : List UInt8} (h : Buf B w0 v l w) {k : Nat} {o : Obj} (hk : w0.heap[k]? = some o) (ho : ∀ c fz, o ≠ .cells c 5 fz) : w.heap[k]? = some o := h.kept k o hk (by simp) ho
theorem Buf.then {B : Nat} {w0 w1 w : World} {v v' : Value} {l l' : List UInt8} (h : Buf B w0 v l w1) (k : Buf B w1 v' l' w) : Buf B w0 v' l' w := ⟨k.own, h.below.trans k.below, k.base, h.kept.trans k.kept⟩
theorem Buf.start {B : Nat} {w : World} {v : Value} {l : List UInt8} (h : w.ownsRow B 5 1 v l.length (byteCells l)) (hB : B ≤ w.heap.size) : Buf B w v l w := ⟨h, Below.refl _ _, hB, OthersKept.refl _ _ _⟩
theorem Buf.again {B : Nat} {w0 w : World} {v : Value} {l : List UInt8} (h : Buf B w0 v l w) : Buf B w v l w := .start h.own h.base
theorem Buf.below_ {B : Nat} {w0 w w' : World} {v : Value} {l : List UInt8} (h : Buf B w0 v l w) (hb : Below w.heap.size w w') : Buf B w0 v l w' :=
  ⟨(Mod.of_below (F := fun _ => False) hb).row h.own (fun _ _ f => f), h.below.trans (hb.mono h.base), Nat.le_trans h.base hb.size, h.kept.below hb⟩

theorem info_u8 : (Tryz.prog.info? 5).map (fun i => (i.zero, i.size, i.bytes)) = some (some (.int .u8 0), 1, 1) := by kernel_rfl

section
variable {ops : Array Oper} {rest : List Oper} {o : Oper} {a : Act} {w : World}
theorem wp_buf_text {K : Act → World → Prop} {Q : Exit → Act → World → Prop} (sl x : Operand) (u : TypeId) (hu : Tryz.prog.underlying u = some .string)
    (ho : o.op = .call { callee := .builtin .append, args := #[sl, x], argTypes := #[171, u] })
    {B : Nat} {w0 : World} {v : Value} {l : List UInt8} (hb : Buf B w0 v l w) (hs : a.eval sl = v) (s : ByteArray) (hx : a.eval x = .string s) (hlen : l.length + s.size ≤ 140737488355328)
    (h : ∀ v' w', Buf B w0 v' (l ++ s.data.toList) w' → K (a.put o.dst v') w') : o.wp Tryz.prog a w K Q := by
  obtain ⟨i, hi, hz, hsz, hby⟩ := info_parts info_u8
  obtain ⟨v', w', hr, h2, h3, _⟩ := run_append_own_string (P := Tryz.prog) w B 171 u o.type 5 i Tryz.underlying171 hu hi hz hsz hby v l.length (byteCells l) hb.own s (by unfold maxLen; omega) hlen hb.base
  unfold Oper.wp execOp
  simp only [ho, resolve, invoke, builtin, Sem.run_bind, Sem.run_pure, Result.andThen_ok, List.map_toArray, List.map_cons, List.map_nil, hs, hx, hr]
  have hl : (l ++ s.data.toList).length = l.length + s.size := by rw [List.length_append, Array.length_toList]; rfl
  exact h _ _ (hb.grown (by rw [hl, byteCells_append]; exact h2) h3)

theorem wp_buf_byte {K : Act → World → Prop} {Q : Exit → Act → World → Prop} (sl x : Operand)
    (ho : o.op = .call { callee := .builtin .append, args := #[sl, x], argTypes := #[171, 171] })
    {B : Nat} {w0 : World} {v : Value} {l : List UInt8} (hb : Buf B w0 v l w) (hs : a.eval sl = v) (g : Nat) (c : UInt8) (hx : a.eval x = .slice (some ⟨g, 0, none⟩) 1 1) (hc : w.cell? ⟨g, 0, none⟩ = some (.int .u8 c.toNat)) (hlen : l.length + 1 ≤ 140737488355328)
    (h : ∀ v' w', Buf B w0 v' (l ++ [c]) w' → K (a.put o.dst v') w') : o.wp Tryz.prog a w K Q := by
  obtain ⟨i, hi, hz, hsz, hby⟩ := info_parts info_u8
  refine wp_append_own (P := Tryz.prog) w sl x 171 ho B 5 i (.int .u8 0) 1 1 Tryz.underlying171 hi hz hsz hby rfl (by decide) v l.length (byteCells l) hs hb.own ⟨g, 0, none⟩ 1 1 [.int .u8 c.toNat] hx rfl ?_ ?_ (by unfold maxLen; omega) (by omega) hb.base ?_
  · intro j u hj
    match j, hj with
    | 0, hj => simp at hj; subst hj; simpa [Addr.add] using hc
    | j + 1, hj => simp at hj
  · intro u hu; simp at hu; subst hu; rfl
  · intro v' w' h2 h3 _
    exact h _ _ (hb.grown (by rw [byteCells_append, List.length_append]; exact h2) h3)

theorem wpList_buf_text {Q : Exit → Act → World → Prop} (hgd : o.guard = none) (sl x : Operand) (u : TypeId) (hu : Tryz.prog.underlying u = some .string)
    (ho : o.op = .call { callee := .builtin .append, args := #[sl, x], argTypes := #[171, u] })
    {B : Nat} {w0 : World} {v : Value} {l : List UInt8} (hb : Buf B w0 v l w) (hs : a.eval sl = v) (s : ByteArray) (hx : a.eval x = .string s) (hlen : l.length + s.size ≤ 140737488355328)
    (h : ∀ v' w', Buf B w0 v' (l ++ s.data.toList) w' → wpList Tryz.prog ops Q rest (a.put o.dst v') w') : wpList Tryz.prog ops Q (o :: rest) a w :=
  wpList_plain hgd fun K hK => wp_buf_text sl x u hu ho hb hs s hx hlen fun v' w' h' => hK _ _ (h v' w' h')
theorem wpList_buf_byte {Q : Exit → Act → World → Prop} (hgd : o.guard = none) (sl x : Operand)
    (ho : o.op = .call { callee := .builtin .append, args := #[sl, x], argTypes := #[171, 171] })
    {B : Nat} {w0 : World} {v : Value} {l : List UInt8} (hb : Buf B w0 v l w) (hs : a.eval sl = v) (g : Nat) (c : UInt8) (hx : a.eval x = .slice (some ⟨g, 0, none⟩) 1 1) (hc : w.cell? ⟨g, 0, none⟩ = some (.int .u8 c.toNat)) (hlen : l.length + 1 ≤ 140737488355328)
    (h : ∀ v' w', Buf B w0 v' (l ++ [c]) w' → wpList Tryz.prog ops Q rest (a.put o.dst v') w') : wpList Tryz.prog ops Q (o :: rest) a w :=
  wpList_plain hgd fun K hK => wp_buf_byte sl x ho hb hs g c hx hc hlen fun v' w' h' => hK _ _ (h v' w' h')
end

def Pow (B : Nat) (w : World) : Prop := Lib.TabBelow Tryz.prog B w "internal/strconv.uint64pow10" .u64 Lib.pow10Tab

theorem appendNumber_any {B : Nat} {w0 w : World} {v : Value} {l : List UInt8} (hb : Buf B w0 v l w) (hp : Pow B w) (n : Int) (hn : -9223372036854775808 ≤ n ∧ n ≤ 9223372036854775807) (hlen : l.length + 21 ≤ 140737488355328) :
    Calls Tryz.prog 233 #[v, .int .i64 n] w fun e w' => ∃ v', e = .returned v' ∧ Buf B w0 v' (l ++ itoa n) w' := by
  have HC := Lib.hid (Tryz.strconv_AppendInt_10 B l.length n hn.1 hn.2 v (byteCells l) w hb.own hb.base hlen hp)
  have HB := Lib.hid hb
  clear hb hlen
  go_enter Tryz.func233, Tryz.ntmps233
  go_wp2_with fail
  refine HC.out.mono ?_
  rintro e w1 ⟨v', rfl, h1, h2, h3⟩
  have HR := Lib.hid (Buf.then HB.out ⟨by rw [List.length_append, byteCells_append]; exact h1, h2, Nat.le_trans HB.out.base h2.size, h3⟩ : Buf B w0 v' (l ++ itoa n) w1)
  clear h1 h2 h3
  go_wp2_with fail
  go_ret
  exact ⟨v', rfl, HR.out⟩
end Go.Proofs.YtdimcddbmccniaaGreatDoor
end
section
set_option linter.unusedVariables false
namespace Go.Proofs.YtdimcddbmccniaaGreatDoor
open Go.RowKit
open Go.Lib (itoa byteCells)

def joinC : List (List UInt8) → List UInt8
  | [] => []
  | [a] => a
  | a :: b :: l => a ++ 44 :: joinC (b :: l)
theorem joinC_snoc : ∀ (l : List (List UInt8)) (b : List UInt8), joinC (l ++ [b]) = if l = [] then b else joinC l ++ 44 :: b
  | [], b => by simp [joinC]
  | [a], b => by simp [joinC]
  | a :: c :: l, b => by
    have h := joinC_snoc (c :: l) b
    simp only [List.cons_append] at h ⊢
    rw [joinC, h]
    simp [joinC]

def consB (c : List (List UInt8 × List UInt8)) : List UInt8 := match c with | [h, t] => h.1 ++ t.2 | _ => []

def ownB (k n : Int) (s t : ByteArray) (c : List (List UInt8 × List UInt8)) : List UInt8 :=
  if k = 0 then itoa n
  else if k = 1 then s.data.toList
  else if k = 2 then [35, 82, 101, 102, 60] ++ itoa n ++ [62]
  else if k = 3 then [102, 117, 110, 32] ++ s.data.toList ++ [58] ++ t.data.toList ++ [47] ++ itoa n
  else if k = 4 then [60] ++ itoa n ++ [62]
  else if k = 5 then [123] ++ joinC (c.map (·.1)) ++ [125]
  else if k = 6 then [91, 93]
  else if k = 7 then [91] ++ consB c ++ [93]
  else []

mutual
def Tm.tx : Tm → List UInt8 × List UInt8
  | .mk k n s t l => (ownB k n s t (Tm.txs l), if k = 7 then 44 :: consB (Tm.txs l) else if k = 6 then [] else 124 :: ownB k n s t (Tm.txs l))
def Tm.txs : List Tm → List (List UInt8 × List UInt8)
  | [] => []
  | x :: l => x.tx :: Tm.txs l
end
theorem Tm.txs_map (l : List Tm) : Tm.txs l = l.map Tm.tx := by
  induction l with
  | nil => rfl
  | cons x l ih => rw [Tm.txs, ih]; rfl
def txt (x : Tm) : List UInt8 := x.tx.1
theorem txt_mk (k n : Int) (s t : ByteArray) (l : List Tm) : txt (.mk k n s t l) = ownB k n s t (l.map Tm.tx) := by unfold txt; rw [Tm.tx, Tm.txs_map]
theorem map_tx (l : List Tm) : (l.map Tm.tx).map (·.1) = l.map txt := by simp [txt]

theorem tail_cons {n : Int} {s t : ByteArray} {l : List Tm} : (Tm.mk 7 n s t l).tx.2 = 44 :: consB (l.map Tm.tx) := by rw [Tm.tx, Tm.txs_map]; simp
def tailT (x : Tm) : List UInt8 := if x.k = 6 then [] else 124 :: txt x
theorem tail_other {x : Tm} (h : x.k ≠ 7) : x.tx.2 = tailT x := by
  obtain ⟨k, n, s, t, l⟩ := x
  have h7 : ¬ k = 7 := h
  rw [Tm.tx]
  exact (if_neg h7).trans rfl

theorem chain_body {n : Int} {s t : ByteArray} {a b : Tm} {hs : List Tm} {z : Tm} (h : Chain (.mk 7 n s t [a, b]) hs z) : (hs = [] ∧ z = .mk 7 n s t [a, b]) ∨ (hs ≠ [] ∧ consB ([a, b].map Tm.tx) = joinC (hs.map txt) ++ z.tx.2) := by
  induction h with
  | nil => exact .inl ⟨rfl, rfl⟩
  | @snoc hs n' s' t' c d _ ih =>
    refine .inr ⟨by simp, ?_⟩
    rcases ih with ⟨rfl, e⟩ | ⟨hne, e⟩
    · simp only [Tm.mk.injEq, true_and] at e
      obtain ⟨_, _, _, e⟩ := e
      simp only [List.cons.injEq, and_true] at e
      obtain ⟨rfl, rfl⟩ := e
      simp [consB, joinC, txt]
    · rw [e, List.map_append, List.map_cons, List.map_nil, joinC_snoc, if_neg (by simpa using hne), tail_cons]
      simp [consB, txt]
theorem chain_text {n : Int} {s t : ByteArray} {a b : Tm} {hs : List Tm} {z : Tm} (h : Chain (.mk 7 n s t [a, b]) hs z) (hz : z.k ≠ 7) :
    txt (.mk 7 n s t [a, b]) = [91] ++ joinC (hs.map txt) ++ tailT z ++ [93] := by
  rcases chain_body h with ⟨_, rfl⟩ | ⟨_, e⟩
  · exact (hz rfl).elim
  · rw [txt_mk, ownB, if_neg (by decide), if_neg (by decide), if_neg (by decide), if_neg (by decide), if_neg (by decide), if_neg (by decide), if_neg (by decide), if_pos rfl, e, tail_other hz]
    simp

def Stays (B : Nat) (w : World) (b : Nat) : Prop := b < B ∨ ∃ c fz, w.heap[b]? = some (.cells c 48 fz)
theorem Buf.stays {B : Nat} {w0 w : World} {v : Value} {l : List UInt8} (h : Buf B w0 v l w) {b : Nat} (hb : Stays B w0 b) : w.heap[b]? = w0.heap[b]? := by
  rcases hb with hb | ⟨c, fz, hb⟩
  · exact h.below.block b hb
  · rw [hb]; exact h.block hb (fun c' fz' e => by injection e with _ e2; revert e2; decide)
theorem Stays.on {B : Nat} {w0 w : World} {v : Value} {l : List UInt8} (h : Buf B w0 v l w) {b : Nat} (hb : Stays B w0 b) : Stays B w b := by
  have := h.stays hb
  rcases hb with hb | ⟨c, fz, hb⟩
  · exact .inl hb
  · exact .inr ⟨c, fz, this.trans hb⟩
theorem Stays.lt {B : Nat} {w : World} {b : Nat} (hb : Stays B w b) (hB : B ≤ w.heap.size) : b < w.heap.size := by
  rcases hb with hb | ⟨c, fz, hb⟩
  · omega
  · exact heap_lt hb

def TxtOf (x : Tm) : Prop := ∀ (B : Nat) (P : Nat → Prop) (sv v : Value) (xs : List UInt8) (w : World), Buf B w sv xs w → Pow B w → (∀ b, P b → Stays B w b) → TmAt P w x v → Valid x → xs.length + (txt x).length + 64 ≤ 140737488355328 →
  Calls Tryz.prog 204 #[sv, v] w fun e w' => ∃ v', e = .returned v' ∧ Buf B w v' (xs ++ txt x) w'

theorem joinC_take {l : List Tm} {j : Nat} {y : Tm} (h : l[j]? = some y) : joinC ((l.take (j + 1)).map txt) = if j = 0 then txt y else joinC ((l.take j).map txt) ++ 44 :: txt y := by
  rw [List.take_add_one, h]
  simp only [Option.toList, List.map_append, List.map_cons, List.map_nil]
  rw [joinC_snoc]
  have hl := (List.getElem?_eq_some_iff.1 h).1
  by_cases h0 : j = 0
  · subst h0; simp
  · rw [if_neg h0, if_neg]
    intro e
    have := congrArg List.length e
    simp only [List.length_map, List.length_take, List.length_nil] at this
    omega
theorem joinC_len_take (l : List Tm) (j : Nat) : (joinC ((l.take j).map txt)).length ≤ (joinC (l.map txt)).length := by
  have : ∀ (m : List (List UInt8)) (j : Nat), (joinC (m.take j)).length ≤ (joinC m).length := by
    intro m
    induction m with
    | nil => intro j; simp
    | cons a m ih =>
      intro j
      cases j with
      | zero => simp [joinC]
      | succ j =>
        cases m with
        | nil => simp
        | cons b m =>
          have h := ih j
          cases j with
          | zero => simp [joinC]
          | succ j => simp only [List.take_succ_cons, joinC, List.length_append, List.length_cons] at h ⊢; omega
  rw [List.map_take]
  exact this _ _

set_option maxHeartbeats 4000000 in
set_option maxRecDepth 100000 in
theorem appendRow_any (l : List Tm) (hO : ∀ y ∈ l, TxtOf y) (hV : ∀ y ∈ l, Valid y) (B : Nat) (P : Nat → Prop) (sv : Value) (xs : List UInt8) (A : Option Addr) (cap : Nat) (w : World) (hb : Buf B w sv xs w) (hp : Pow B w) (hP : ∀ b, P b → Stays B w b) (hR : TRow P w A l.length cap l)
    (hlen : xs.length + (joinC (l.map txt)).length + 64 ≤ 140737488355328) :
    Calls Tryz.prog 234 #[sv, .slice A l.length cap] w fun e w' => ∃ v', e = .returned v' ∧ Buf B w v' (xs ++ joinC (l.map txt)) w' := by
  have hmax := hR.max
  unfold maxLen at hmax
  have HB := Lib.hid hb
  have HP := Lib.hid hp
  have HPB := Lib.hid hP
  have HR := Lib.hid hR
  have HO := Lib.hid hO
  have HV := Lib.hid hV
  have HLE := Lib.hid hlen
  clear hb hp hP hR hO hV hlen
  go_enter Tryz.func234, Tryz.ntmps234
  go_wp2_with fail
  go_loopw [0, 9] (fun vb i wr => ∃ j : Nat, j ≤ l.length ∧ i = .int .i64 j ∧ Buf B w vb (xs ++ joinC ((l.take j).map txt)) wr) (fun _ i _ => l.length - (intOf i).toNat)
  case atStart => exact ⟨0, Nat.zero_le _, rfl, by simpa [joinC] using HB.out⟩
  case round =>
    obtain ⟨j, hj, rfl, hbr⟩ := hrel
    have HBR := Lib.hid hbr
    clear hbr
    by_cases hlt : j < l.length
    · obtain ⟨y, hy⟩ : ∃ y, l[j]? = some y := ⟨l[j], List.getElem?_eq_getElem hlt⟩
      obtain ⟨ad, u, rfl, had, hE, hTy⟩ := HR.out.at_ j y hy
      have hEr : ElemAt wr ad j u := hE.keep (HBR.out.stays (HPB.out _ had))
      have hTr : TmAt P wr y u := hTy.keep (fun b hb => HBR.out.stays (HPB.out b hb)) (fun _ h => h)
      obtain ⟨k', n', s', t', L', A', cap', hy', rfl⟩ : ∃ k' n' s' t' L' A' cap', y = Tm.mk k' n' s' t' L' ∧ u = .agg #[.int .i8 k', .int .i64 n', .string s', .string t', .slice A' L'.length cap'] := by
        cases hTy; exact ⟨_, _, _, _, _, _, _, rfl, rfl⟩
      obtain ⟨c0, c1, c2, c3, c4, hc, e0, e1, e2, e3, e4⟩ := hEr
      simp only [Value.agg.injEq, Array.mk.injEq, List.cons.injEq, and_true] at hc
      obtain ⟨rfl, rfl, rfl, rfl, rfl⟩ := hc
      have hmem := List.mem_of_getElem? hy
      have hjt := joinC_take hy
      have hjl := joinC_len_take l (j + 1)
      have hl2 : (joinC ((l.take j).map txt)).length + (txt y).length + (if j = 0 then 0 else 1) ≤ (joinC (l.map txt)).length := by
        rw [hjt] at hjl
        by_cases h0 : j = 0
        · rw [if_pos h0] at hjl ⊢; subst h0; simpa [joinC] using hjl
        · rw [if_neg h0, List.length_append, List.length_cons] at hjl; rw [if_neg h0]; omega
      have HL2 := Lib.hid hl2
      have hj0 : joinC ((l.take (j + 1)).map txt) = if j = 0 then txt y else joinC ((l.take j).map txt) ++ 44 :: txt y := hjt
      have HJT := Lib.hid hjt
      clear hjl hl2 hj0
      have HTR := Lib.hid hTr
      obtain ⟨W1, hW1⟩ : ∃ W1, W1 = wr.alloc (.cells #[.int .i8 k', .int .i64 n', .string s', .string t', .slice A' L'.length cap'] 48) := ⟨_, rfl⟩
      have hb1 := HBR.out.alloc (.cells #[.int .i8 k', .int .i64 n', .string s', .string t', .slice A' L'.length cap'] 48)
      rw [← hW1] at hb1
      have gx : W1.heap[wr.heap.size]? = some (.cells #[.int .i8 k', .int .i64 n', .string s', .string t', .slice A' L'.length cap'] 48) := by rw [hW1]; exact block_alloc _ _
      have mW1 : Mod (fun _ => False) wr W1 := by rw [hW1]; exact Mod.alloc _ _ _
      have HB1 := Lib.hid hb1
      have HGX := Lib.hid gx
      have HM1 := Lib.hid mW1
      clear hE hTy hTr hy' hjt hy hb1 gx mW1
      -- the call at a world in which the text has come so far
      have call : ∀ (vb : Value) (l0 : List UInt8) (V : World), Buf B w vb l0 V → l0.length + (txt y).length + 64 ≤ 140737488355328 → Calls Tryz.prog 204 #[vb, .agg #[.int .i8 k', .int .i64 n', .string s', .string t', .slice A' L'.length cap']] V fun e w' => ∃ v', e = .returned v' ∧ Buf B w v' (l0 ++ txt y) w' := by
        intro vb l0 V hV' hl0
        refine ((HO.out y hmem) B P vb _ l0 V hV'.again (HP.out.on hV'.below) (fun b hb => (HPB.out b hb).on hV') ?_ (HV.out y hmem) hl0).mono ?_
        · exact HTR.out.keep (fun b hb => (hV'.stays (HPB.out b hb)).trans (HBR.out.stays (HPB.out b hb)).symm) (fun _ h => h)
        · rintro e w' ⟨v', rfl, h⟩
          exact ⟨v', rfl, hV'.then h⟩
      have HC := Lib.hid call
      clear call
      by_cases h0 : j = 0
      · have HJ0 : Hid (joinC ((l.take 1).map txt) = txt y) := by have h := HJT.out; rw [if_pos h0] at h; subst h0; exact h
        have HL0 : Hid ((txt y).length ≤ (joinC (l.map txt)).length) := by have h := HL2.out; show _ ≤ _; omega
        subst h0
        have ea0 : ad.add (0 * 5) = ad := by simp [Addr.add]
        rw [ea0] at e0 e1 e2 e3 e4
        clear ea0
        have d0 : W1.cell? ⟨wr.heap.size, 0, none⟩ = some (.int .i8 k') := cell_of_row HGX.out rfl
        have d1 : W1.cell? ⟨wr.heap.size, 1, none⟩ = some (.int .i64 n') := cell_of_row HGX.out rfl
        have d2 : W1.cell? ⟨wr.heap.size, 2, none⟩ = some (.string s') := cell_of_row HGX.out rfl
        have d3 : W1.cell? ⟨wr.heap.size, 3, none⟩ = some (.string t') := cell_of_row HGX.out rfl
        have d4 : W1.cell? ⟨wr.heap.size, 4, none⟩ = some (.slice A' L'.length cap') := cell_of_row HGX.out rfl
        subst hW1
        go_wp2_with fail
        refine (HC.out _ _ _ HB1.out (by have := HLE.out; have := HL0.out; simp [joinC]; omega)).mono ?_
        rintro e w2 ⟨v2, rfl, hb2⟩
        have HB2 := Lib.hid hb2
        clear hb2 d0 d1 d2 d3 d4 e0 e1 e2 e3 e4
        go_wp2_with fail
        go_roundw
        case rel => exact ⟨1, by omega, by rfl, by have h := HB2.out; rw [HJ0.out]; simpa [joinC] using h⟩
        case measure => simp [intOf]; omega
      · have hg0 : (0 : Int) < (j : Int) := by omega
        have HJ1 : Hid (joinC ((l.take (j + 1)).map txt) = joinC ((l.take j).map txt) ++ 44 :: txt y) := by have h := HJT.out; rw [if_neg h0] at h; exact h
        have HL1 : Hid ((joinC ((l.take j).map txt)).length + (txt y).length + 1 ≤ (joinC (l.map txt)).length) := by have h := HL2.out; rw [if_neg h0] at h; exact h
        clear h0
        obtain ⟨W2, hW2⟩ : ∃ W2, W2 = W1.alloc (.cells #[.int .u8 44] 5) := ⟨_, rfl⟩
        have HB2 : Hid (Buf B w u0 (xs ++ joinC ((l.take j).map txt)) W2) := by rw [hW2]; exact HB1.out.alloc _
        have HC2 : Hid (W2.cell? ⟨W1.heap.size, 0, none⟩ = some (.int .u8 (44 : UInt8).toNat)) := by rw [hW2]; exact cell_of_row (block_alloc _ _) rfl
        have HGX2 : Hid (W2.heap[wr.heap.size]? = some (.cells #[.int .i8 k', .int .i64 n', .string s', .string t', .slice A' L'.length cap'] 48 (0, 0))) := by rw [hW2]; exact (Below.heap_alloc _ _ _ (heap_lt HGX.out)).trans HGX.out
        have HS2 : Hid (W1.heap.size = wr.heap.size + 1) := by rw [hW1]; exact World.size_alloc _ _
        subst hW1
        have HC3 : Hid (W2.cell? ⟨wr.heap.size + 1, 0, none⟩ = some (.int .u8 (44 : UInt8).toNat)) := by have h := HC2.out; rw [HS2.out] at h; exact h
        have HLN : Hid ((xs ++ joinC ((l.take j).map txt)).length + 1 ≤ 140737488355328) := by have := HLE.out; have := HL1.out; show _ ≤ _; rw [List.length_append]; omega
        have HLC : Hid ((xs ++ joinC ((l.take j).map txt) ++ [(44 : UInt8)]).length + (txt y).length + 64 ≤ 140737488355328) := by have := HLE.out; have := HL1.out; show _ ≤ _; simp only [List.length_append, List.length_singleton]; omega
        go_wp2_with (at_builtin; rw [← hW2]; refine wpList_buf_byte rfl (.tmp 16) (.tmp 17) rfl HB2.out.again rfl (wr.heap.size + 1) 44 rfl HC3.out HLN.out ?_)
        intro v3 w3 hb3
        rw [← hW2] at hb3
        have gx3 : w3.heap[wr.heap.size]? = some (.cells #[.int .i8 k', .int .i64 n', .string s', .string t', .slice A' L'.length cap'] 48 (0, 0)) := (hb3.stays (.inr ⟨_, _, HGX2.out⟩)).trans HGX2.out
        have d0 : w3.cell? ⟨wr.heap.size, 0, none⟩ = some (.int .i8 k') := cell_of_row gx3 rfl
        have d1 : w3.cell? ⟨wr.heap.size, 1, none⟩ = some (.int .i64 n') := cell_of_row gx3 rfl
        have d2 : w3.cell? ⟨wr.heap.size, 2, none⟩ = some (.string s') := cell_of_row gx3 rfl
        have d3 : w3.cell? ⟨wr.heap.size, 3, none⟩ = some (.string t') := cell_of_row gx3 rfl
        have d4 : w3.cell? ⟨wr.heap.size, 4, none⟩ = some (.slice A' L'.length cap') := cell_of_row gx3 rfl
        have HB3 := Lib.hid (HB2.out.then hb3)
        clear hb3 gx3 e0 e1 e2 e3 e4 hW2
        go_wp2_with fail
        refine (HC.out _ _ _ HB3.out (by have h := HLC.out; simpa using h)).mono ?_
        rintro e w4 ⟨v4, rfl, hb4⟩
        have HB4 := Lib.hid hb4
        clear hb4 d0 d1 d2 d3 d4
        go_wp2_with fail
        go_roundw
        case rel => exact ⟨j + 1, by omega, by go_num, by have h := HB4.out; rw [HJ1.out]; simpa using h⟩
        case measure => simp [intOf]; omega
    · obtain rfl : j = l.length := by omega
      go_wp2_with fail
      go_ret
      exact ⟨_, rfl, by have h := HBR.out; rwa [List.take_length] at h⟩
def PowTab (w : World) : Prop := Go.Lib.TabIs Tryz.prog w "internal/strconv.uint64pow10" .u64 Go.Lib.pow10Tab
end Go.Proofs.YtdimcddbmccniaaGreatDoor
end
section
set_option linter.unusedVariables false
namespace Go.Proofs.YtdimcddbmccniaaGreatDoor
open Go.RowKit
open Go.Lib (itoa)

theorem txt_len (x : Tm) : Valid x → x.tx.1.length + 1 ≤ 100 * x.nodes ∧ x.tx.2.length ≤ 100 * x.nodes := by
  induction x using Tm.ind with
  | h k n s t l ih =>
    intro hV
    have hok := hV.own
    have hrow : (joinC ((l.map Tm.tx).map (·.1))).length ≤ 100 * (Tm.pres l).length := by
      have : ∀ m : List Tm, (∀ y ∈ m, y.tx.1.length + 1 ≤ 100 * y.nodes) → (joinC ((m.map Tm.tx).map (·.1))).length ≤ 100 * (Tm.pres m).length := by
        intro m
        induction m with
        | nil => intro _; simp [joinC]
        | cons y m ihm =>
          intro hm
          have h1 := hm y (by simp)
          have h2 := ihm (fun z hz => hm z (by simp [hz]))
          rw [Tm.pres, List.length_append]
          unfold Tm.nodes at h1
          cases m with
          | nil => simp [joinC]; omega
          | cons z m => simp only [List.map_cons, joinC, List.length_append, List.length_cons] at h2 ⊢; omega
      exact this l (fun y hy => (ih y hy (hV.part hy)).1)
    have hnod : (Tm.mk k n s t l).nodes = 1 + (Tm.pres l).length := by unfold Tm.nodes Tm.pre; simp; omega
    have key : (ownB k n s t (l.map Tm.tx)).length + 1 ≤ 100 * (1 + (Tm.pres l).length) ∧ (k = 7 → (consB (l.map Tm.tx)).length ≤ 100 * (Tm.pres l).length) := by
      by_cases h : k < 0 ∨ 7 < k
      · rw [show okB (.mk k n s t l) = okN k n s t l.length from rfl, okN_no h] at hok
        cases hok
      · have h8 : k = 0 ∨ k = 1 ∨ k = 2 ∨ k = 3 ∨ k = 4 ∨ k = 5 ∨ k = 6 ∨ k = 7 := by omega
        rcases h8 with rfl | rfl | rfl | rfl | rfl | rfl | rfl | rfl
        · have h := (show ok_integer n s t l.length = true from hok)
          simp [ok_integer] at h
          have hb := may_bd h.1.1.1
          have := Go.Lib.itoa_length_le n (by omega) (by omega)
          exact ⟨by simp [ownB]; omega, fun h => by cases h⟩
        · have h := (show ok_atom n s t l.length = true from hok)
          simp [ok_atom] at h
          have := name_size h.1.1.1
          have := toList_size s
          exact ⟨by simp [ownB]; omega, fun h => by cases h⟩
        · have h := (show ok_ref n s t l.length = true from hok)
          simp [ok_ref] at h
          have hb := of_decide_eq_true h.1.1.1
          have := Go.Lib.itoa_length_le n (by omega) (by omega)
          exact ⟨by simp [ownB]; omega, fun h => by cases h⟩
        · have h := (show ok_fun n s t l.length = true from hok)
          simp [ok_fun] at h
          have hb := of_decide_eq_true h.1.2
          have := Go.Lib.itoa_length_le n (by omega) (by omega)
          have := name_size h.1.1.1
          have := name_size h.1.1.2
          have := toList_size s
          have := toList_size t
          exact ⟨by simp [ownB]; omega, fun h => by cases h⟩
        · have h := (show ok_pid n s t l.length = true from hok)
          simp [ok_pid] at h
          have hb := of_decide_eq_true h.1.1.1
          have := Go.Lib.itoa_length_le n (by omega) (by omega)
          exact ⟨by simp [ownB]; omega, fun h => by cases h⟩
        · exact ⟨by simp [ownB]; simp at hrow; omega, fun h => by cases h⟩
        · exact ⟨by simp [ownB]; omega, fun h => by cases h⟩
        · obtain ⟨a, b, rfl⟩ := cons_two hok
          have h1 := (ih a (by simp) (hV.part (by simp))).1
          have h2 := (ih b (by simp) (hV.part (by simp))).2
          have hc : (consB ([a, b].map Tm.tx)).length ≤ 100 * (Tm.pres [a, b]).length := by
            simp only [List.map_cons, List.map_nil, consB, List.length_append, Tm.pres, List.append_nil]
            unfold Tm.nodes at h1 h2
            omega
          refine ⟨?_, fun _ => hc⟩
          rw [show ownB 7 n s t ([a, b].map Tm.tx) = [91] ++ consB ([a, b].map Tm.tx) ++ [93] from rfl]
          simp only [List.length_append, List.length_singleton]
          omega
    rw [Tm.tx, Tm.txs_map, hnod]
    refine ⟨key.1, ?_⟩
    dsimp only
    by_cases h7 : k = 7
    · rw [if_pos h7]; have := key.2 h7; simp only [List.length_cons]; omega
    · rw [if_neg h7]
      by_cases h6 : k = 6
      · rw [if_pos h6]; simp
      · rw [if_neg h6]; simp only [List.length_cons]; exact key.1
end Go.Proofs.YtdimcddbmccniaaGreatDoor
set_option linter.unusedVariables false
namespace Go.Proofs.YtdimcddbmccniaaGreatDoor
open Go.RowKit
open Go.Lib (itoa byteCells)

end Go.Proofs.YtdimcddbmccniaaGreatDoor
end
