/- A text under way: a row of bytes that a call owns and makes longer by append; what is no row of bytes stays as it was. -/
import Derived.Test.YtphfekcacaaabaaDoorMod
import Derived.Test.YtphfekcacaaabaaDoorBase
import Derived.Test.YtphfekcacaaabaaDoorShelf
import Derived.Lib.AppendStr
import Derived.Lib.OthersKept
import Derived.Lib.BufferKept
import Derived.Lib.UnsafeStr
import Derived.Lib.AppendIntMem
import Derived.Lib.ItoaLen
import Derived.Laws.AppendOwn
import Derived.Lib.Hide
set_option linter.unusedVariables false
namespace Go.Proofs.YtphfekcacaaabaaDoor
open Go.RowKit Go.Lib

/-- The slice v owns the bytes l, in a block from B on; below B all is as in w0; and so is whatever is no row of bytes. -/
structure Buf (B : Nat) (w0 : World) (v : Value) (l : List UInt8) (w : World) : Prop where
  own : w.ownsRow B 5 1 v l.length (byteCells l)
  below : Below B w0 w
  base : B ≤ w.heap.size
  kept : OthersKept 5 none w0 w

theorem Buf.row {B : Nat} {w0 w : World} {v : Value} {l : List UInt8} (h : Buf B w0 v l w) : ∀ g, v.ownBlock = some g → ∃ c fz, w.heap[g]? = some (.cells c 5 fz) := by
  intro g hg
  rcases h.own.2 with ⟨rfl, _⟩ | ⟨g', cap, cur, rfl, _, hb, _⟩
  · simp [Value.ownBlock] at hg
  · simp [Value.ownBlock] at hg; subst hg; exact ⟨_, _, hb⟩
theorem Buf.grown {B : Nat} {w0 w w' : World} {v v' : Value} {l l' : List UInt8} (h : Buf B w0 v l w) (ho : w'.ownsRow B 5 1 v' l'.length (byteCells l')) (hg : w.grownBy w' v.ownBlock) : Buf B w0 v' l' w' :=
  ⟨ho, h.below.grown hg h.base (fun k hk => (h.own.lt k hk).1), Nat.le_trans h.base hg.size, h.kept.grown hg h.row⟩
theorem Buf.alloc {B : Nat} {w0 w : World} {v : Value} {l : List UInt8} (h : Buf B w0 v l w) (o : Obj) : Buf B w0 v l (w.alloc o) :=
  ⟨h.own.alloc o, h.below.alloc h.base o, Nat.le_trans h.base (by simp), h.kept.alloc o⟩
theorem Buf.drew {B : Nat} {w0 w : World} {v : Value} {l : List UInt8} (h : Buf B w0 v l w) : Buf B w0 v l { w with drawn := w.drawn + 1 } := ⟨h.own, h.below.drew, h.base, h.kept⟩
/-- A block that is no row of bytes. -/
theorem Buf.block {B : Nat} {w0 w : World} {v : Value} {l : List UInt8} (h : Buf B w0 v l w) {k : Nat} {o : Obj} (hk : w0.heap[k]? = some o) (ho : ∀ c fz, o ≠ .cells c 5 fz) : w.heap[k]? = some o := h.kept k o hk (by simp) ho
theorem Buf.then {B : Nat} {w0 w1 w : World} {v v' : Value} {l l' : List UInt8} (h : Buf B w0 v l w1) (k : Buf B w1 v' l' w) : Buf B w0 v' l' w := ⟨k.own, h.below.trans k.below, k.base, h.kept.trans k.kept⟩
theorem Buf.start {B : Nat} {w : World} {v : Value} {l : List UInt8} (h : w.ownsRow B 5 1 v l.length (byteCells l)) (hB : B ≤ w.heap.size) : Buf B w v l w := ⟨h, Below.refl _ _, hB, OthersKept.refl _ _ _⟩
theorem Buf.again {B : Nat} {w0 w : World} {v : Value} {l : List UInt8} (h : Buf B w0 v l w) : Buf B w v l w := .start h.own h.base
theorem Buf.below_ {B : Nat} {w0 w w' : World} {v : Value} {l : List UInt8} (h : Buf B w0 v l w) (hb : Below w.heap.size w w') : Buf B w0 v l w' :=
  ⟨(Mod.of_below (F := fun _ => False) hb).row h.own (fun _ _ f => f), h.below.trans (hb.mono h.base), Nat.le_trans h.base hb.size, h.kept.below hb⟩

theorem info_u8 : (Tryd.prog.info? 5).map (fun i => (i.zero, i.size, i.bytes)) = some (some (.int .u8 0), 1, 1) := by kernel_rfl

section
variable {ops : Array Oper} {rest : List Oper} {o : Oper} {a : Act} {w : World}
/-- 'append(b, s...)', s a text. -/
theorem wp_buf_text {K : Act → World → Prop} {Q : Exit → Act → World → Prop} (sl x : Operand) (u : TypeId) (hu : Tryd.prog.underlying u = some .string)
    (ho : o.op = .call { callee := .builtin .append, args := #[sl, x], argTypes := #[135, u] })
    {B : Nat} {w0 : World} {v : Value} {l : List UInt8} (hb : Buf B w0 v l w) (hs : a.eval sl = v) (s : ByteArray) (hx : a.eval x = .string s) (hlen : l.length + s.size ≤ 140737488355328)
    (h : ∀ v' w', Buf B w0 v' (l ++ s.data.toList) w' → K (a.put o.dst v') w') : o.wp Tryd.prog a w K Q := by
  obtain ⟨i, hi, hz, hsz, hby⟩ := info_parts info_u8
  obtain ⟨v', w', hr, h2, h3, _⟩ := run_append_own_string (P := Tryd.prog) w B 135 u o.type 5 i Tryd.underlying135 hu hi hz hsz hby v l.length (byteCells l) hb.own s (by unfold maxLen; omega) hlen hb.base
  unfold Oper.wp execOp
  simp only [ho, resolve, invoke, builtin, Sem.run_bind, Sem.run_pure, Result.andThen_ok, List.map_toArray, List.map_cons, List.map_nil, hs, hx, hr]
  have hl : (l ++ s.data.toList).length = l.length + s.size := by rw [List.length_append, Array.length_toList]; rfl
  exact h _ _ (hb.grown (by rw [hl, byteCells_append]; exact h2) h3)

/-- 'append(b, c)', c a byte that the statement has just laid. -/
theorem wp_buf_byte {K : Act → World → Prop} {Q : Exit → Act → World → Prop} (sl x : Operand)
    (ho : o.op = .call { callee := .builtin .append, args := #[sl, x], argTypes := #[135, 135] })
    {B : Nat} {w0 : World} {v : Value} {l : List UInt8} (hb : Buf B w0 v l w) (hs : a.eval sl = v) (g : Nat) (c : UInt8) (hx : a.eval x = .slice (some ⟨g, 0, none⟩) 1 1) (hc : w.cell? ⟨g, 0, none⟩ = some (.int .u8 c.toNat)) (hlen : l.length + 1 ≤ 140737488355328)
    (h : ∀ v' w', Buf B w0 v' (l ++ [c]) w' → K (a.put o.dst v') w') : o.wp Tryd.prog a w K Q := by
  obtain ⟨i, hi, hz, hsz, hby⟩ := info_parts info_u8
  refine wp_append_own (P := Tryd.prog) w sl x 135 ho B 5 i (.int .u8 0) 1 1 Tryd.underlying135 hi hz hsz hby rfl (by decide) v l.length (byteCells l) hs hb.own ⟨g, 0, none⟩ 1 1 [.int .u8 c.toNat] hx rfl ?_ ?_ (by unfold maxLen; omega) (by omega) hb.base ?_
  · intro j u hj
    match j, hj with
    | 0, hj => simp at hj; subst hj; simpa [Addr.add] using hc
    | j + 1, hj => simp at hj
  · intro u hu; simp at hu; subst hu; rfl
  · intro v' w' h2 h3 _
    exact h _ _ (hb.grown (by rw [byteCells_append, List.length_append]; exact h2) h3)

theorem wpList_buf_text {Q : Exit → Act → World → Prop} (hgd : o.guard = none) (sl x : Operand) (u : TypeId) (hu : Tryd.prog.underlying u = some .string)
    (ho : o.op = .call { callee := .builtin .append, args := #[sl, x], argTypes := #[135, u] })
    {B : Nat} {w0 : World} {v : Value} {l : List UInt8} (hb : Buf B w0 v l w) (hs : a.eval sl = v) (s : ByteArray) (hx : a.eval x = .string s) (hlen : l.length + s.size ≤ 140737488355328)
    (h : ∀ v' w', Buf B w0 v' (l ++ s.data.toList) w' → wpList Tryd.prog ops Q rest (a.put o.dst v') w') : wpList Tryd.prog ops Q (o :: rest) a w :=
  wpList_plain hgd fun K hK => wp_buf_text sl x u hu ho hb hs s hx hlen fun v' w' h' => hK _ _ (h v' w' h')
theorem wpList_buf_byte {Q : Exit → Act → World → Prop} (hgd : o.guard = none) (sl x : Operand)
    (ho : o.op = .call { callee := .builtin .append, args := #[sl, x], argTypes := #[135, 135] })
    {B : Nat} {w0 : World} {v : Value} {l : List UInt8} (hb : Buf B w0 v l w) (hs : a.eval sl = v) (g : Nat) (c : UInt8) (hx : a.eval x = .slice (some ⟨g, 0, none⟩) 1 1) (hc : w.cell? ⟨g, 0, none⟩ = some (.int .u8 c.toNat)) (hlen : l.length + 1 ≤ 140737488355328)
    (h : ∀ v' w', Buf B w0 v' (l ++ [c]) w' → wpList Tryd.prog ops Q rest (a.put o.dst v') w') : wpList Tryd.prog ops Q (o :: rest) a w :=
  wpList_plain hgd fun K hK => wp_buf_byte sl x ho hb hs g c hx hc hlen fun v' w' h' => hK _ _ (h v' w' h')
end

/-- The table of powers of ten, below B. -/
def Pow (B : Nat) (w : World) : Prop := Lib.TabBelow Tryd.prog B w "internal/strconv.uint64pow10" .u64 Lib.pow10Tab

end Go.Proofs.YtphfekcacaaabaaDoor
