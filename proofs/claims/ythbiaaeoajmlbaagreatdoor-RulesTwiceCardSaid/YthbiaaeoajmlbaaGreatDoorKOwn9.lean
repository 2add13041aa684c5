/- 'append(l, x)' of a row of the call's own, x one element that the statement has just laid; an error that wraps a number and a place. -/
import Derived.Test.YthbiaaeoajmlbaaGreatDoorKSet9
import Derived.Test.YthbiaaeoajmlbaaGreatDoorKTm
import Derived.Maps.AppendAt
import Derived.Maps.OwnIn
import Derived.Lib.Hide
import Derived.OneCell
import Derived.Deep.RegionHeld
import Derived.OrdersHeld
import Derived.WalkKit
import Derived.Tactics2
section
set_option linter.unusedVariables false
set_option linter.unusedSimpArgs false
namespace Go.Proofs.YthbiaaeoajmlbaaGreatDoor
open Go.RowKit

def SpotC (cs : Array Value) (i : Nat) (y : Tm) (b : Nat) : Prop :=
  ∃ A cap, cs[i * 6]? = some (.int .i8 y.k) ∧ cs[i * 6 + 1]? = some (.int .i64 y.n) ∧ cs[i * 6 + 2]? = some (.string y.s) ∧ cs[i * 6 + 3]? = some (.string y.t) ∧ cs[i * 6 + 4]? = some (.slice A y.l.length cap) ∧ cs[i * 6 + 5]? = some (.int .i64 ((b : Nat) : Int))
structure LayAt (w : World) (LB lc : Nat) (P : List Tm) : Prop where
  len : P.length ≤ 4096
  cap : P.length ≤ lc
  row : ∃ cs, w.heap[LB]? = some (.cells cs 173 (0, 0)) ∧ ∀ i y, P[i]? = some y → SpotC cs i y (i + y.nodes)
theorem LayAt.keep {w w' : World} {LB lc : Nat} {P : List Tm} (h : LayAt w LB lc P) (hb : w'.heap[LB]? = w.heap[LB]?) : LayAt w' LB lc P := by
  obtain ⟨cs, h1, h2⟩ := h.row
  exact ⟨h.len, h.cap, cs, hb.trans h1, h2⟩
theorem LayAt.spot {w : World} {LB lc : Nat} {P : List Tm} (h : LayAt w LB lc P) {i : Nat} {y : Tm} (hy : P[i]? = some y) : ∃ A cap,
    w.cell? ⟨LB, i * 6, none⟩ = some (.int .i8 y.k) ∧ w.cell? ⟨LB, i * 6 + 1, none⟩ = some (.int .i64 y.n) ∧ w.cell? ⟨LB, i * 6 + 2, none⟩ = some (.string y.s) ∧ w.cell? ⟨LB, i * 6 + 3, none⟩ = some (.string y.t) ∧
    w.cell? ⟨LB, i * 6 + 4, none⟩ = some (.slice A y.l.length cap) ∧ w.cell? ⟨LB, i * 6 + 5, none⟩ = some (.int .i64 ((i + y.nodes : Nat) : Int)) := by
  obtain ⟨cs, h1, h2⟩ := h.row
  obtain ⟨A, cap, c0, c1, c2, c3, c4, c5⟩ := h2 i y hy
  exact ⟨A, cap, cell_of_row h1 c0, cell_of_row h1 c1, cell_of_row h1 c2, cell_of_row h1 c3, cell_of_row h1 c4, cell_of_row h1 c5⟩

def PlacesAt (P : List Tm) (p : Nat) (l : List Tm) : Prop := ∃ r, P.drop p = Tm.pres l ++ r
def PlaceAt (P : List Tm) (p : Nat) (y : Tm) : Prop := ∃ r, P.drop p = y.pre ++ r
theorem get_drop {P L r : List Tm} {p : Nat} (h : P.drop p = L ++ r) (i : Nat) (hi : i < L.length) : P[p + i]? = L[i]? := by
  rw [← List.getElem?_drop, h, List.getElem?_append_left hi]
theorem PlaceAt.get {P : List Tm} {p : Nat} {y : Tm} (h : PlaceAt P p y) : P[p]? = some y := by
  obtain ⟨r, h⟩ := h
  have := get_drop h 0 (by have := Tm.pre_ne y; omega)
  rw [Nat.add_zero] at this
  rw [this]; cases y; rfl
theorem len_drop {P L r : List Tm} {p : Nat} (h : P.drop p = L ++ r) (hL : 1 ≤ L.length ∨ p ≤ P.length) : p + L.length ≤ P.length := by
  have := congrArg List.length h
  rw [List.length_drop, List.length_append] at this
  omega
theorem PlaceAt.le {P : List Tm} {p : Nat} {y : Tm} (h : PlaceAt P p y) : p + y.nodes ≤ P.length := by
  obtain ⟨r, h⟩ := h
  exact len_drop h (.inl (Tm.pre_ne y))
theorem PlaceAt.parts {P : List Tm} {p : Nat} {k n : Int} {s t : ByteArray} {l : List Tm} (h : PlaceAt P p (.mk k n s t l)) : PlacesAt P (p + 1) l := by
  obtain ⟨r, h⟩ := h
  refine ⟨r, ?_⟩
  rw [← List.drop_drop, h, Tm.pre]; rfl
theorem PlacesAt.head {P : List Tm} {p : Nat} {x : Tm} {l : List Tm} (h : PlacesAt P p (x :: l)) : PlaceAt P p x ∧ PlacesAt P (p + x.nodes) l := by
  obtain ⟨r, h⟩ := h
  rw [Tm.pres, List.append_assoc] at h
  refine ⟨⟨_, h⟩, r, ?_⟩
  rw [← List.drop_drop, h]
  unfold Tm.nodes
  rw [List.drop_left]

structure KeepT (mb me : Nat) (V V' : World) : Prop where
  size : V.heap.size ≤ V'.heap.size
  cells : ∀ (k : Nat) (c : Array Value) (t : TypeId) (z : Nat × Nat), V.heap[k]? = some (.cells c t z) → t ≠ 105 → t ≠ 9 → t ≠ 83 → V'.heap[k]? = some (.cells c t z)
  others : ∀ (k : Nat) (o : Obj), V.heap[k]? = some o → o.isCells = false → k ≠ mb → k ≠ me → V'.heap[k]? = some o
theorem KeepT.refl (mb me : Nat) (V : World) : KeepT mb me V V := ⟨Nat.le_refl _, fun _ _ _ _ h _ _ _ => h, fun _ _ h _ _ _ => h⟩
theorem KeepT.trans {mb me : Nat} {A B C : World} (h : KeepT mb me A B) (g : KeepT mb me B C) : KeepT mb me A C :=
  ⟨Nat.le_trans h.size g.size, fun k c t z hk h1 h2 h3 => g.cells k c t z (h.cells k c t z hk h1 h2 h3) h1 h2 h3, fun k o hk h1 h2 h3 => g.others k o (h.others k o hk h1 h2 h3) h1 h2 h3⟩
theorem KeepT.of_below {mb me : Nat} {A B : World} (h : Below A.heap.size A B) : KeepT mb me A B :=
  ⟨h.size, fun k c t z hk _ _ _ => (h.block k (heap_lt hk)).trans hk, fun k o hk _ _ _ => (h.block k (heap_lt hk)).trans hk⟩

structure WCtx where
  w0 : World
  base : Nat
  B : Nat
  mb : Nat
  me : Nat
  LB : Nat
  lc : Nat
  P : List Tm
  most : Int
def WCtx.nv (X : WCtx) : Value := .slice (some ⟨X.LB, 0, none⟩) X.P.length X.lc
structure WCtx.Ok (X : WCtx) : Prop where
  base : X.base ≤ X.w0.heap.size
  B : X.base ≤ X.B
  mb : X.base ≤ X.mb
  me : X.base ≤ X.me
  ne : X.mb ≠ X.me
  LB : X.LB < X.base
  lay : LayAt X.w0 X.LB X.lc X.P
  most : -1000 ≤ X.most ∧ X.most ≤ 1000

def ErrRow (base : Nat) (V : World) (fs : List Value) (fl : List (Int × Nat)) : Prop :=
  fs.length = fl.length ∧ ∀ (i : Nat) (e : Int) (p : Nat), fl[i]? = some (e, p) → ∃ r, fs[i]? = some (Value.iface 80 (.pointer (some ⟨r, 0, none⟩))) ∧ base ≤ r ∧ V.heap[r]? = some (.cells #[.int .i64 9, .int .i64 e, .int .i64 ((p : Nat) : Int)] 87 (0, 0))
structure WR (X : WCtx) (bset bound aset all : List ByteArray) (fl : List (Int × Nat)) (es es' : Array MapEntry) (c c' : Nat) (nv ov fv : Value) (fs : List Value) (V : World) : Prop where
  below : Below X.base X.w0 V
  box : V.heap[X.B]? = some (.cells #[X.nv, .int .i64 X.most, .map (some X.mb), nv, .map (some X.me), ov, fv] 105 (0, 0))
  bm : V.heap[X.mb]? = some (.map es c)
  am : V.heap[X.me]? = some (.map es' c')
  sb : SetOf es bset
  sa : SetOf es' aset
  names : V.ownsRow X.base 9 1 nv bound.length (bound.map .string)
  order : V.ownsRow X.base 9 1 ov all.length (all.map .string)
  faults : V.ownsRow X.base 83 1 fv fs.length fs
  errs : ErrRow X.base V fs fl
  apart : ∀ k, nv.ownBlock = some k → ov.ownBlock ≠ some k
theorem own_blk {w : World} {base : Nat} {e : TypeId} {size : Nat} {v : Value} {n : Nat} {xs : List Value} (h : w.ownsRow base e size v n xs) {b : Nat} (hv : v.ownBlock = some b) : base ≤ b ∧ ∃ cur, w.heap[b]? = some (.cells cur e (0, 0)) := by
  rcases h.2 with ⟨rfl, _⟩ | ⟨g', cap, cur, rfl, h2, hc, _⟩
  · cases hv
  · simp only [Value.ownBlock, Option.some.injEq] at hv
    subst hv
    exact ⟨h2, cur, hc⟩
theorem own_keep {w w' : World} {base : Nat} {e : TypeId} {size : Nat} {v : Value} {n : Nat} {xs : List Value} (h : w.ownsRow base e size v n xs) (hk : ∀ b, v.ownBlock = some b → w'.heap[b]? = w.heap[b]?) : w'.ownsRow base e size v n xs := by
  obtain ⟨h1, h2⟩ := h
  refine ⟨h1, ?_⟩
  rcases h2 with h2 | ⟨g, cap, cur, rfl, hb, hc, h3⟩
  · exact .inl h2
  · exact .inr ⟨g, cap, cur, rfl, hb, (hk g rfl).trans hc, h3⟩
theorem own_cut {w : World} {base : Nat} {e : TypeId} {A : Option Addr} {n cap : Nat} {xs : List Value} (h : w.ownsRow base e 1 (.slice A n cap) n xs) (k : Nat) (hk : k ≤ n) : w.ownsRow base e 1 (.slice A k cap) k (xs.take k) := by
  obtain ⟨h1, h2⟩ := h
  refine ⟨by rw [List.length_take]; omega, ?_⟩
  rcases h2 with ⟨h2, h3⟩ | ⟨g, c, cur, hv, hb, hc, h4, h5, h6, h7⟩
  · subst h3
    obtain rfl : k = 0 := by omega
    exact .inl ⟨h2, rfl⟩
  · simp only [Value.slice.injEq] at hv
    obtain ⟨rfl, _, rfl⟩ := hv
    refine .inr ⟨g, cap, cur, rfl, hb, hc, by omega, h5, h6, ?_⟩
    rw [← h7, List.take_take]
    congr 1
    omega
theorem own_slice {w : World} {base : Nat} {e : TypeId} {size : Nat} {v : Value} {n : Nat} {xs : List Value} (h : w.ownsRow base e size v n xs) : ∃ A c, v = .slice A n c ∧ n ≤ c := by
  rcases h.2 with ⟨rfl, rfl⟩ | ⟨g, cap, cur, rfl, _, _, h4, _⟩
  · exact ⟨_, _, rfl, Nat.le_refl _⟩
  · exact ⟨_, _, rfl, h4⟩
theorem ErrRow.keep {base : Nat} {V V' : World} {fs : List Value} {fl : List (Int × Nat)} (h : ErrRow base V fs fl) (hk : ∀ (r : Nat) (c : Array Value), V.heap[r]? = some (.cells c 87 (0, 0)) → V'.heap[r]? = some (.cells c 87 (0, 0))) : ErrRow base V' fs fl :=
  ⟨h.1, fun i e p hi => by obtain ⟨r, h1, h2, h3⟩ := h.2 i e p hi; exact ⟨r, h1, h2, hk _ _ h3⟩⟩
section
variable {X : WCtx} {bset bound aset all : List ByteArray} {fl : List (Int × Nat)} {es es' : Array MapEntry} {c c' : Nat} {nv ov fv : Value} {fs : List Value} {V V' : World}
theorem WR.keep (h : WR X bset bound aset all fl es es' c c' nv ov fv fs V) (hb : Below X.base V V') (hc : ∀ (k : Nat) (o : Obj), V.heap[k]? = some o → X.base ≤ k → (o.isCells = true ∨ k = X.mb ∨ k = X.me) → V'.heap[k]? = some o) (hX : X.Ok) :
    WR X bset bound aset all fl es es' c c' nv ov fv fs V' := by
  have hrow : ∀ {e : TypeId} {v : Value} {n : Nat} {xs : List Value}, V.ownsRow X.base e 1 v n xs → V'.ownsRow X.base e 1 v n xs := fun ho => own_keep ho (fun b hv => by
    obtain ⟨h1, cur, h2⟩ := own_blk ho hv
    exact (hc b _ h2 h1 (.inl rfl)).trans h2.symm)
  refine ⟨h.below.trans hb, hc _ _ h.box hX.B (.inl rfl), hc _ _ h.bm hX.mb (.inr (.inl rfl)), hc _ _ h.am hX.me (.inr (.inr rfl)), h.sb, h.sa, hrow h.names, hrow h.order, hrow h.faults, ?_, h.apart⟩
  exact ⟨h.errs.1, fun i e p hi => by obtain ⟨r, h1, h2, h3⟩ := h.errs.2 i e p hi; exact ⟨r, h1, h2, hc _ _ h3 h2 (.inl rfl)⟩⟩
theorem WR.under (h : WR X bset bound aset all fl es es' c c' nv ov fv fs V) (hX : X.Ok) (b : Below V.heap.size V V') : WR X bset bound aset all fl es es' c c' nv ov fv fs V' :=
  h.keep (b.mono (Nat.le_trans hX.base h.below.size)) (fun k o hk _ _ => (b.block k (heap_lt hk)).trans hk) hX
theorem WR.putb (h : WR X bset bound aset all fl es es' c c' nv ov fv fs V) (hX : X.Ok) {es2 : Array MapEntry} {c2 : Nat} {bset2 : List ByteArray} (hs : SetOf es2 bset2) :
    WR X bset2 bound aset all fl es2 es' c2 c' nv ov fv fs (V.putObj X.mb (.map es2 c2)) ∧ KeepT X.mb X.me V (V.putObj X.mb (.map es2 c2)) := by
  have m : Mod (fun k => k = X.mb) V (V.putObj X.mb (.map es2 c2)) := Mod.putObj _ _ _ rfl
  have kk : ∀ (k : Nat) (o : Obj), V.heap[k]? = some o → k ≠ X.mb → (V.putObj X.mb (.map es2 c2)).heap[k]? = some o := fun k o hk hne => (m.block k (heap_lt hk) hne).trans hk
  have kc : ∀ (k : Nat) (o : Obj), V.heap[k]? = some o → o.isCells = true → (V.putObj X.mb (.map es2 c2)).heap[k]? = some o := fun k o hk ho => kk k o hk (fun e => by subst e; rw [h.bm] at hk; cases hk; cases ho)
  have hrow : ∀ {e : TypeId} {v : Value} {n : Nat} {xs : List Value}, V.ownsRow X.base e 1 v n xs → (V.putObj X.mb (.map es2 c2)).ownsRow X.base e 1 v n xs := fun ho => own_keep ho (fun b hv => by
    obtain ⟨h1, cur, h2⟩ := own_blk ho hv
    exact (kc b _ h2 rfl).trans h2.symm)
  refine ⟨⟨h.below.trans (m.below (Nat.le_trans hX.base h.below.size) (fun i e => by subst e; exact hX.mb)), kc _ _ h.box rfl, World.putObj_heap_same (heap_lt h.bm), kk _ _ h.am (Ne.symm hX.ne), hs, h.sa, hrow h.names, hrow h.order, hrow h.faults, h.errs.keep (fun r c hr => kc _ _ hr rfl), h.apart⟩, ⟨m.size, fun k c t z hk _ _ _ => kc _ _ hk rfl, fun k o hk _ h1 _ => kk _ _ hk h1⟩⟩
theorem WR.puta (h : WR X bset bound aset all fl es es' c c' nv ov fv fs V) (hX : X.Ok) {es2 : Array MapEntry} {c2 : Nat} {aset2 : List ByteArray} (hs : SetOf es2 aset2) :
    WR X bset bound aset2 all fl es es2 c c2 nv ov fv fs (V.putObj X.me (.map es2 c2)) ∧ KeepT X.mb X.me V (V.putObj X.me (.map es2 c2)) := by
  have m : Mod (fun k => k = X.me) V (V.putObj X.me (.map es2 c2)) := Mod.putObj _ _ _ rfl
  have kk : ∀ (k : Nat) (o : Obj), V.heap[k]? = some o → k ≠ X.me → (V.putObj X.me (.map es2 c2)).heap[k]? = some o := fun k o hk hne => (m.block k (heap_lt hk) hne).trans hk
  have kc : ∀ (k : Nat) (o : Obj), V.heap[k]? = some o → o.isCells = true → (V.putObj X.me (.map es2 c2)).heap[k]? = some o := fun k o hk ho => kk k o hk (fun e => by subst e; rw [h.am] at hk; cases hk; cases ho)
  have hrow : ∀ {e : TypeId} {v : Value} {n : Nat} {xs : List Value}, V.ownsRow X.base e 1 v n xs → (V.putObj X.me (.map es2 c2)).ownsRow X.base e 1 v n xs := fun ho => own_keep ho (fun b hv => by
    obtain ⟨h1, cur, h2⟩ := own_blk ho hv
    exact (kc b _ h2 rfl).trans h2.symm)
  refine ⟨⟨h.below.trans (m.below (Nat.le_trans hX.base h.below.size) (fun i e => by subst e; exact hX.me)), kc _ _ h.box rfl, kk _ _ h.bm hX.ne, World.putObj_heap_same (heap_lt h.am), h.sb, hs, hrow h.names, hrow h.order, hrow h.faults, h.errs.keep (fun r c hr => kc _ _ hr rfl), h.apart⟩, ⟨m.size, fun k c t z hk _ _ _ => kc _ _ hk rfl, fun k o hk _ _ h2 => kk _ _ hk h2⟩⟩
theorem row_step {X : WCtx} {V V1 : World} {cs : Array Value} {e : TypeId} {v v' : Value} {n n' : Nat} {xs xs' : List Value} (i : Nat) (hX : X.Ok) (hV : X.base ≤ V.heap.size)
    (hb : V.heap[X.B]? = some (.cells cs 105 (0, 0))) (ho : V.ownsRow X.base e 1 v n xs) (he : e ≠ 105) (g : V.grownBy V1 v.ownBlock) (h1 : V1.ownsRow X.base e 1 v' n' xs') (a : v'.ownBlock = v.ownBlock ∨ v'.ownBlock = some V.heap.size) :
    Mod (fun k => k = X.B ∨ v.ownBlock = some k) V (V1.setCell ⟨X.B, i, none⟩ v') ∧ (V1.setCell ⟨X.B, i, none⟩ v').heap[X.B]? = some (.cells (cs.setIfInBounds i v') 105 (0, 0)) ∧
    (V1.setCell ⟨X.B, i, none⟩ v').ownsRow X.base e 1 v' n' xs' ∧ Below X.base V (V1.setCell ⟨X.B, i, none⟩ v') ∧ (∀ k, v'.ownBlock = some k → v.ownBlock = some k ∨ V.heap.size ≤ k) := by
  have hB1 : V1.heap[X.B]? = _ := (g.block _ (heap_lt hb) (fun e' => by
    obtain ⟨_, cur, h2⟩ := own_blk ho e'.symm
    rw [hb] at h2; cases h2; exact he rfl)).trans hb
  have m1 : Mod (fun k => v.ownBlock = some k) V V1 := Mod.grown g (fun k _ e => e)
  have m2 : Mod (fun k => k = X.B) V1 (V1.setCell ⟨X.B, i, none⟩ v') := Mod.setCell _ _ _ (.inl rfl)
  have mm : Mod (fun k => k = X.B ∨ v.ownBlock = some k) V (V1.setCell ⟨X.B, i, none⟩ v') := (m1.mono (fun _ _ h => .inr h)).trans m2 (fun _ _ h => .inl h)
  refine ⟨mm, set_row _ hB1, ?_, mm.below hV (fun k hk => ?_), fun k hk => ?_⟩
  · refine own_keep h1 (fun b hv => m2.block b ?_ ?_)
    · obtain ⟨_, cur, h2⟩ := own_blk h1 hv; exact heap_lt h2
    · intro e'; subst e'
      obtain ⟨_, cur, h2⟩ := own_blk h1 hv
      rw [hB1] at h2; cases h2; exact he rfl
  · rcases hk with rfl | hk
    · exact hX.B
    · exact (own_blk ho hk).1
  · rcases a with a | a
    · exact .inl (a.symm.trans hk)
    · rw [a] at hk; simp only [Option.some.injEq] at hk; exact .inr (by omega)
theorem row_keep {X : WCtx} {V V' : World} {cs : Array Value} {e : TypeId} {v : Value} {n : Nat} {xs : List Value} (he : e = 9 ∨ e = 83)
    (hb : V.heap[X.B]? = some (.cells cs 105 (0, 0))) (ho : V.ownsRow X.base e 1 v n xs) (m : Mod (fun k => k = X.B ∨ v.ownBlock = some k) V V') : KeepT X.mb X.me V V' := by
  refine ⟨m.size, fun k c t z hk h1 h2 h3 => (m.block k (heap_lt hk) ?_).trans hk, fun k o hk h1 _ _ => (m.block k (heap_lt hk) ?_).trans hk⟩
  · rintro (rfl | hv)
    · rw [hb] at hk; cases hk; exact h1 rfl
    · obtain ⟨_, cur, h4⟩ := own_blk ho hv
      rw [hk] at h4; cases h4
      rcases he with he | he
      · exact h2 he
      · exact h3 he
  · rintro (rfl | hv)
    · rw [hb] at hk; cases hk; cases h1
    · obtain ⟨_, cur, h4⟩ := own_blk ho hv
      rw [hk] at h4; cases h4; cases h1
theorem WR.setn (h : WR X bset bound aset all fl es es' c c' nv ov fv fs V) (hX : X.Ok) {V1 : World} {nv' : Value} {bound2 : List ByteArray} (g : V.grownBy V1 nv.ownBlock) (h1 : V1.ownsRow X.base 9 1 nv' bound2.length (bound2.map .string)) (a : nv'.ownBlock = nv.ownBlock ∨ nv'.ownBlock = some V.heap.size) :
    WR X bset bound2 aset all fl es es' c c' nv' ov fv fs (V1.setCell ⟨X.B, 3, none⟩ nv') ∧ KeepT X.mb X.me V (V1.setCell ⟨X.B, 3, none⟩ nv') := by
  obtain ⟨m, hb, hr, bel, ap⟩ := row_step 3 hX (Nat.le_trans hX.base h.below.size) h.box h.names (by decide) g h1 a
  have kt := row_keep (X := X) (.inl rfl) h.box h.names m
  have nB : ∀ {k : Nat} {o : Obj}, V.heap[k]? = some o → o.isCells = false → (V1.setCell ⟨X.B, 3, none⟩ nv').heap[k]? = some o := fun {k o} hk ho => (m.block k (heap_lt hk) (by
    rintro (rfl | hv)
    · rw [h.box] at hk; cases hk; cases ho
    · obtain ⟨_, cur, h4⟩ := own_blk h.names hv; rw [hk] at h4; cases h4; cases ho)).trans hk
  have rk : ∀ {e : TypeId} {v : Value} {n : Nat} {xs : List Value}, V.ownsRow X.base e 1 v n xs → e ≠ 105 → (∀ k, v.ownBlock = some k → nv.ownBlock ≠ some k) → (V1.setCell ⟨X.B, 3, none⟩ nv').ownsRow X.base e 1 v n xs := fun ho he hne => own_keep ho (fun b hv => m.block b (by obtain ⟨_, cur, h4⟩ := own_blk ho hv; exact heap_lt h4) (by
    rintro (rfl | hv2)
    · obtain ⟨_, cur, h4⟩ := own_blk ho hv; rw [h.box] at h4; cases h4; exact he rfl
    · exact hne b hv hv2))
  refine ⟨⟨h.below.trans bel, hb, nB h.bm rfl, nB h.am rfl, h.sb, h.sa, hr, rk h.order (by decide) (fun k h1 h2 => h.apart k h2 h1), rk h.faults (by decide) (fun k h1 h2 => ?_), h.errs.keep (fun r c hr => kt.cells _ _ _ _ hr (by decide) (by decide) (by decide)), fun k hk ho => ?_⟩, kt⟩
  · obtain ⟨_, cur, h4⟩ := own_blk h.faults h1
    obtain ⟨_, cur2, h5⟩ := own_blk h.names h2
    rw [h4] at h5; cases h5
  · rcases ap k hk with h2 | h2
    · exact h.apart k h2 ho
    · obtain ⟨_, cur, h4⟩ := own_blk h.order ho
      have := heap_lt h4; omega
theorem WR.seto (h : WR X bset bound aset all fl es es' c c' nv ov fv fs V) (hX : X.Ok) {V1 : World} {ov' : Value} {all2 : List ByteArray} (g : V.grownBy V1 ov.ownBlock) (h1 : V1.ownsRow X.base 9 1 ov' all2.length (all2.map .string)) (a : ov'.ownBlock = ov.ownBlock ∨ ov'.ownBlock = some V.heap.size) :
    WR X bset bound aset all2 fl es es' c c' nv ov' fv fs (V1.setCell ⟨X.B, 5, none⟩ ov') ∧ KeepT X.mb X.me V (V1.setCell ⟨X.B, 5, none⟩ ov') := by
  obtain ⟨m, hb, hr, bel, ap⟩ := row_step 5 hX (Nat.le_trans hX.base h.below.size) h.box h.order (by decide) g h1 a
  have kt := row_keep (X := X) (.inl rfl) h.box h.order m
  have nB : ∀ {k : Nat} {o : Obj}, V.heap[k]? = some o → o.isCells = false → (V1.setCell ⟨X.B, 5, none⟩ ov').heap[k]? = some o := fun {k o} hk ho => (m.block k (heap_lt hk) (by
    rintro (rfl | hv)
    · rw [h.box] at hk; cases hk; cases ho
    · obtain ⟨_, cur, h4⟩ := own_blk h.order hv; rw [hk] at h4; cases h4; cases ho)).trans hk
  have rk : ∀ {e : TypeId} {v : Value} {n : Nat} {xs : List Value}, V.ownsRow X.base e 1 v n xs → e ≠ 105 → (∀ k, v.ownBlock = some k → ov.ownBlock ≠ some k) → (V1.setCell ⟨X.B, 5, none⟩ ov').ownsRow X.base e 1 v n xs := fun ho he hne => own_keep ho (fun b hv => m.block b (by obtain ⟨_, cur, h4⟩ := own_blk ho hv; exact heap_lt h4) (by
    rintro (rfl | hv2)
    · obtain ⟨_, cur, h4⟩ := own_blk ho hv; rw [h.box] at h4; cases h4; exact he rfl
    · exact hne b hv hv2))
  refine ⟨⟨h.below.trans bel, hb, nB h.bm rfl, nB h.am rfl, h.sb, h.sa, rk h.names (by decide) (fun k h1 h2 => h.apart k h1 h2), hr, rk h.faults (by decide) (fun k h1 h2 => ?_), h.errs.keep (fun r c hr => kt.cells _ _ _ _ hr (by decide) (by decide) (by decide)), fun k hk ho => ?_⟩, kt⟩
  · obtain ⟨_, cur, h4⟩ := own_blk h.faults h1
    obtain ⟨_, cur2, h5⟩ := own_blk h.order h2
    rw [h4] at h5; cases h5
  · rcases ap k ho with h2 | h2
    · exact h.apart k hk h2
    · obtain ⟨_, cur, h4⟩ := own_blk h.names hk
      have := heap_lt h4; omega
theorem WR.setf (h : WR X bset bound aset all fl es es' c c' nv ov fv fs V) (hX : X.Ok) {V1 : World} {fv' : Value} {fl2 : List (Int × Nat)} {fs2 : List Value} (g : V.grownBy V1 fv.ownBlock) (h1 : V1.ownsRow X.base 83 1 fv' fs2.length fs2) (a : fv'.ownBlock = fv.ownBlock ∨ fv'.ownBlock = some V.heap.size) (hf : ErrRow X.base V fs2 fl2) :
    WR X bset bound aset all fl2 es es' c c' nv ov fv' fs2 (V1.setCell ⟨X.B, 6, none⟩ fv') ∧ KeepT X.mb X.me V (V1.setCell ⟨X.B, 6, none⟩ fv') := by
  obtain ⟨m, hb, hr, bel, ap⟩ := row_step 6 hX (Nat.le_trans hX.base h.below.size) h.box h.faults (by decide) g h1 a
  have kt := row_keep (X := X) (.inr rfl) h.box h.faults m
  have nB : ∀ {k : Nat} {o : Obj}, V.heap[k]? = some o → o.isCells = false → (V1.setCell ⟨X.B, 6, none⟩ fv').heap[k]? = some o := fun {k o} hk ho => (m.block k (heap_lt hk) (by
    rintro (rfl | hv)
    · rw [h.box] at hk; cases hk; cases ho
    · obtain ⟨_, cur, h4⟩ := own_blk h.faults hv; rw [hk] at h4; cases h4; cases ho)).trans hk
  have rk : ∀ {e : TypeId} {v : Value} {n : Nat} {xs : List Value}, V.ownsRow X.base e 1 v n xs → e ≠ 105 → e ≠ 83 → (V1.setCell ⟨X.B, 6, none⟩ fv').ownsRow X.base e 1 v n xs := fun ho he hne => own_keep ho (fun b hv => m.block b (by obtain ⟨_, cur, h4⟩ := own_blk ho hv; exact heap_lt h4) (by
    rintro (rfl | hv2)
    · obtain ⟨_, cur, h4⟩ := own_blk ho hv; rw [h.box] at h4; cases h4; exact he rfl
    · obtain ⟨_, cur, h4⟩ := own_blk ho hv
      obtain ⟨_, cur2, h5⟩ := own_blk h.faults hv2
      rw [h4] at h5; cases h5; exact hne rfl))
  exact ⟨⟨h.below.trans bel, hb, nB h.bm rfl, nB h.am rfl, h.sb, h.sa, rk h.names (by decide) (by decide), rk h.order (by decide) (by decide), hr, hf.keep (fun r c hr => kt.cells _ _ _ _ hr (by decide) (by decide) (by decide)), h.apart⟩, kt⟩
end
def WkAt (X : WCtx) (st : Wk) (V : World) : Prop := X.Ok ∧ st.bound.Nodup ∧ ∃ es es' c c' nv ov fv fs, WR X st.bound st.bound st.all st.all st.fl es es' c c' nv ov fv fs V
theorem WkAt.under {X : WCtx} {st : Wk} {V V' : World} (h : WkAt X st V) (b : Below V.heap.size V V') : WkAt X st V' := by
  obtain ⟨hX, hn, es, es', c, c', nv, ov, fv, fs, hR⟩ := h
  exact ⟨hX, hn, es, es', c, c', nv, ov, fv, fs, hR.under hX b⟩
end Go.Proofs.YthbiaaeoajmlbaaGreatDoor
end
section
set_option linter.unusedVariables false
set_option linter.unusedSimpArgs false
namespace Go.Proofs.YthbiaaeoajmlbaaGreatDoor
open Go Go.RowKit
section
variable {P : Program} {ops : Array Oper} {Q : Exit → Act → World → Prop} {md : Region.Mode} {S : World → Prop} {L : Nat → Bool}
def wpAnyE (P : Program) (md : Region.Mode) (ops : Array Oper) (Q : Exit → Act → World → Prop) (S : World → Prop) (L : Nat → Bool) : Nat → Array Bool → Act → World → Prop
  | 0, listed, a, w => Region.ready md ops listed = [] ∧ Q .normal a w
  | fuel + 1, listed, a, w =>
    (Region.ready md ops listed = [] → Q .normal a w) ∧
    ∀ i ∈ Region.ready md ops listed, wpOp P ops Q i (fun a' w' => (S w' ∧ wpAnyE P md ops Q S L fuel (listed.setIfInBounds i true) a' w') ∨ (L i = true ∧ wpAny P md ops Q fuel (listed.setIfInBounds i true) a' w')) a w
theorem wpAny_of_E : ∀ (fuel : Nat) (listed : Array Bool) (a : Act) (w : World), wpAnyE P md ops Q S L fuel listed a w → wpAny P md ops Q fuel listed a w
  | 0, _, _, _, h => h
  | fuel + 1, _, _, _, h => ⟨h.1, fun i hi => wpOp_mono (fun a' w' h' => by
      rcases h' with h' | h'
      · exact wpAny_of_E fuel _ a' w' h'.2
      · exact h'.2) (h.2 i hi)⟩
theorem wpAnyE_first {i : Nat} {oi : Oper} {v : Value} (hi : ops[i]? = some oi) (hsel : ∀ (j : Nat) (o : Oper) cs b, ops[j]? = some o → o.op ≠ .select cs b)
    (hQ : ∀ c a w, Q (.panic c) (a.put oi.dst v) w → Q (.panic c) a w)
    (hL : ∀ (j : Nat) (oj : Oper), L j = true → ops[j]? = some oj → ∃ e ∈ oj.after, Region.binds md e = true ∧ e.on = i) :
    ∀ (fuel : Nat) (listed : Array Bool) (a : Act) (w : World),
      (∀ j oj, ops[j]? = some oj → j ≠ i → listed.getD j true = false → (∀ e ∈ oj.after, Region.binds md e = true → e.on ≠ i) → oi.apart ops oj = true) →
      i ∈ Region.ready md ops listed → YieldsIf P ops S oi v a → S w →
      wpAnyE P md ops Q S L fuel (listed.setIfInBounds i true) (a.put oi.dst v) w → wpAnyE P md ops Q S L (fuel + 1) listed a w := by
  intro fuel
  induction fuel with
  | zero =>
    intro listed a w _ hr hy hS H
    refine ⟨fun h => (by rw [h] at hr; cases hr), fun j hj => ?_⟩
    by_cases hji : j = i
    · subst hji; exact hy.wpOp hi hS (.inl ⟨hS, H⟩)
    · have := ready_mono hj hji
      rw [H.1] at this
      cases this
  | succ fuel ih =>
    intro listed a w hfree hr hy hS H
    refine ⟨fun h => (by rw [h] at hr; cases hr), fun j hj => ?_⟩
    by_cases hji : j = i
    · subst hji; exact hy.wpOp hi hS (.inl ⟨hS, H⟩)
    · have h1 := H.2 j (ready_mono hj hji)
      obtain ⟨hjun, oj, hoj, hall⟩ := mem_ready.1 hj
      have hnot : ∀ e ∈ oj.after, Region.binds md e = true → e.on ≠ i := fun e he hb heq => by
        have h1 := hall e he hb
        have h0 := (mem_ready.1 hr).1
        rw [heq] at h1
        rcases Nat.lt_or_ge i listed.size with h' | h'
        · simp [h'] at h0 h1; rw [h0] at h1; cases h1
        · simp [Array.getElem?_eq_none h'] at h1
      have hLj : ¬ L j = true := fun hl => by
        obtain ⟨e, he, hb, heq⟩ := hL j oj hl hoj
        exact hnot e he hb heq
      have h1' : wpOp P ops Q j (fun a' w' => S w' ∧ wpAnyE P md ops Q S L fuel ((listed.setIfInBounds i true).setIfInBounds j true) a' w') (a.put oi.dst v) w :=
        wpOp_mono (fun a' w' h' => by
          rcases h' with h' | h'
          · exact h'
          · exact (hLj h'.1).elim) h1
      have h2 := wpOp_putIf hoj (hfree j oj hoj hji hjun hnot) (fun cs b => hsel i oi cs b hi) (fun cs b => hsel j oj cs b hoj) hQ hy h1'
      have hfree' : ∀ k ok, ops[k]? = some ok → k ≠ i → (listed.setIfInBounds j true).getD k true = false →
          (∀ e ∈ ok.after, Region.binds md e = true → e.on ≠ i) → oi.apart ops ok = true := fun k ok hk hki hun hno => by
        refine hfree k ok hk hki ?_ hno
        by_cases hjk : j = k
        · subst hjk; exact hjun
        · rw [getD_set_ne true hjk] at hun; exact hun
      refine wpOp_mono (fun a' w' h3 => .inl ⟨h3.2.1, ih (listed.setIfInBounds j true) a' w' hfree' (ready_mono hr (Ne.symm hji)) h3.1 h3.2.1 ?_⟩) h2
      rw [Array.setIfInBounds_comm _ _ hji]
      exact h3.2.2
theorem wpAnyE_first0 {i : Nat} {oi : Oper} {v : Value} (hi : ops[i]? = some oi) (hsel : ∀ (j : Nat) (o : Oper) cs b, ops[j]? = some o → o.op ≠ .select cs b)
    (hQ : ∀ c a w, Q (.panic c) (a.put oi.dst v) w → Q (.panic c) a w) :
    ∀ (fuel : Nat) (listed : Array Bool) (a : Act) (w : World),
      (∀ j oj, ops[j]? = some oj → j ≠ i → listed.getD j true = false → (∀ e ∈ oj.after, Region.binds md e = true → e.on ≠ i) → oi.apart ops oj = true) →
      i ∈ Region.ready md ops listed → Yields P ops oi v a → S w →
      wpAnyE P md ops Q S L fuel (listed.setIfInBounds i true) (a.put oi.dst v) w → wpAnyE P md ops Q S L (fuel + 1) listed a w := by
  intro fuel
  induction fuel with
  | zero =>
    intro listed a w _ hr hy hS H
    refine ⟨fun h => (by rw [h] at hr; cases hr), fun j hj => ?_⟩
    by_cases hji : j = i
    · subst hji; exact hy.wpOp hi (.inl ⟨hS, H⟩)
    · have := ready_mono hj hji
      rw [H.1] at this
      cases this
  | succ fuel ih =>
    intro listed a w hfree hr hy hS H
    refine ⟨fun h => (by rw [h] at hr; cases hr), fun j hj => ?_⟩
    by_cases hji : j = i
    · subst hji; exact hy.wpOp hi (.inl ⟨hS, H⟩)
    · have h1 := H.2 j (ready_mono hj hji)
      obtain ⟨hjun, oj, hoj, hall⟩ := mem_ready.1 hj
      have hnot : ∀ e ∈ oj.after, Region.binds md e = true → e.on ≠ i := fun e he hb heq => by
        have h1 := hall e he hb
        have h0 := (mem_ready.1 hr).1
        rw [heq] at h1
        rcases Nat.lt_or_ge i listed.size with h' | h'
        · simp [h'] at h0 h1; rw [h0] at h1; cases h1
        · simp [Array.getElem?_eq_none h'] at h1
      have h2 := wpOp_put hoj (hfree j oj hoj hji hjun hnot) (fun cs b => hsel i oi cs b hi) (fun cs b => hsel j oj cs b hoj) hQ hy h1
      have hfree' : ∀ k ok, ops[k]? = some ok → k ≠ i → (listed.setIfInBounds j true).getD k true = false →
          (∀ e ∈ ok.after, Region.binds md e = true → e.on ≠ i) → oi.apart ops ok = true := fun k ok hk hki hun hno => by
        refine hfree k ok hk hki ?_ hno
        by_cases hjk : j = k
        · subst hjk; exact hjun
        · rw [getD_set_ne true hjk] at hun; exact hun
      refine wpOp_mono (fun a' w' h3 => ?_) h2
      obtain ⟨hy', h3 | h3⟩ := h3
      · refine .inl ⟨h3.1, ih (listed.setIfInBounds j true) a' w' hfree' (ready_mono hr (Ne.symm hji)) hy' h3.1 ?_⟩
        rw [Array.setIfInBounds_comm _ _ hji]
        exact h3.2
      · refine .inr ⟨h3.1, wpAny_first hi hsel hQ fuel (listed.setIfInBounds j true) a' w' hfree' (ready_mono hr (Ne.symm hji)) hy' ?_⟩
        rw [Array.setIfInBounds_comm _ _ hji]
        exact h3.2
theorem wpAnyE_take0 {i : Nat} {oi : Oper} {v : Value} {fuel : Nat} {listed : Array Bool} {a : Act} {w : World} (hi : ops[i]? = some oi)
    (hs : Region.noSelect ops = true) (hf : Region.free md ops listed i = true) (hr : (Region.ready md ops listed).contains i = true)
    (hQ : ∀ c a w, Q (.panic c) (a.put oi.dst v) w → Q (.panic c) a w) (hy : Yields P ops oi v a) (hS : S w)
    (h : wpAnyE P md ops Q S L fuel (listed.setIfInBounds i true) (a.put oi.dst v) w) : wpAnyE P md ops Q S L (fuel + 1) listed a w :=
  wpAnyE_first0 hi (Region.noSelect_spec hs) hQ fuel listed a w (Region.free_spec hi hf) (by simpa using hr) hy hS h
def lateWait (md : Region.Mode) (ops : Array Oper) (L : List Nat) (i : Nat) : Bool := L.all fun j => match ops[j]? with
  | some oj => oj.after.toList.any fun e => Region.binds md e && e.on == i
  | none => true
theorem lateWait_spec {Ls : List Nat} {i : Nat} (h : lateWait md ops Ls i = true) : ∀ (j : Nat) (oj : Oper), Ls.contains j = true → ops[j]? = some oj → ∃ e ∈ oj.after, Region.binds md e = true ∧ e.on = i := by
  intro j oj hj ho
  have h1 := List.all_eq_true.1 h j (by simpa using hj)
  rw [ho] at h1
  obtain ⟨e, he, h2⟩ := List.any_eq_true.1 h1
  rw [Bool.and_eq_true] at h2
  exact ⟨e, Array.mem_toList_iff.1 he, h2.1, by simpa using h2.2⟩
theorem wpAnyE_take {Ls : List Nat} {i : Nat} {oi : Oper} {v : Value} {fuel : Nat} {listed : Array Bool} {a : Act} {w : World} (hi : ops[i]? = some oi)
    (hs : Region.noSelect ops = true) (hf : Region.free md ops listed i = true) (hr : (Region.ready md ops listed).contains i = true) (hl : lateWait md ops Ls i = true)
    (hQ : ∀ c a w, Q (.panic c) (a.put oi.dst v) w → Q (.panic c) a w) (hy : YieldsIf P ops S oi v a) (hS : S w)
    (h : wpAnyE P md ops Q S Ls.contains fuel (listed.setIfInBounds i true) (a.put oi.dst v) w) : wpAnyE P md ops Q S Ls.contains (fuel + 1) listed a w :=
  wpAnyE_first hi (Region.noSelect_spec hs) hQ (lateWait_spec hl) fuel listed a w (Region.free_spec hi hf) (by simpa using hr) hy hS h
theorem wpAnyE_one {i : Nat} {o : Oper} {fuel : Nat} {listed : Array Bool} {a : Act} {w : World} (hr : Region.ready md ops listed = [i]) (ho : ops[i]? = some o)
    (h : ∀ K' : Act → World → Prop, Shut (∀ a w, S w → (S w → wpAnyE P md ops Q S L fuel (listed.setIfInBounds i true) a w) → K' a w) → if Region.wanted o (yielded ops a.tmps) = true then Oper.wp P o a w K' Q else K' (a.put o.dst undef) w) :
    wpAnyE P md ops Q S L (fuel + 1) listed a w :=
  ⟨fun h0 => (by rw [hr] at h0; cases h0), by
    rw [hr]
    intro j hj
    rw [List.mem_singleton.1 hj]
    exact wpOp_step ho (fun K' hK => h K' (fun a w hS hW => hK a w (.inl ⟨hS, hW hS⟩)))⟩
theorem wpAnyE_late {i : Nat} {o : Oper} {fuel : Nat} {listed : Array Bool} {a : Act} {w : World} (hr : Region.ready md ops listed = [i]) (ho : ops[i]? = some o) (hl : L i = true)
    (h : ∀ K' : Act → World → Prop, Shut (∀ a w, wpAny P md ops Q fuel (listed.setIfInBounds i true) a w → K' a w) → if Region.wanted o (yielded ops a.tmps) = true then Oper.wp P o a w K' Q else K' (a.put o.dst undef) w) :
    wpAnyE P md ops Q S L (fuel + 1) listed a w :=
  ⟨fun h0 => (by rw [hr] at h0; cases h0), by
    rw [hr]
    intro j hj
    rw [List.mem_singleton.1 hj]
    exact wpOp_step ho (fun K' hK => h K' (fun a w hW => hK a w (.inr ⟨hl, hW⟩)))⟩
theorem wpAnyE_done {listed : Array Bool} {a : Act} {w : World} (hr : Region.ready md ops listed = []) (h : Q .normal a w) : ∀ fuel, wpAnyE P md ops Q S L fuel listed a w
  | 0 => ⟨hr, h⟩
  | _ + 1 => ⟨fun _ => h, by rw [hr]; simp⟩
theorem wp_region_E {id : Nat} {a : Act} {w : World} (Ls : List Nat) (hm : P.follows .mixedOrders = true) (hS : S w.drew)
    (h : S w.drew → wpAnyE P .any ops Q S Ls.contains ops.size (Array.replicate ops.size false) a w.drew) : (Code.region id ops true).wp P Q a w :=
  wp_region_any hm (wpAny_of_E _ _ _ _ (h hS))
end
end Go.Proofs.YthbiaaeoajmlbaaGreatDoor
end
section
set_option linter.unusedVariables false
set_option linter.unusedSimpArgs false
namespace Go.Proofs.YthbiaaeoajmlbaaGreatDoor
open Go.RowKit

structure ElT (T E : TypeId) (z : Value) (size : Nat) : Prop where
  sl : Tryz.prog.underlying T = some (.slice E)
  info : ∃ i, Tryz.prog.info? E = some i ∧ i.zero = some z ∧ i.size = size ∧ i.bytes ≤ 200
  zs : z.cells.size = size
  pos : 0 < size
set_option maxRecDepth 100000 in
theorem run_own1 {T E : TypeId} {z : Value} {size : Nat} (hT : ElT T E z size) (w : World) (ty : TypeId) {base : Nat} {v : Value} {n : Nat} {xs : List Value} (hown : w.ownsRow base E size v n xs) (hbase : base ≤ w.heap.size)
    (g : Nat) {news : Array Value} {fr : Nat × Nat} (hg : w.heap[g]? = some (.cells news E fr)) (hl : news.size = size) (h1 : ∀ u ∈ news.toList, u.oneCell' = true) (hlen : n + 1 ≤ 2000000) :
    ∃ v' w', (Builtin.append_ #[T, T] ty #[v, .slice (some ⟨g, 0, none⟩) 1 1]).run Tryz.prog w = .ok v' w' ∧ w'.ownsRow base E size v' (n + 1) (xs ++ news.toList) ∧ w.grownBy w' v.ownBlock ∧ (v'.ownBlock = v.ownBlock ∨ v'.ownBlock = some w.heap.size) := by
  obtain ⟨i, hi, hz, hsz, hby⟩ := hT.info
  have hnews : ∀ j u, news.toList[j]? = some u → w.cell? ((⟨g, 0, none⟩ : Addr).add j) = some u := by
    intro j u hj
    have e : (⟨g, 0, none⟩ : Addr).add j = ⟨g, j, none⟩ := by unfold Addr.add; split <;> simp_all
    rw [e]
    exact cell_of_row hg (by simpa using hj)
  obtain ⟨v', w', hr, h2, h3, _, h5⟩ := run_append_own_at (P := Tryz.prog) w base T ty E i z size i.bytes hT.sl hi hz hsz rfl hT.zs hT.pos v n xs hown ⟨g, 0, none⟩ 1 1 news.toList (by simpa using hl) hnews h1 (by unfold maxLen; omega)
    (by have h9 : (n + 1) * i.bytes ≤ 2000000 * 200 := Nat.mul_le_mul hlen hby
        omega) hbase
  exact ⟨v', w', hr, h2, h3, h5⟩
set_option maxRecDepth 100000 in
theorem wp_own1 {T E : TypeId} {z : Value} {size : Nat} (hT : ElT T E z size) {o : Oper} {a : Act} {w : World} {K : Act → World → Prop} {Q : Exit → Act → World → Prop} (sl x : Operand)
    (ho : o.op = .call { callee := .builtin .append, args := #[sl, x], argTypes := #[T, T] })
    {base : Nat} {v : Value} {n : Nat} {xs : List Value} (hown : w.ownsRow base E size v n xs) (hbase : base ≤ w.heap.size) (he : a.eval sl = v)
    (g : Nat) {news : Array Value} {fr : Nat × Nat} (hx : a.eval x = .slice (some ⟨g, 0, none⟩) 1 1) (hg : w.heap[g]? = some (.cells news E fr)) (hl : news.size = size) (h1 : ∀ u ∈ news.toList, u.oneCell' = true) (hlen : n + 1 ≤ 2000000)
    (h : ∀ v' w', w'.ownsRow base E size v' (n + 1) (xs ++ news.toList) → w.grownBy w' v.ownBlock → (v'.ownBlock = v.ownBlock ∨ v'.ownBlock = some w.heap.size) → K (a.put o.dst v') w') : o.wp Tryz.prog a w K Q := by
  obtain ⟨v', w', hr, h2, h3, h5⟩ := run_own1 hT w o.type hown hbase g hg hl h1 hlen
  unfold Oper.wp execOp
  simp only [ho, resolve, invoke, builtin, Sem.run_bind, Sem.run_pure, Result.andThen_ok, List.map_toArray, List.map_cons, List.map_nil, he, hx, hr]
  exact h _ _ h2 h3 h5
theorem wpList_own1 {T E : TypeId} {z : Value} {size : Nat} (hT : ElT T E z size) {ops : Array Oper} {rest : List Oper} {o : Oper} {a : Act} {w : World} {Q : Exit → Act → World → Prop} (hgd : o.guard = none) (sl x : Operand)
    (ho : o.op = .call { callee := .builtin .append, args := #[sl, x], argTypes := #[T, T] })
    {base : Nat} {v : Value} {n : Nat} {xs : List Value} (hown : w.ownsRow base E size v n xs) (hbase : base ≤ w.heap.size) (he : a.eval sl = v)
    (g : Nat) {news : Array Value} {fr : Nat × Nat} (hx : a.eval x = .slice (some ⟨g, 0, none⟩) 1 1) (hg : w.heap[g]? = some (.cells news E fr)) (hl : news.size = size) (h1 : ∀ u ∈ news.toList, u.oneCell' = true) (hlen : n + 1 ≤ 2000000)
    (h : ∀ v' w', w'.ownsRow base E size v' (n + 1) (xs ++ news.toList) → w.grownBy w' v.ownBlock → (v'.ownBlock = v.ownBlock ∨ v'.ownBlock = some w.heap.size) → wpList Tryz.prog ops Q rest (a.put o.dst v') w') : wpList Tryz.prog ops Q (o :: rest) a w :=
  wpList_plain hgd fun K hK => wp_own1 hT sl x ho hown hbase he g hx hg hl h1 hlen fun v' w' h1 h2 h3 => hK _ _ (h v' w' h1 h2 h3)

theorem info_str9 : (Tryz.prog.info? 9).map (fun i => (i.zero, i.size, i.bytes)) = some (some (.string ⟨#[]⟩), 1, 16) := by kernel_rfl
theorem info_err9 : (Tryz.prog.info? 83).map (fun i => (i.zero, i.size, i.bytes)) = some (some Value.nilIface, 1, 16) := by kernel_rfl
theorem elt_of {T E : TypeId} {z : Value} {size bytes : Nat} (h : Tryz.prog.underlying T = some (.slice E)) (hi : (Tryz.prog.info? E).map (fun i => (i.zero, i.size, i.bytes)) = some (some z, size, bytes)) (hb : bytes ≤ 200) (hz : z.cells.size = size) (hp : 0 < size) : ElT T E z size := by
  obtain ⟨i, h1, h2⟩ := Option.map_eq_some_iff.1 hi
  simp only [Prod.mk.injEq] at h2
  exact ⟨h, ⟨i, h1, h2.1, h2.2.1, by rw [h2.2.2]; exact hb⟩, hz, hp⟩
theorem elt_str : ElT 36 9 (.string ⟨#[]⟩) 1 := elt_of Tryz.underlying36 info_str9 (by decide) rfl (by decide)
theorem elt_err : ElT 103 83 Value.nilIface 1 := elt_of Tryz.underlying103 info_err9 (by decide) rfl (by decide)

set_option maxRecDepth 100000 in
theorem refused_any (e p : Int) (w : World) : Calls Tryz.prog 120 #[.int .i64 e, .int .i64 p] w fun r w' => r = .returned (.iface 80 (.pointer (some ⟨w.heap.size, 0, none⟩))) ∧ w' = w.alloc (.cells #[.int .i64 9, .int .i64 e, .int .i64 p] 87) := by
  go_enter Tryz.func120, Tryz.ntmps120
  go_wp2_with fail
  go_ret
  exact ⟨rfl, rfl⟩
end Go.Proofs.YthbiaaeoajmlbaaGreatDoor
end
