/- The document's own Has: is a text among texts in a row? (cut out of Gd16) -/
import Derived.Test.YtmdcdhdjojimeaaGreatDoorKSet9
import Derived.Test.YtmdcdhdjojimeaaGreatDoorKIMay
import Derived.Maps.AppendAt
import Derived.Maps.OwnIn
import Derived.Lib.Hide
import Derived.OneCell
import Derived.WalkKit
import Derived.LoopTactic
import Derived.LoopNIn
import Derived.Deep.DeepCutAuto
import Derived.Tactics2
import Derived.Lib.ItoaLen
section
set_option linter.unusedVariables false
set_option linter.unusedSimpArgs false
namespace Go.Proofs.YtmdcdhdjojimeaaGreatDoor
open Go.RowKit

def SpotC (cs : Array Value) (i : Nat) (y : Tm) (b : Nat) : Prop :=
 ∃ A cap, cs[i * 6]? = some (.int .i8 y.k) ∧ cs[i * 6 + 1]? = some (.int .i64 y.n) ∧ cs[i * 6 + 2]? = some (.string y.s) ∧ cs[i * 6 + 3]? = some (.string y.t) ∧ cs[i * 6 + 4]? = some (.slice A y.l.length cap) ∧ cs[i * 6 + 5]? = some (.int .i64 ((b : Nat) : Int))
structure LayAt (w : World) (LB lc : Nat) (P : List Tm) : Prop where
 len : P.length ≤ 4096
 cap : P.length ≤ lc
 row : ∃ cs, w.heap[LB]? = some (.cells cs 102 (0, 0)) ∧ ∀ i y, P[i]? = some y → SpotC cs i y (i + y.nodes)
theorem LayAt.keep {w w' : World} {LB lc : Nat} {P : List Tm} (h : LayAt w LB lc P) (hb : w'.heap[LB]? = w.heap[LB]?) : LayAt w' LB lc P := by
 obtain ⟨cs, h1, h2⟩ := h.row
 exact ⟨h.len, h.cap, cs, hb.trans h1, h2⟩
theorem LayAt.spot {w : World} {LB lc : Nat} {P : List Tm} (h : LayAt w LB lc P) {i : Nat} {y : Tm} (hy : P[i]? = some y) : ∃ A cap,
  w.cell? ⟨LB, i * 6, none⟩ = some (.int .i8 y.k) ∧ w.cell? ⟨LB, i * 6 + 1, none⟩ = some (.int .i64 y.n) ∧ w.cell? ⟨LB, i * 6 + 2, none⟩ = some (.string y.s) ∧ w.cell? ⟨LB, i * 6 + 3, none⟩ = some (.string y.t) ∧
  w.cell? ⟨LB, i * 6 + 4, none⟩ = some (.slice A y.l.length cap) ∧ w.cell? ⟨LB, i * 6 + 5, none⟩ = some (.int .i64 ((i + y.nodes : Nat) : Int)) := by
 obtain ⟨cs, h1, h2⟩ := h.row
 obtain ⟨A, cap, c0, c1, c2, c3, c4, c5⟩ := h2 i y hy
 exact ⟨A, cap, cell_of_row h1 c0, cell_of_row h1 c1, cell_of_row h1 c2, cell_of_row h1 c3, cell_of_row h1 c4, cell_of_row h1 c5⟩

def PlacesAt (P : List Tm) (p : Nat) (l : List Tm) : Prop := ∃ r, P.drop p = Tm.pres l ++ r
def PlaceAt (P : List Tm) (p : Nat) (y : Tm) : Prop := ∃ r, P.drop p = y.pre ++ r
theorem get_drop {P L r : List Tm} {p : Nat} (h : P.drop p = L ++ r) (i : Nat) (hi : i < L.length) : P[p + i]? = L[i]? := by
 rw [← List.getElem?_drop, h, List.getElem?_append_left hi]
theorem PlaceAt.get {P : List Tm} {p : Nat} {y : Tm} (h : PlaceAt P p y) : P[p]? = some y := by
 obtain ⟨r, h⟩ := h
 have := get_drop h 0 (by have := Tm.pre_ne y; omega)
 rw [Nat.add_zero] at this
 rw [this]; cases y; rfl
theorem len_drop {P L r : List Tm} {p : Nat} (h : P.drop p = L ++ r) (hL : 1 ≤ L.length ∨ p ≤ P.length) : p + L.length ≤ P.length := by
 have := congrArg List.length h
 rw [List.length_drop, List.length_append] at this
 omega
theorem PlaceAt.le {P : List Tm} {p : Nat} {y : Tm} (h : PlaceAt P p y) : p + y.nodes ≤ P.length := by
 obtain ⟨r, h⟩ := h
 exact len_drop h (.inl (Tm.pre_ne y))
theorem PlaceAt.parts {P : List Tm} {p : Nat} {k n : Int} {s t : ByteArray} {l : List Tm} (h : PlaceAt P p (.mk k n s t l)) : PlacesAt P (p + 1) l := by
 obtain ⟨r, h⟩ := h
 refine ⟨r, ?_⟩
 rw [← List.drop_drop, h, Tm.pre]; rfl
theorem PlacesAt.head {P : List Tm} {p : Nat} {x : Tm} {l : List Tm} (h : PlacesAt P p (x :: l)) : PlaceAt P p x ∧ PlacesAt P (p + x.nodes) l := by
 obtain ⟨r, h⟩ := h
 rw [Tm.pres, List.append_assoc] at h
 refine ⟨⟨_, h⟩, r, ?_⟩
 rw [← List.drop_drop, h]
 unfold Tm.nodes
 rw [List.drop_left]

structure KeepT (mb me : Nat) (V V' : World) : Prop where
 size : V.heap.size ≤ V'.heap.size
 cells : ∀ (k : Nat) (c : Array Value) (t : TypeId) (z : Nat × Nat), V.heap[k]? = some (.cells c t z) → t ≠ 70 → t ≠ 9 → t ≠ 47 → V'.heap[k]? = some (.cells c t z)
 others : ∀ (k : Nat) (o : Obj), V.heap[k]? = some o → o.isCells = false → k ≠ mb → k ≠ me → V'.heap[k]? = some o
theorem KeepT.refl (mb me : Nat) (V : World) : KeepT mb me V V := ⟨Nat.le_refl _, fun _ _ _ _ h _ _ _ => h, fun _ _ h _ _ _ => h⟩
theorem KeepT.trans {mb me : Nat} {A B C : World} (h : KeepT mb me A B) (g : KeepT mb me B C) : KeepT mb me A C :=
 ⟨Nat.le_trans h.size g.size, fun k c t z hk h1 h2 h3 => g.cells k c t z (h.cells k c t z hk h1 h2 h3) h1 h2 h3, fun k o hk h1 h2 h3 => g.others k o (h.others k o hk h1 h2 h3) h1 h2 h3⟩
theorem KeepT.of_below {mb me : Nat} {A B : World} (h : Below A.heap.size A B) : KeepT mb me A B :=
 ⟨h.size, fun k c t z hk _ _ _ => (h.block k (heap_lt hk)).trans hk, fun k o hk _ _ _ => (h.block k (heap_lt hk)).trans hk⟩

structure WCtx where
 w0 : World
 base : Nat
 B : Nat
 mb : Nat
 me : Nat
 LB : Nat
 lc : Nat
 P : List Tm
 most : Int
def WCtx.nv (X : WCtx) : Value := .slice (some ⟨X.LB, 0, none⟩) X.P.length X.lc
structure WCtx.Ok (X : WCtx) : Prop where
 base : X.base ≤ X.w0.heap.size
 B : X.base ≤ X.B
 mb : X.base ≤ X.mb
 me : X.base ≤ X.me
 ne : X.mb ≠ X.me
 LB : X.LB < X.base
 lay : LayAt X.w0 X.LB X.lc X.P
 most : -1000 ≤ X.most ∧ X.most ≤ 1000

def ErrRow (base : Nat) (V : World) (fs : List Value) (fl : List (Int × Nat)) : Prop :=
 fs.length = fl.length ∧ ∀ (i : Nat) (e : Int) (p : Nat), fl[i]? = some (e, p) → ∃ r, fs[i]? = some (Value.iface 44 (.pointer (some ⟨r, 0, none⟩))) ∧ base ≤ r ∧ V.heap[r]? = some (.cells #[.int .i64 9, .int .i64 e, .int .i64 ((p : Nat) : Int)] 51 (0, 0))
structure WR (X : WCtx) (bset bound aset all : List ByteArray) (fl : List (Int × Nat)) (es es' : Array MapEntry) (c c' : Nat) (nv ov fv : Value) (fs : List Value) (V : World) : Prop where
 below : Below X.base X.w0 V
 box : V.heap[X.B]? = some (.cells #[X.nv, .int .i64 X.most, .map (some X.mb), nv, .map (some X.me), ov, fv] 70 (0, 0))
 bm : V.heap[X.mb]? = some (.map es c)
 am : V.heap[X.me]? = some (.map es' c')
 sb : SetOf es bset
 sa : SetOf es' aset
 names : V.ownsRow X.base 9 1 nv bound.length (bound.map .string)
 order : V.ownsRow X.base 9 1 ov all.length (all.map .string)
 faults : V.ownsRow X.base 47 1 fv fs.length fs
 errs : ErrRow X.base V fs fl
 apart : ∀ k, nv.ownBlock = some k → ov.ownBlock ≠ some k
theorem own_blk {w : World} {base : Nat} {e : TypeId} {size : Nat} {v : Value} {n : Nat} {xs : List Value} (h : w.ownsRow base e size v n xs) {b : Nat} (hv : v.ownBlock = some b) : base ≤ b ∧ ∃ cur, w.heap[b]? = some (.cells cur e (0, 0)) := by
 rcases h.2 with ⟨rfl, _⟩ | ⟨g', cap, cur, rfl, h2, hc, _⟩
 ·cases hv
 ·simp only [Value.ownBlock, Option.some.injEq] at hv
  subst hv
  exact ⟨h2, cur, hc⟩
theorem own_keep {w w' : World} {base : Nat} {e : TypeId} {size : Nat} {v : Value} {n : Nat} {xs : List Value} (h : w.ownsRow base e size v n xs) (hk : ∀ b, v.ownBlock = some b → w'.heap[b]? = w.heap[b]?) : w'.ownsRow base e size v n xs := by
 obtain ⟨h1, h2⟩ := h
 refine ⟨h1, ?_⟩
 rcases h2 with h2 | ⟨g, cap, cur, rfl, hb, hc, h3⟩
 ·exact .inl h2
 ·exact .inr ⟨g, cap, cur, rfl, hb, (hk g rfl).trans hc, h3⟩
theorem own_cut {w : World} {base : Nat} {e : TypeId} {A : Option Addr} {n cap : Nat} {xs : List Value} (h : w.ownsRow base e 1 (.slice A n cap) n xs) (k : Nat) (hk : k ≤ n) : w.ownsRow base e 1 (.slice A k cap) k (xs.take k) := by
 obtain ⟨h1, h2⟩ := h
 refine ⟨by rw [List.length_take]; omega, ?_⟩
 rcases h2 with ⟨h2, h3⟩ | ⟨g, c, cur, hv, hb, hc, h4, h5, h6, h7⟩
 ·subst h3
  obtain rfl : k = 0 := by omega
  exact .inl ⟨h2, rfl⟩
 ·simp only [Value.slice.injEq] at hv
  obtain ⟨rfl, _, rfl⟩ := hv
  refine .inr ⟨g, cap, cur, rfl, hb, hc, by omega, h5, h6, ?_⟩
  rw [← h7, List.take_take]
  congr 1
  omega
theorem own_slice {w : World} {base : Nat} {e : TypeId} {size : Nat} {v : Value} {n : Nat} {xs : List Value} (h : w.ownsRow base e size v n xs) : ∃ A c, v = .slice A n c ∧ n ≤ c := by
 rcases h.2 with ⟨rfl, rfl⟩ | ⟨g, cap, cur, rfl, _, _, h4, _⟩
 ·exact ⟨_, _, rfl, Nat.le_refl _⟩
 ·exact ⟨_, _, rfl, h4⟩
theorem ErrRow.keep {base : Nat} {V V' : World} {fs : List Value} {fl : List (Int × Nat)} (h : ErrRow base V fs fl) (hk : ∀ (r : Nat) (c : Array Value), V.heap[r]? = some (.cells c 51 (0, 0)) → V'.heap[r]? = some (.cells c 51 (0, 0))) : ErrRow base V' fs fl :=
 ⟨h.1, fun i e p hi => by obtain ⟨r, h1, h2, h3⟩ := h.2 i e p hi; exact ⟨r, h1, h2, hk _ _ h3⟩⟩
section
variable {X : WCtx} {bset bound aset all : List ByteArray} {fl : List (Int × Nat)} {es es' : Array MapEntry} {c c' : Nat} {nv ov fv : Value} {fs : List Value} {V V' : World}
theorem WR.keep (h : WR X bset bound aset all fl es es' c c' nv ov fv fs V) (hb : Below X.base V V') (hc : ∀ (k : Nat) (o : Obj), V.heap[k]? = some o → X.base ≤ k → (o.isCells = true ∨ k = X.mb ∨ k = X.me) → V'.heap[k]? = some o) (hX : X.Ok) :
  WR X bset bound aset all fl es es' c c' nv ov fv fs V' := by
 have hrow : ∀ {e : TypeId} {v : Value} {n : Nat} {xs : List Value}, V.ownsRow X.base e 1 v n xs → V'.ownsRow X.base e 1 v n xs := fun ho => own_keep ho (fun b hv => by
  obtain ⟨h1, cur, h2⟩ := own_blk ho hv
  exact (hc b _ h2 h1 (.inl rfl)).trans h2.symm)
 refine ⟨h.below.trans hb, hc _ _ h.box hX.B (.inl rfl), hc _ _ h.bm hX.mb (.inr (.inl rfl)), hc _ _ h.am hX.me (.inr (.inr rfl)), h.sb, h.sa, hrow h.names, hrow h.order, hrow h.faults, ?_, h.apart⟩
 exact ⟨h.errs.1, fun i e p hi => by obtain ⟨r, h1, h2, h3⟩ := h.errs.2 i e p hi; exact ⟨r, h1, h2, hc _ _ h3 h2 (.inl rfl)⟩⟩
theorem WR.under (h : WR X bset bound aset all fl es es' c c' nv ov fv fs V) (hX : X.Ok) (b : Below V.heap.size V V') : WR X bset bound aset all fl es es' c c' nv ov fv fs V' :=
 h.keep (b.mono (Nat.le_trans hX.base h.below.size)) (fun k o hk _ _ => (b.block k (heap_lt hk)).trans hk) hX
theorem WR.putb (h : WR X bset bound aset all fl es es' c c' nv ov fv fs V) (hX : X.Ok) {es2 : Array MapEntry} {c2 : Nat} {bset2 : List ByteArray} (hs : SetOf es2 bset2) :
  WR X bset2 bound aset all fl es2 es' c2 c' nv ov fv fs (V.putObj X.mb (.map es2 c2)) ∧ KeepT X.mb X.me V (V.putObj X.mb (.map es2 c2)) := by
 have m : Mod (fun k => k = X.mb) V (V.putObj X.mb (.map es2 c2)) := Mod.putObj _ _ _ rfl
 have kk : ∀ (k : Nat) (o : Obj), V.heap[k]? = some o → k ≠ X.mb → (V.putObj X.mb (.map es2 c2)).heap[k]? = some o := fun k o hk hne => (m.block k (heap_lt hk) hne).trans hk
 have kc : ∀ (k : Nat) (o : Obj), V.heap[k]? = some o → o.isCells = true → (V.putObj X.mb (.map es2 c2)).heap[k]? = some o := fun k o hk ho => kk k o hk (fun e => by subst e; rw [h.bm] at hk; cases hk; cases ho)
 have hrow : ∀ {e : TypeId} {v : Value} {n : Nat} {xs : List Value}, V.ownsRow X.base e 1 v n xs → (V.putObj X.mb (.map es2 c2)).ownsRow X.base e 1 v n xs := fun ho => own_keep ho (fun b hv => by
  obtain ⟨h1, cur, h2⟩ := own_blk ho hv
  exact (kc b _ h2 rfl).trans h2.symm)
 refine ⟨⟨h.below.trans (m.below (Nat.le_trans hX.base h.below.size) (fun i e => by subst e; exact hX.mb)), kc _ _ h.box rfl, World.putObj_heap_same (heap_lt h.bm), kk _ _ h.am (Ne.symm hX.ne), hs, h.sa, hrow h.names, hrow h.order, hrow h.faults, h.errs.keep (fun r c hr => kc _ _ hr rfl), h.apart⟩, ⟨m.size, fun k c t z hk _ _ _ => kc _ _ hk rfl, fun k o hk _ h1 _ => kk _ _ hk h1⟩⟩
theorem WR.puta (h : WR X bset bound aset all fl es es' c c' nv ov fv fs V) (hX : X.Ok) {es2 : Array MapEntry} {c2 : Nat} {aset2 : List ByteArray} (hs : SetOf es2 aset2) :
  WR X bset bound aset2 all fl es es2 c c2 nv ov fv fs (V.putObj X.me (.map es2 c2)) ∧ KeepT X.mb X.me V (V.putObj X.me (.map es2 c2)) := by
 have m : Mod (fun k => k = X.me) V (V.putObj X.me (.map es2 c2)) := Mod.putObj _ _ _ rfl
 have kk : ∀ (k : Nat) (o : Obj), V.heap[k]? = some o → k ≠ X.me → (V.putObj X.me (.map es2 c2)).heap[k]? = some o := fun k o hk hne => (m.block k (heap_lt hk) hne).trans hk
 have kc : ∀ (k : Nat) (o : Obj), V.heap[k]? = some o → o.isCells = true → (V.putObj X.me (.map es2 c2)).heap[k]? = some o := fun k o hk ho => kk k o hk (fun e => by subst e; rw [h.am] at hk; cases hk; cases ho)
 have hrow : ∀ {e : TypeId} {v : Value} {n : Nat} {xs : List Value}, V.ownsRow X.base e 1 v n xs → (V.putObj X.me (.map es2 c2)).ownsRow X.base e 1 v n xs := fun ho => own_keep ho (fun b hv => by
  obtain ⟨h1, cur, h2⟩ := own_blk ho hv
  exact (kc b _ h2 rfl).trans h2.symm)
 refine ⟨⟨h.below.trans (m.below (Nat.le_trans hX.base h.below.size) (fun i e => by subst e; exact hX.me)), kc _ _ h.box rfl, kk _ _ h.bm hX.ne, World.putObj_heap_same (heap_lt h.am), h.sb, hs, hrow h.names, hrow h.order, hrow h.faults, h.errs.keep (fun r c hr => kc _ _ hr rfl), h.apart⟩, ⟨m.size, fun k c t z hk _ _ _ => kc _ _ hk rfl, fun k o hk _ _ h2 => kk _ _ hk h2⟩⟩
theorem row_step {X : WCtx} {V V1 : World} {cs : Array Value} {e : TypeId} {v v' : Value} {n n' : Nat} {xs xs' : List Value} (i : Nat) (hX : X.Ok) (hV : X.base ≤ V.heap.size)
  (hb : V.heap[X.B]? = some (.cells cs 70 (0, 0))) (ho : V.ownsRow X.base e 1 v n xs) (he : e ≠ 70) (g : V.grownBy V1 v.ownBlock) (h1 : V1.ownsRow X.base e 1 v' n' xs') (a : v'.ownBlock = v.ownBlock ∨ v'.ownBlock = some V.heap.size) :
  Mod (fun k => k = X.B ∨ v.ownBlock = some k) V (V1.setCell ⟨X.B, i, none⟩ v') ∧ (V1.setCell ⟨X.B, i, none⟩ v').heap[X.B]? = some (.cells (cs.setIfInBounds i v') 70 (0, 0)) ∧
  (V1.setCell ⟨X.B, i, none⟩ v').ownsRow X.base e 1 v' n' xs' ∧ Below X.base V (V1.setCell ⟨X.B, i, none⟩ v') ∧ (∀ k, v'.ownBlock = some k → v.ownBlock = some k ∨ V.heap.size ≤ k) := by
 have hB1 : V1.heap[X.B]? = _ := (g.block _ (heap_lt hb) (fun e' => by
  obtain ⟨_, cur, h2⟩ := own_blk ho e'.symm
  rw [hb] at h2; cases h2; exact he rfl)).trans hb
 have m1 : Mod (fun k => v.ownBlock = some k) V V1 := Mod.grown g (fun k _ e => e)
 have m2 : Mod (fun k => k = X.B) V1 (V1.setCell ⟨X.B, i, none⟩ v') := Mod.setCell _ _ _ (.inl rfl)
 have mm : Mod (fun k => k = X.B ∨ v.ownBlock = some k) V (V1.setCell ⟨X.B, i, none⟩ v') := (m1.mono (fun _ _ h => .inr h)).trans m2 (fun _ _ h => .inl h)
 refine ⟨mm, set_row _ hB1, ?_, mm.below hV (fun k hk => ?_), fun k hk => ?_⟩
 ·refine own_keep h1 (fun b hv => m2.block b ?_ ?_)
  ·obtain ⟨_, cur, h2⟩ := own_blk h1 hv; exact heap_lt h2
  ·intro e'; subst e'
   obtain ⟨_, cur, h2⟩ := own_blk h1 hv
   rw [hB1] at h2; cases h2; exact he rfl
 ·rcases hk with rfl | hk
  ·exact hX.B
  ·exact (own_blk ho hk).1
 ·rcases a with a | a
  ·exact .inl (a.symm.trans hk)
  ·rw [a] at hk; simp only [Option.some.injEq] at hk; exact .inr (by omega)
theorem row_keep {X : WCtx} {V V' : World} {cs : Array Value} {e : TypeId} {v : Value} {n : Nat} {xs : List Value} (he : e = 9 ∨ e = 47)
  (hb : V.heap[X.B]? = some (.cells cs 70 (0, 0))) (ho : V.ownsRow X.base e 1 v n xs) (m : Mod (fun k => k = X.B ∨ v.ownBlock = some k) V V') : KeepT X.mb X.me V V' := by
 refine ⟨m.size, fun k c t z hk h1 h2 h3 => (m.block k (heap_lt hk) ?_).trans hk, fun k o hk h1 _ _ => (m.block k (heap_lt hk) ?_).trans hk⟩
 ·rintro (rfl | hv)
  ·rw [hb] at hk; cases hk; exact h1 rfl
  ·obtain ⟨_, cur, h4⟩ := own_blk ho hv
   rw [hk] at h4; cases h4
   rcases he with he | he
   ·exact h2 he
   ·exact h3 he
 ·rintro (rfl | hv)
  ·rw [hb] at hk; cases hk; cases h1
  ·obtain ⟨_, cur, h4⟩ := own_blk ho hv
   rw [hk] at h4; cases h4; cases h1
theorem WR.setn (h : WR X bset bound aset all fl es es' c c' nv ov fv fs V) (hX : X.Ok) {V1 : World} {nv' : Value} {bound2 : List ByteArray} (g : V.grownBy V1 nv.ownBlock) (h1 : V1.ownsRow X.base 9 1 nv' bound2.length (bound2.map .string)) (a : nv'.ownBlock = nv.ownBlock ∨ nv'.ownBlock = some V.heap.size) :
  WR X bset bound2 aset all fl es es' c c' nv' ov fv fs (V1.setCell ⟨X.B, 3, none⟩ nv') ∧ KeepT X.mb X.me V (V1.setCell ⟨X.B, 3, none⟩ nv') := by
 obtain ⟨m, hb, hr, bel, ap⟩ := row_step 3 hX (Nat.le_trans hX.base h.below.size) h.box h.names (by decide) g h1 a
 have kt := row_keep (X := X) (.inl rfl) h.box h.names m
 have nB : ∀ {k : Nat} {o : Obj}, V.heap[k]? = some o → o.isCells = false → (V1.setCell ⟨X.B, 3, none⟩ nv').heap[k]? = some o := fun {k o} hk ho => (m.block k (heap_lt hk) (by
  rintro (rfl | hv)
  ·rw [h.box] at hk; cases hk; cases ho
  ·obtain ⟨_, cur, h4⟩ := own_blk h.names hv; rw [hk] at h4; cases h4; cases ho)).trans hk
 have rk : ∀ {e : TypeId} {v : Value} {n : Nat} {xs : List Value}, V.ownsRow X.base e 1 v n xs → e ≠ 70 → (∀ k, v.ownBlock = some k → nv.ownBlock ≠ some k) → (V1.setCell ⟨X.B, 3, none⟩ nv').ownsRow X.base e 1 v n xs := fun ho he hne => own_keep ho (fun b hv => m.block b (by obtain ⟨_, cur, h4⟩ := own_blk ho hv; exact heap_lt h4) (by
  rintro (rfl | hv2)
  ·obtain ⟨_, cur, h4⟩ := own_blk ho hv; rw [h.box] at h4; cases h4; exact he rfl
  ·exact hne b hv hv2))
 refine ⟨⟨h.below.trans bel, hb, nB h.bm rfl, nB h.am rfl, h.sb, h.sa, hr, rk h.order (by decide) (fun k h1 h2 => h.apart k h2 h1), rk h.faults (by decide) (fun k h1 h2 => ?_), h.errs.keep (fun r c hr => kt.cells _ _ _ _ hr (by decide) (by decide) (by decide)), fun k hk ho => ?_⟩, kt⟩
 ·obtain ⟨_, cur, h4⟩ := own_blk h.faults h1
  obtain ⟨_, cur2, h5⟩ := own_blk h.names h2
  rw [h4] at h5; cases h5
 ·rcases ap k hk with h2 | h2
  ·exact h.apart k h2 ho
  ·obtain ⟨_, cur, h4⟩ := own_blk h.order ho
   have := heap_lt h4; omega
theorem WR.seto (h : WR X bset bound aset all fl es es' c c' nv ov fv fs V) (hX : X.Ok) {V1 : World} {ov' : Value} {all2 : List ByteArray} (g : V.grownBy V1 ov.ownBlock) (h1 : V1.ownsRow X.base 9 1 ov' all2.length (all2.map .string)) (a : ov'.ownBlock = ov.ownBlock ∨ ov'.ownBlock = some V.heap.size) :
  WR X bset bound aset all2 fl es es' c c' nv ov' fv fs (V1.setCell ⟨X.B, 5, none⟩ ov') ∧ KeepT X.mb X.me V (V1.setCell ⟨X.B, 5, none⟩ ov') := by
 obtain ⟨m, hb, hr, bel, ap⟩ := row_step 5 hX (Nat.le_trans hX.base h.below.size) h.box h.order (by decide) g h1 a
 have kt := row_keep (X := X) (.inl rfl) h.box h.order m
 have nB : ∀ {k : Nat} {o : Obj}, V.heap[k]? = some o → o.isCells = false → (V1.setCell ⟨X.B, 5, none⟩ ov').heap[k]? = some o := fun {k o} hk ho => (m.block k (heap_lt hk) (by
  rintro (rfl | hv)
  ·rw [h.box] at hk; cases hk; cases ho
  ·obtain ⟨_, cur, h4⟩ := own_blk h.order hv; rw [hk] at h4; cases h4; cases ho)).trans hk
 have rk : ∀ {e : TypeId} {v : Value} {n : Nat} {xs : List Value}, V.ownsRow X.base e 1 v n xs → e ≠ 70 → (∀ k, v.ownBlock = some k → ov.ownBlock ≠ some k) → (V1.setCell ⟨X.B, 5, none⟩ ov').ownsRow X.base e 1 v n xs := fun ho he hne => own_keep ho (fun b hv => m.block b (by obtain ⟨_, cur, h4⟩ := own_blk ho hv; exact heap_lt h4) (by
  rintro (rfl | hv2)
  ·obtain ⟨_, cur, h4⟩ := own_blk ho hv; rw [h.box] at h4; cases h4; exact he rfl
  ·exact hne b hv hv2))
 refine ⟨⟨h.below.trans bel, hb, nB h.bm rfl, nB h.am rfl, h.sb, h.sa, rk h.names (by decide) (fun k h1 h2 => h.apart k h1 h2), hr, rk h.faults (by decide) (fun k h1 h2 => ?_), h.errs.keep (fun r c hr => kt.cells _ _ _ _ hr (by decide) (by decide) (by decide)), fun k hk ho => ?_⟩, kt⟩
 ·obtain ⟨_, cur, h4⟩ := own_blk h.faults h1
  obtain ⟨_, cur2, h5⟩ := own_blk h.order h2
  rw [h4] at h5; cases h5
 ·rcases ap k ho with h2 | h2
  ·exact h.apart k hk h2
  ·obtain ⟨_, cur, h4⟩ := own_blk h.names hk
   have := heap_lt h4; omega
theorem WR.setf (h : WR X bset bound aset all fl es es' c c' nv ov fv fs V) (hX : X.Ok) {V1 : World} {fv' : Value} {fl2 : List (Int × Nat)} {fs2 : List Value} (g : V.grownBy V1 fv.ownBlock) (h1 : V1.ownsRow X.base 47 1 fv' fs2.length fs2) (a : fv'.ownBlock = fv.ownBlock ∨ fv'.ownBlock = some V.heap.size) (hf : ErrRow X.base V fs2 fl2) :
  WR X bset bound aset all fl2 es es' c c' nv ov fv' fs2 (V1.setCell ⟨X.B, 6, none⟩ fv') ∧ KeepT X.mb X.me V (V1.setCell ⟨X.B, 6, none⟩ fv') := by
 obtain ⟨m, hb, hr, bel, ap⟩ := row_step 6 hX (Nat.le_trans hX.base h.below.size) h.box h.faults (by decide) g h1 a
 have kt := row_keep (X := X) (.inr rfl) h.box h.faults m
 have nB : ∀ {k : Nat} {o : Obj}, V.heap[k]? = some o → o.isCells = false → (V1.setCell ⟨X.B, 6, none⟩ fv').heap[k]? = some o := fun {k o} hk ho => (m.block k (heap_lt hk) (by
  rintro (rfl | hv)
  ·rw [h.box] at hk; cases hk; cases ho
  ·obtain ⟨_, cur, h4⟩ := own_blk h.faults hv; rw [hk] at h4; cases h4; cases ho)).trans hk
 have rk : ∀ {e : TypeId} {v : Value} {n : Nat} {xs : List Value}, V.ownsRow X.base e 1 v n xs → e ≠ 70 → e ≠ 47 → (V1.setCell ⟨X.B, 6, none⟩ fv').ownsRow X.base e 1 v n xs := fun ho he hne => own_keep ho (fun b hv => m.block b (by obtain ⟨_, cur, h4⟩ := own_blk ho hv; exact heap_lt h4) (by
  rintro (rfl | hv2)
  ·obtain ⟨_, cur, h4⟩ := own_blk ho hv; rw [h.box] at h4; cases h4; exact he rfl
  ·obtain ⟨_, cur, h4⟩ := own_blk ho hv
   obtain ⟨_, cur2, h5⟩ := own_blk h.faults hv2
   rw [h4] at h5; cases h5; exact hne rfl))
 exact ⟨⟨h.below.trans bel, hb, nB h.bm rfl, nB h.am rfl, h.sb, h.sa, rk h.names (by decide) (by decide), rk h.order (by decide) (by decide), hr, hf.keep (fun r c hr => kt.cells _ _ _ _ hr (by decide) (by decide) (by decide)), h.apart⟩, kt⟩
end
def WkAt (X : WCtx) (st : Wk) (V : World) : Prop := X.Ok ∧ st.bound.Nodup ∧ ∃ es es' c c' nv ov fv fs, WR X st.bound st.bound st.all st.all st.fl es es' c c' nv ov fv fs V
theorem WkAt.under {X : WCtx} {st : Wk} {V V' : World} (h : WkAt X st V) (b : Below V.heap.size V V') : WkAt X st V' := by
 obtain ⟨hX, hn, es, es', c, c', nv, ov, fv, fs, hR⟩ := h
 exact ⟨hX, hn, es, es', c, c', nv, ov, fv, fs, hR.under hX b⟩
end Go.Proofs.YtmdcdhdjojimeaaGreatDoor
end
section
set_option linter.unusedVariables false
namespace Go.Proofs.YtmdcdhdjojimeaaGreatDoor
open Go.RowKit

theorem patsB_all : ∀ {l : List Tm}, patsB l = true ↔ ∀ x ∈ l, patB x = true
 | [] => by simp [patsB]
 | x :: l => by simp [patsB, patsB_all (l := l)]
theorem guasB_all : ∀ {l : List Tm}, guasB l = true ↔ ∀ x ∈ l, guaB x = true
 | [] => by simp [guasB]
 | x :: l => by simp [guasB, guasB_all (l := l)]
theorem exprsB_all : ∀ {l : List Tm}, exprsB l = true ↔ ∀ x ∈ l, exprB x = true
 | [] => by simp [exprsB]
 | x :: l => by simp [exprsB, exprsB_all (l := l)]
theorem clsB_all {m : Nat} : ∀ {l : List Tm}, clsB m l = true ↔ ∀ x ∈ l, clB m x = true
 | [] => by simp [clsB]
 | x :: l => by simp [clsB, clsB_all (l := l)]

theorem pat_gua (x : Tm) : patB x = true → guaB x = true := by
 induction x using Tm.ind with
 | h k n s t l ih =>
  intro h
  rw [patB, Bool.or_eq_true] at h
  rw [guaB, Bool.or_eq_true]
  rcases h with h | h
  ·exact .inl h
  ·simp only [Bool.and_eq_true, Bool.or_eq_true] at h
   obtain ⟨⟨⟨⟨h1, h2⟩, h3⟩, h4⟩, h5⟩ := h
   have h6 : guasB l = true := guasB_all.2 fun x hx => ih x hx (patsB_all.1 h5 x hx)
   right
   simp only [Bool.and_eq_true, Bool.or_eq_true]
   refine ⟨⟨⟨?_, h2⟩, h4⟩, h6⟩
   rcases h1 with h1 | ⟨h1, h7⟩
   ·exact .inl (.inl ⟨h1, h3⟩)
   ·exact .inl (.inr ⟨⟨h1, h3⟩, h7⟩)
theorem gua_expr (x : Tm) : guaB x = true → exprB x = true := by
 induction x using Tm.ind with
 | h k n s t l ih =>
  intro h
  rw [guaB, Bool.or_eq_true] at h
  rw [exprB]
  simp only [Bool.or_eq_true]
  rcases h with h | h
  ·simp [h]
  ·simp only [Bool.and_eq_true, Bool.or_eq_true] at h
   obtain ⟨⟨⟨h1, h2⟩, h4⟩, h5⟩ := h
   have h6 : exprsB l = true := exprsB_all.2 fun x hx => ih x hx (guasB_all.1 h5 x hx)
   rcases h1 with (⟨h1, h3⟩ | ⟨⟨h1, h3⟩, h7⟩) | ⟨⟨h1, h3⟩, h7⟩
   ·simp [h1, h2, h3, h4, h6]
   ·simp [h1, h2, h3, h4, h6, h7]
   ·simp [h1, h2, plus_ari h3, h4, h6, h7]
theorem pat_expr (x : Tm) (h : patB x = true) : exprB x = true := gua_expr x (pat_gua x h)

def clauseR (x : Tm) (m : Int) : Bool := fitsB x && decide (0 ≤ m) && clB m.toNat x
theorem clB_n {m : Nat} {k n : Int} {s t : ByteArray} {l : List Tm} (h : clB m (.mk k n s t l) = true) : n = (m : Int) := by
 rw [clB] at h
 simp only [Bool.and_eq_true] at h
 exact eq_of_beq h.1.1.1.2
theorem mods_parts {x m f c : Tm} (h : fitsB x = true) (hx : modsB x = true) (hm : m ∈ x.l) (hf : f ∈ m.l) (hc : c ∈ f.l) : clauseR c f.n = true ∧ 0 ≤ f.n ∧ f.n ≤ 8 := by
 obtain ⟨k0, n0, s0, t0, l0⟩ := x
 obtain ⟨k1, n1, s1, t1, l1⟩ := m
 obtain ⟨k2, n2, s2, t2, l2⟩ := f
 have hm' : Tm.mk k1 n1 s1 t1 l1 ∈ l0 := hm
 have hf' : Tm.mk k2 n2 s2 t2 l2 ∈ l1 := hf
 have hc' : c ∈ l2 := hc
 rw [modsB] at hx
 simp only [Bool.and_eq_true] at hx
 have e1 := List.all_eq_true.1 hx.2 _ hm'
 rw [modB] at e1
 simp only [Bool.and_eq_true] at e1
 have e2 := List.all_eq_true.1 e1.2 _ hf'
 rw [funB] at e2
 simp only [Bool.and_eq_true] at e2
 have e3 := of_decide_eq_true e2.1.1.2
 have e4 := clsB_all.1 e2.2 _ hc'
 have fc : fitsB c = true := fits_mem (fits_mem (fits_mem h hm') hf') hc'
 refine ⟨?_, e3⟩
 show clauseR c n2 = true
 unfold clauseR
 rw [fc, e4, decide_eq_true e3.1]
 rfl
end Go.Proofs.YtmdcdhdjojimeaaGreatDoor
end
section
set_option linter.unusedVariables false
namespace Go.Proofs.YtmdcdhdjojimeaaGreatDoor
open Go.RowKit Go.ChangeShapes Go.WideShapes Go.Deep

theorem tcells_node : Tryz.prog.cellsOf 25 = 5 := by kernel_rfl
theorem tcells_nrow : Tryz.prog.cellsOf 23 = 1 := by kernel_rfl
set_option maxRecDepth 100000 in
theorem open_nrow {H : Type} {enc : TypeId × Value → H} {W : World} {fuel : Nat} {v : Value} {x : DataW H × List MemPlace}
  (ih : ∀ n, n < fuel → ∀ cs x, DataW.trod enc Tryz.prog W 0 (fun _ => true) true n 25 cs = some x → ∃ t, TmAt (· < W.heap.size) W t (.agg cs.toArray))
  (h : DataW.trod enc Tryz.prog W 0 (fun _ => true) true fuel 23 [v] = some x) : ∃ A n cap l, v = .slice A n cap ∧ TRow (· < W.heap.size) W A n cap l := by
 rcases DataW.trod_slice Tryz.underlying23 h with ⟨hcs, _⟩ | ⟨a, len, cap, elems, rest, n, hfu, hcs, _, hb, hl, hm, hlen, hel, _, _⟩
 ·simp at hcs
  exact ⟨none, 0, 0, [], hcs, .nil _ _ _ _⟩
 ·simp at hcs
  subst hcs
  rw [tcells_node] at hel
  have each : ∀ i, i < len → ∃ t v, a.block < W.heap.size ∧ ElemAt W a i v ∧ TmAt (· < W.heap.size) W t v := by
   intro i hi
   have h1 := hel i hi
   rw [List.getElem?_eq_getElem (by omega)] at h1
   obtain ⟨cs, hc, ht⟩ := Option.bind_eq_some_iff.1 h1
   obtain ⟨t, hT⟩ := ih n (by omega) cs _ ht
   obtain ⟨_, hcl, hat⟩ := World.cells?_some hc
   match cs, hcl with
   | [c0, c1, c2, c3, c4], _ =>
    have e0 := hat 0 (by decide)
    have e1 := hat 1 (by decide)
    have e2 := hat 2 (by decide)
    have e3 := hat 3 (by decide)
    have e4 := hat 4 (by decide)
    rw [add_next] at e0
    rw [add_next'] at e1 e2 e3 e4
    refine ⟨t, _, ?_, ⟨c0, c1, c2, c3, c4, rfl, e0, e1, e2, e3, e4⟩, hT⟩
    have := World.block_lt_of_cell? W _ (e0.trans rfl)
    rwa [add_block] at this
  obtain ⟨l, hll, hlp⟩ := rows_choose (p := fun j x => ∃ v, a.block < W.heap.size ∧ ElemAt W a j v ∧ TmAt (· < W.heap.size) W x v) each
  exact ⟨some a, len, cap, l, rfl, hll, Nat.le_trans hl hm, hl, fun j x hj => by obtain ⟨v, h1, h2, h3⟩ := hlp j x hj; exact ⟨a, v, rfl, h1, h2, h3⟩⟩

set_option maxRecDepth 100000 in
theorem open_node_fuel {H : Type} {enc : TypeId × Value → H} {W : World} (fuel : Nat) : ∀ cs x, DataW.trod enc Tryz.prog W 0 (fun _ => true) true fuel 25 cs = some x → ∃ t, TmAt (· < W.heap.size) W t (.agg cs.toArray) := by
 induction fuel using Nat.strongRecOn with
 | ind fuel ih =>
  intro cs x h
  obtain ⟨xs, n, hfu, _, hlen, hxl, hf⟩ := DataW.trod_struct Tryz.underlying25 h
  rw [tcells_node] at hlen
  match cs, hlen with
  | [c0, c1, c2, c3, c4], _ =>
   have f0 : DataW.trod enc Tryz.prog W 0 (fun _ => true) true n 22 (([c0, c1, c2, c3, c4].drop 0).take (Tryz.prog.cellsOf 22)) = xs[0]? := hf 0 _ rfl
   have f1 : DataW.trod enc Tryz.prog W 0 (fun _ => true) true n 3 (([c0, c1, c2, c3, c4].drop 1).take (Tryz.prog.cellsOf 3)) = xs[1]? := hf 1 _ rfl
   have f2 : DataW.trod enc Tryz.prog W 0 (fun _ => true) true n 9 (([c0, c1, c2, c3, c4].drop 2).take (Tryz.prog.cellsOf 9)) = xs[2]? := hf 2 _ rfl
   have f3 : DataW.trod enc Tryz.prog W 0 (fun _ => true) true n 9 (([c0, c1, c2, c3, c4].drop 3).take (Tryz.prog.cellsOf 9)) = xs[3]? := hf 3 _ rfl
   have f4 : DataW.trod enc Tryz.prog W 0 (fun _ => true) true n 23 (([c0, c1, c2, c3, c4].drop 4).take (Tryz.prog.cellsOf 23)) = xs[4]? := hf 4 _ rfl
   rw [tcells_i8] at f0
   rw [tcells_int] at f1
   rw [tcells_str] at f2 f3
   rw [tcells_nrow] at f4
   match xs, hxl with
   | [y0, y1, y2, y3, y4], _ =>
    simp at f0 f1 f2 f3 f4
    obtain ⟨k, e0, _, hk⟩ := DataW.trod_int Tryz.underlying22 f0
    obtain ⟨m, e1, _, hm⟩ := DataW.trod_int Tryz.underlying3 f1
    obtain ⟨s, e2, _, hs⟩ := DataW.trod_string Tryz.underlying9 f2
    obtain ⟨t, e3, _, ht⟩ := DataW.trod_string Tryz.underlying9 f3
    obtain ⟨A, len, cap, l, rfl, hr⟩ := open_nrow (fun n' hn' => ih n' (by omega)) f4
    simp at e0 e1 e2 e3
    subst e0 e1 e2 e3
    obtain rfl := hr.len
    exact ⟨.mk k m s t l, .of_row hr (i8_wf hk) (i64_wf hm) hs ht⟩

set_option maxRecDepth 100000 in
theorem open_node {H : Type} {enc : TypeId × Value → H} {W : World} {base : Nat} {v : Value} {d : DataW H} {p : List MemPlace} (hv : Value.okWide Tryz.prog W .any base 25 v) (h : DataW.Trod enc Tryz.prog W 0 (fun _ => true) true 25 v d p) : ∃ t, TmAt (· < W.heap.size) W t v := by
 obtain ⟨cs, rfl, hsz⟩ := okWide_struct Tryz.underlying25 hv
 obtain ⟨fuel, hf⟩ := h
 obtain ⟨t, ht⟩ := open_node_fuel fuel _ _ hf
 simp [Value.cells] at ht
 exact ⟨t, ht⟩

set_option maxHeartbeats 1000000 in
set_option maxRecDepth 100000 in
theorem rnodes_any (x : Tm) : ∀ (v : Value) (most : Nat) (w : World), TmAt (· < w.heap.size) w x v → 1 ≤ most → most ≤ 1000000 →
  Calls Tryz.prog 19 #[v, .int .i64 most] w fun e w' => e = .returned (.int .i64 (min x.nodes most : Nat)) ∧ Below w.heap.size w w' := by
 induction x using Tm.ind with
 | h k n s t l ih =>
  intro v most w hT h1 hmost
  obtain ⟨A, cap, rfl, hR, hk, hn, hs, ht⟩ := hT.parts
  have hlen := hR.max
  unfold maxLen at hlen
  have HR := Lib.hid hR
  have HIH := Lib.hid ih
  clear hR ih hT
  obtain ⟨w1, hw1⟩ : ∃ w1, w1 = w.alloc (.cells #[.int .i8 k, .int .i64 n, .string s, .string t, .slice A l.length cap] 25) := ⟨_, rfl⟩
  have hB1 : Below w.heap.size w w1 := by rw [hw1]; exact (Below.refl _ w).alloc (Nat.le_refl _) _
  have hs1 : w1.heap.size = w.heap.size + 1 := by rw [hw1]; simp
  have hbox : w1.heap[w.heap.size]? = some (.cells #[.int .i8 k, .int .i64 n, .string s, .string t, .slice A l.length cap] 25) := by rw [hw1]; exact block_alloc _ _
  have HB1 := Lib.hid hB1
  have HS1 := Lib.hid hs1
  clear hB1 hs1
  go_enter Tryz.func19, Tryz.ntmps19
  go_wp2_with fail
  rw [← hw1]
  clear hw1
  have HX := Lib.hid hbox
  clear hbox
  go_loopw [5, 6] (fun r i wr => ∃ j : Nat, j ≤ l.length ∧ i = .int .i64 j ∧ (∃ q : Nat, r = .int .i64 q ∧ q = min (1 + (Tm.pres (l.take j)).length) most) ∧ Below w1.heap.size w1 wr) (fun _ i _ => l.length - (intOf i).toNat)
  case atStart => exact ⟨0, Nat.zero_le _, rfl, ⟨1, rfl, by simp [Tm.pres]; omega⟩, Below.refl _ _⟩
  case round =>
   obtain ⟨j, hj, rfl, ⟨q, rfl, hq⟩, hB⟩ := hrel
   have hbw : wr.heap[w.heap.size]? = _ := (hB.block w.heap.size (by rw [HS1.out]; omega)).trans HX.out
   have hc4 : wr.cell? ⟨w.heap.size, 4, none⟩ = some (.slice A l.length cap) := cell_of_row hbw rfl
   have hq1 : 1 ≤ q := by omega
   have hq2 : q ≤ most := by omega
   have HQ := Lib.hid hq
   have HB := Lib.hid hB
   clear hq hB hbw
   by_cases hlt : j < l.length
   ·by_cases hm : q < most
    ·obtain ⟨y, hy⟩ : ∃ y, l[j]? = some y := ⟨l[j], List.getElem?_eq_getElem hlt⟩
     obtain ⟨ad, u, rfl, had, hE, hTy⟩ := HR.out.at_ j y hy
     have hEr : ElemAt wr ad j u := hE.keep ((HB.out.block ad.block (by rw [HS1.out]; omega)).trans (HB1.out.block ad.block had))
     have hTr : TmAt (· < wr.heap.size) wr y u := hTy.keep (fun b hb => (HB.out.block b (by rw [HS1.out]; omega)).trans (HB1.out.block b hb)) (fun b hb => by have := HB1.out.size; have := HB.out.size; omega)
     obtain ⟨c0, c1, c2, c3, c4, rfl, e0, e1, e2, e3, e4⟩ := hEr
     have hmem := List.mem_of_getElem? hy
     have hpy := Tm.pre_ne y
     have HY := Lib.hid hy
     clear hE hTy hy
     go_wp2_with fail
     have he : (most : Int) - q = ((most - q : Nat) : Int) := by omega
     rw [he]
     refine (HIH.out y hmem _ (most - q) _ hTr (by omega) (by omega)).mono ?_
     rintro e w2 ⟨rfl, b2⟩
     have hr : q + min y.nodes (most - q) = min (1 + (Tm.pres (l.take (j + 1))).length) most := by
      rw [Tm.pres_take_succ HY.out, List.length_append]
      have := HQ.out
      unfold Tm.nodes
      omega
     have HRR := Lib.hid hr
     have hle : min y.nodes (most - q) ≤ 1000000 := by omega
     clear hr he
     generalize min y.nodes (most - q) = z at HRR hle ⊢
     go_wp2_with fail
     go_roundw
     case rel => exact ⟨j + 1, by omega, by go_num, ⟨q + z, by go_num, HRR.out⟩, HB.out.trans (b2.mono HB.out.size)⟩
     case measure => simp [intOf]; omega
    ·go_wp2_with fail
     go_ret
     refine ⟨ret_int ?_, HB1.out.trans (HB.out.mono (by rw [HS1.out]; omega))⟩
     have h := HQ.out
     have : (Tm.pres (l.take j)).length ≤ (Tm.pres l).length := by
      rw [show Tm.pres l = Tm.pres (l.take j) ++ Tm.pres (l.drop j) by rw [← Tm.pres_append, List.take_append_drop]]
      simp
     unfold Tm.nodes Tm.pre
     simp only [List.length_cons]
     omega
   ·obtain rfl : j = l.length := by omega
    go_wp2_with fail
    go_ret
    refine ⟨ret_int ?_, HB1.out.trans (HB.out.mono (by rw [HS1.out]; omega))⟩
    have h := HQ.out
    rw [List.take_length] at h
    unfold Tm.nodes Tm.pre
    simp only [List.length_cons]
    omega

def NoThenN (p : Prop) (w : World) (e : Ending) (w' : World) : Prop := ∃ b : Bool, e = .returned (.bool b) ∧ (b = false → p) ∧ Below w.heap.size w w'
theorem GreatN_any (x : Tm) (v : Value) (w : World) (hT : TmAt (· < w.heap.size) w x v) : Calls Tryz.prog 4 #[v] w (NoThenN (x.nodes < 8192) w) := by
 obtain ⟨c, rfl⟩ : ∃ c, v = .agg c := by cases hT; exact ⟨_, rfl⟩
 have hT2 : TmAt (· < (w.alloc (.cells c 25)).heap.size) (w.alloc (.cells c 25)) x (.agg c) := hT.keep (fun b hb => Below.heap_alloc _ _ _ hb) (fun b hb => by simp; omega)
 cases hT with
 | mk vs hk hn hs ht hl hcap hc hx =>
  have HC := Lib.hid (rnodes_any _ _ 8192 _ hT2 (by decide) (by decide))
  clear hT2 hc hx hl hcap
  unfold maxLen at hs ht
  go_enter Tryz.func4, Tryz.ntmps4
  go_wp2_with fail
  refine HC.out.mono ?_
  rintro e w1 ⟨rfl, b1⟩
  go_wp2_with fail
  go_ret
  refine ⟨_, rfl, fun h => ?_, ((Below.refl _ w).alloc (Nat.le_refl _) _).trans (b1.mono (by simp))⟩
  have := of_decide_eq_false h
  omega

end Go.Proofs.YtmdcdhdjojimeaaGreatDoor
end
section
set_option linter.unusedVariables false
namespace Go.Proofs.YtmdcdhdjojimeaaGreatDoor
open Go.RowKit

def checkR (x : Tm) : Int := if fitsB x = true ∧ modsB x = true then 0 else 70
theorem checkR_or (x : Tm) : (checkR x = 0 ∧ fitsB x = true ∧ modsB x = true) ∨ (checkR x = 70 ∧ ¬ (fitsB x = true ∧ modsB x = true)) := by
 unfold checkR
 by_cases h : fitsB x = true ∧ modsB x = true
 ·rw [if_pos h]; exact .inl ⟨rfl, h⟩
 ·rw [if_neg h]; exact .inr ⟨rfl, h⟩
def CheckC (E : World → Prop) : Prop := ∀ (x : Tm) (v : Value) (w : World), TmAt (· < w.heap.size) w x v → x.nodes ≤ 8200 → E w →
 Calls Tryz.prog 32 #[v] w fun e w' => e = .returned (.int .i64 (checkR x)) ∧ Below w.heap.size w w'
structure NBx (E : World → Prop) (w V : World) (g : Nat) (c : Array Value) : Prop where
 below : Below w.heap.size w V
 box : V.heap[g]? = some (.cells c 25 (0, 0))
 env : E V
theorem NBx.under {E : World → Prop} (hE : ∀ w w', E w → Below w.heap.size w w' → E w') {w V V' : World} {g : Nat} {c : Array Value} (h : NBx E w V g c) (b : Below V.heap.size V V') : NBx E w V' g c :=
 ⟨h.below.trans (b.mono h.below.size), (b.block _ (heap_lt h.box)).trans h.box, hE _ _ h.env b⟩
theorem nbx_of {E : World → Prop} (hE : ∀ w w', E w → Below w.heap.size w w' → E w') {w : World} (hw : E w) (c : Array Value) : NBx E w (w.alloc (.cells c 25)) w.heap.size c :=
 ⟨(Below.refl _ _).alloc (Nat.le_refl _) _, block_alloc _ _, hE _ _ hw ((Below.refl _ _).alloc (Nat.le_refl _) _)⟩
theorem TmAt.laterN {w V : World} {x : Tm} {v : Value} (h : TmAt (· < w.heap.size) w x v) (hb : Below w.heap.size w V) : TmAt (· < V.heap.size) V x v :=
 h.keep (fun b hb' => hb.block b hb') (fun b hb' => Nat.lt_of_lt_of_le hb' hb.size)
end Go.Proofs.YtmdcdhdjojimeaaGreatDoor
end
section
set_option linter.unusedVariables false
namespace Go.Proofs.YtmdcdhdjojimeaaGreatDoor
open Go.RowKit
open Go.Lib (itoa)

mutual
def txE : Tm → List UInt8
 | .mk k n s t l =>
  if k = 5 ∨ k = 7 then s.data.toList
  else if k = 6 then itoa n
  else if k = 8 then [91, 93]
  else if k = 9 then [91] ++ txSep [124] l ++ [93]
  else if k = 10 then [123] ++ txSep [44, 32] l ++ [125]
  else if k = 11 then [40] ++ txSep ([32] ++ s.data.toList ++ [32]) l ++ [41]
  else if k = 12 ∨ k = 14 then s.data.toList ++ [40] ++ txSep [44, 32] l ++ [41]
  else if k = 13 then [40] ++ txSep [32, 61, 32] l ++ [41]
  else if k = 15 then s.data.toList ++ [58] ++ t.data.toList ++ [40] ++ txSep [44, 32] l ++ [41]
  else if k = 16 then txApp l
  else if k = 17 then [102, 117, 110, 32] ++ s.data.toList ++ [58] ++ t.data.toList ++ [47] ++ itoa n
  else if k = 18 then [99, 97, 115, 101, 32] ++ txCase [32, 111, 102, 32] l ++ [32, 101, 110, 100]
  else if k = 19 then [116, 114, 121, 32] ++ txCase [32, 99, 97, 116, 99, 104, 32] l ++ [32, 101, 110, 100]
  else [114, 101, 99, 101, 105, 118, 101] ++ (if n = 1 then txRecv [32] l else [32] ++ txCls l) ++ [32, 101, 110, 100]
def txSep (sep : List UInt8) : List Tm → List UInt8
 | [] => []
 | x :: l => txE x ++ ((if l.isEmpty then [] else sep) ++ txSep sep l)
def txApp : List Tm → List UInt8
 | [] => []
 | x :: l => txE x ++ [40] ++ txSep [44, 32] l ++ [41]
def txCase (w : List UInt8) : List Tm → List UInt8
 | [] => []
 | e :: l => txE e ++ w ++ txCls l
def txCls : List Tm → List UInt8
 | [] => []
 | c :: l => txCl c ++ ((if l.isEmpty then [] else [59, 32]) ++ txCls l)
def txCl : Tm → List UInt8
 | .mk _ n _ _ l => txParts [58] [] n.toNat l
def txParts (sep close : List UInt8) : Nat → List Tm → List UInt8
 | 0, g :: l => close ++ txGuard g ++ [32, 45, 62, 32] ++ txSep [44, 32] l
 | m + 1, p :: l => txE p ++ ((if m = 0 then [] else sep) ++ txParts sep close m l)
 | _, [] => []
def txGuard : Tm → List UInt8
 | .mk _ _ _ _ l => if l.isEmpty then [] else [32, 119, 104, 101, 110, 32] ++ txSep [44, 32] l
def txRecv (sep : List UInt8) : List Tm → List UInt8
 | [] => []
 | c :: l => if l.isEmpty then [32, 97, 102, 116, 101, 114, 32] ++ txAfter c else sep ++ txCl c ++ txRecv [59, 32] l
def txAfter : Tm → List UInt8
 | .mk _ _ _ _ l => txThen l
def txThen : List Tm → List UInt8
 | [] => []
 | e :: l => txE e ++ [32, 45, 62, 32] ++ txSep [44, 32] l
end
def SRow (V : World) (A : Option Addr) (L : List ByteArray) : Prop := ∀ (j : Nat) (b : ByteArray), L[j]? = some b → ∃ ad, A = some ad ∧ ad.block < V.heap.size ∧ V.cell? (ad.add j) = some (.string b)
end Go.Proofs.YtmdcdhdjojimeaaGreatDoor
end
section
set_option linter.unusedVariables false
set_option linter.unusedSimpArgs false
namespace Go.Proofs.YtmdcdhdjojimeaaGreatDoor
open Go.RowKit

def hasL (L : List ByteArray) (s : ByteArray) : Bool := L.any fun b => b.data.toList == s.data.toList
set_option maxHeartbeats 2000000 in
set_option maxRecDepth 100000 in
theorem rhas_any (L : List ByteArray) (s : ByteArray) (A : Option Addr) (cap : Nat) (w : World) (hL : L.length ≤ maxLen) (hR : SRow w A L) :
  Calls Tryz.prog 66 #[.slice A L.length cap, .string s] w fun e w' => e = .returned (.bool (hasL L s)) ∧ Below w.heap.size w w' := by
 unfold maxLen at hL
 have HR := Lib.hid hR
 clear hR
 go_enter Tryz.func66, Tryz.ntmps66
 go_wp2_with fail
 go_loopw [5] (fun i wr => ∃ j : Nat, j ≤ L.length ∧ i = .int .i64 j ∧ Hid (Below w.heap.size w wr) ∧ Hid (hasL L s = hasL (L.drop j) s)) (fun i _ => L.length - (intOf i).toNat)
 case atStart => exact ⟨0, Nat.zero_le _, rfl, Lib.hid (Below.refl _ _), Lib.hid rfl⟩
 case round =>
  obtain ⟨j, hj, rfl, HB, HM⟩ := hrel
  by_cases hlt : j < L.length
  ·obtain ⟨y, hy⟩ : ∃ y, L[j]? = some y := ⟨L[j], List.getElem?_eq_getElem hlt⟩
   obtain ⟨ad, rfl, had, hE⟩ := HR.out j y hy
   have e0 : wr.cell? (ad.add j) = some (.string y) := (HB.out.cell (World.block_lt_of_cell? _ _ hE)).trans hE
   have HD : Hid (hasL L s = ((y.data.toList == s.data.toList) || hasL (L.drop (j + 1)) s)) := Lib.hid (by
    rw [HM.out, List.drop_eq_getElem_cons hlt]
    rw [List.getElem?_eq_getElem hlt] at hy
    rw [Option.some.inj hy]
    rfl)
   clear hy had hE
   have hte : (y.toList == s.toList) = (y.data.toList == s.data.toList) := by rw [ByteArray.toList_eq, ByteArray.toList_eq]
   cases hn : (y.data.toList == s.data.toList) with
   | true =>
    have hn2 : (y.toList == s.toList) = true := hte.trans hn
    have HF : Hid (hasL L s = true) := Lib.hid (by rw [HD.out, hn]; rfl)
    clear hn hte HD
    go_wp2_with fail
    go_ret
    exact ⟨by rw [HF.out]; rfl, HB.out⟩
   | false =>
    have hn2 : (y.toList == s.toList) = false := hte.trans hn
    have HF : Hid (hasL L s = hasL (L.drop (j + 1)) s) := Lib.hid (by rw [HD.out, hn]; rfl)
    clear hn hte HD
    go_wp2_with fail
    go_roundw
    case rel => exact ⟨j + 1, by omega, by go_num, HB, HF⟩
    case measure => simp [intOf]; omega
  ·obtain rfl : j = L.length := by omega
   have HF : Hid (hasL L s = false) := Lib.hid (by rw [HM.out, List.drop_length]; rfl)
   go_wp2_with fail
   go_ret
   exact ⟨by rw [HF.out]; rfl, HB.out⟩
end Go.Proofs.YtmdcdhdjojimeaaGreatDoor
end
