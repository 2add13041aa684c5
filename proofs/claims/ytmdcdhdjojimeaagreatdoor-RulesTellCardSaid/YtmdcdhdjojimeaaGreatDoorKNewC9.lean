/- Layer 9: newChecker. -/
import Derived.Test.YtmdcdhdjojimeaaGreatDoorKTmL
import Derived.Test.YtmdcdhdjojimeaaGreatDoorKFnsR9
import Derived.Test.YtmdcdhdjojimeaaGreatDoorKLaid9
set_option linter.unusedVariables false
set_option linter.unusedSimpArgs false
namespace Go.Proofs.YtmdcdhdjojimeaaGreatDoor
open Go.RowKit Go.Shelf
attribute [local go_sem] Oper.semAt_some

structure NewS (w : World) (x : Tm) (CB LB lc fm vc : Nat) (fv : Value) (fs : List Value) (fl : List (Int × Nat)) (L : List Fn9) (V : World) : Prop where
 below : Below w.heap.size w V
 ge : w.heap.size ≤ CB ∧ w.heap.size ≤ fm ∧ w.heap.size ≤ vc
 box : V.heap[CB]? = some (.cells #[.slice (some ⟨LB, 0, none⟩) x.pre.length lc, .map (some fm), fv] 118 (0, 0))
 cbox : V.heap[vc]? = some (.cells #[.pointer (some ⟨CB, 0, none⟩)] 88 (0, 0))
 lay : LayAt V LB lc x.pre
 fns : ∃ es c, V.heap[fm]? = some (.map es c) ∧ SetF es L
 own : V.ownsRow w.heap.size 47 1 fv fs.length fs
 errs : ErrRow w.heap.size V fs fl
section
variable {w V V' : World} {x : Tm} {CB LB lc fm vc : Nat} {fv : Value} {fs : List Value} {fl : List (Int × Nat)} {L : List Fn9}
theorem NewS.under (h : NewS w x CB LB lc fm vc fv fs fl L V) (b : Below V.heap.size V V') : NewS w x CB LB lc fm vc fv fs fl L V' := by
 obtain ⟨es, c, h1, h2⟩ := h.fns
 obtain ⟨cs, h3, _⟩ := h.lay.row
 exact ⟨h.below.trans (b.mono h.below.size), h.ge, (b.block _ (heap_lt h.box)).trans h.box, (b.block _ (heap_lt h.cbox)).trans h.cbox, h.lay.keep (b.block _ (heap_lt h3)), ⟨es, c, (b.block _ (heap_lt h1)).trans h1, h2⟩, own_keep h.own (fun k hk => b.block k (by obtain ⟨_, cur, h4⟩ := own_blk h.own hk; exact heap_lt h4)),
  h.errs.keep (fun r c hr => (b.block _ (heap_lt hr)).trans hr)⟩
theorem NewS.chk (h : NewS w x CB LB lc fm vc fv fs fl (fnsW x.l) V) : Chk CB LB lc fm fv x fl V := by
 refine ⟨h.box, h.lay, h.fns, ?_⟩
 obtain ⟨A, c, rfl, hc⟩ := own_slice h.own
 have hl := h.errs.1
 refine ⟨A, c, by rw [hl], by omega, fun i e p hi => ?_⟩
 obtain ⟨r, h1, h2, h3⟩ := h.errs.2 i e p hi
 have hlt := (List.getElem?_eq_some_iff.1 hi).1
 rcases h.own.2 with ⟨e1, e2⟩ | ⟨g, cap, cur, e1, _, hg, _⟩
 ·omega
 ·simp only [Value.slice.injEq] at e1
  obtain ⟨rfl, -, rfl⟩ := e1
  refine ⟨g, 0, _, rfl, heap_lt hg, ?_, ⟨r, rfl, h3⟩⟩
  rw [Nat.zero_add, h.own.cellAt i (by omega)]
  exact h1
end
def onlyN (K : Act → World → Prop) : Exit → Act → World → Prop
 | .normal, a, w => K a w
 | _, _, _ => False
theorem only_to {Q : Exit → Act → World → Prop} : ∀ e a w, onlyN (Q .normal) e a w → Q e a w
 | .normal, _, _, h => h
 | .ret, _, _, h => h.elim
 | .exit _, _, _, h => h.elim
 | .goto _, _, _, h => h.elim
 | .panic _, _, _, h => h.elim
 | .outgrown, _, _, h => h.elim
theorem wp_onlyN {P : Program} {c : Code} {Q : Exit → Act → World → Prop} {a : Act} {w : World} (h : c.wp P (onlyN (Q .normal)) a w) : c.wp P Q a w := wp_mono h only_to
theorem fltP_le (a : List Tm) (i p : Nat) : (fltP p (a.take i)).length ≤ (fltP p a).length := by
 have h := fltP_append (a.take i) (a.drop i) p
 rw [List.take_append_drop] at h
 rw [h, List.length_append]
 exact Nat.le_add_right _ _
theorem fnsW_mem : ∀ {l : List Tm} {f : Fn9}, f ∈ fnsW l → ∃ m ∈ l, ∃ y ∈ m.l, f = (m.s, y.s, y.n)
 | m :: l, f, h => by
  rw [← fnsT_W, fnsT, List.map_append, List.mem_append] at h
  rcases h with h | h
  ·simp only [List.map_map, List.mem_map, Function.comp] at h
   obtain ⟨y, hy, rfl⟩ := h
   exact ⟨m, List.mem_cons_self, y, hy, rfl⟩
  ·rw [fnsT_W] at h
   obtain ⟨m', h1, h2⟩ := fnsW_mem h
   exact ⟨m', List.mem_cons_of_mem _ h1, h2⟩
theorem self_pre (x : Tm) : x ∈ x.pre := by obtain ⟨k, n, s, t, l⟩ := x; rw [Tm.pre]; exact List.mem_cons_self
theorem part_pre {x y z : Tm} (hy : y ∈ x.l) (hz : z ∈ y.pre) : z ∈ x.pre := by obtain ⟨k, n, s, t, l⟩ := x; rw [Tm.pre]; exact List.mem_cons_of_mem _ (mem_pres9 hy hz)
theorem fnsW_ok {x : Tm} (h : ∀ z ∈ x.pre, TmOk z) {f : Fn9} (hf : f ∈ fnsW x.l) : FnOk f := by
 obtain ⟨m, hm, y, hy, rfl⟩ := fnsW_mem hf
 have h1 := h m (part_pre hm (self_pre m))
 have h2 := h y (part_pre hm (part_pre hy (self_pre y)))
 exact ⟨h1.1, h2.1, h2.2.2⟩
theorem fns9T_eq {x : Tm} (hf : fitsB x = true) (hm : modsB x = true) : (fns9T x).map (·.1) = fnsW x.l := by rw [fns9T, if_pos ⟨hf, hm⟩, fnsT_W]
theorem ErrRow.more {base b2 : Nat} {V : World} {fs fs2 : List Value} {fl fl2 : List (Int × Nat)} (h : ErrRow base V fs fl) (h2 : ErrRow b2 V fs2 fl2) (hb : base ≤ b2) : ErrRow base V (fs ++ fs2) (fl ++ fl2) := by
 refine ⟨by rw [List.length_append, List.length_append, h.1, h2.1], fun i e p hi => ?_⟩
 rw [List.getElem?_append] at hi ⊢
 rw [h.1]
 by_cases hlt : i < fl.length
 ·rw [if_pos hlt] at hi ⊢; exact h.2 i e p hi
 ·rw [if_neg hlt] at hi ⊢
  obtain ⟨r, h3, h4, h5⟩ := h2.2 _ e p hi
  exact ⟨r, h3, Nat.le_trans hb h4, h5⟩
theorem oneCell_errs {base : Nat} {V : World} {fs : List Value} {fl : List (Int × Nat)} (h : ErrRow base V fs fl) : ∀ u ∈ fs, u.oneCell' = true := by
 intro u hu
 obtain ⟨i, hi⟩ := List.getElem?_of_mem hu
 have hlt := (List.getElem?_eq_some_iff.1 hi).1
 obtain ⟨⟨e, p⟩, hep⟩ : ∃ z, fl[i]? = some z := ⟨fl[i]'(by rw [← h.1]; exact hlt), List.getElem?_eq_getElem _⟩
 obtain ⟨r, h3, _, _⟩ := h.2 i e p hep
 rw [hi] at h3; cases h3; rfl
theorem NewS.push {w V V1 : World} {x : Tm} {CB LB lc fm vc : Nat} {fv v' : Value} {fs fs2 : List Value} {fl fl2 : List (Int × Nat)} {L : List Fn9} (h : NewS w x CB LB lc fm vc fv fs fl L V) (g : V.grownBy V1 fv.ownBlock)
  (h1 : V1.ownsRow w.heap.size 47 1 v' (fs.length + fs2.length) (fs ++ fs2)) {b2 : Nat} (he : ErrRow b2 V fs2 fl2) (hb : w.heap.size ≤ b2) :
  NewS w x CB LB lc fm vc v' (fs ++ fs2) (fl ++ fl2) L (V1.setCell ⟨CB, 2, none⟩ v') ∧ V.heap.size ≤ (V1.setCell ⟨CB, 2, none⟩ v').heap.size ∧
  (∀ (k : Nat) (o : Obj), V.heap[k]? = some o → k ≠ CB → (∀ c z, o ≠ .cells c 47 z) → (V1.setCell ⟨CB, 2, none⟩ v').heap[k]? = some o) := by
 have hb1 : V1.heap[CB]? = _ := (g.block _ (heap_lt h.box) (fun e' => own_ne h.own h.box (by decide) e'.symm)).trans h.box
 have m1 : Mod (fun k => fv.ownBlock = some k) V V1 := Mod.grown g (fun k _ e => e)
 have m2 : Mod (fun k => k = CB) V1 (V1.setCell ⟨CB, 2, none⟩ v') := Mod.setCell _ _ _ (.inl rfl)
 have mm : Mod (fun k => k = CB ∨ fv.ownBlock = some k) V (V1.setCell ⟨CB, 2, none⟩ v') := (m1.mono (fun _ _ h => .inr h)).trans m2 (fun _ _ h => .inl h)
 have fr : ∀ (k : Nat) (o : Obj), V.heap[k]? = some o → k ≠ CB → (∀ c z, o ≠ .cells c 47 z) → (V1.setCell ⟨CB, 2, none⟩ v').heap[k]? = some o := fun k o hk hne hc => (mm.block k (heap_lt hk) (by
  rintro (rfl | hv)
  ·exact hne rfl
  ·obtain ⟨_, cur, h2⟩ := own_blk h.own hv
   rw [hk] at h2
   exact hc _ _ (Option.some.inj h2))).trans hk
 have cel : ∀ (k : Nat) (c : Array Value) (T : TypeId) (z : Nat × Nat), V.heap[k]? = some (.cells c T z) → T ≠ 47 → T ≠ 118 → (V1.setCell ⟨CB, 2, none⟩ v').heap[k]? = some (.cells c T z) := fun k c T z hk h1 h2 =>
  fr k _ hk (fun e => by rw [e, h.box] at hk; injection hk with hk; injection hk with _ e2 _; exact h2 e2.symm) (fun c' z' e => by injection e with _ e2 _; exact h1 e2)
 obtain ⟨es, c, hm, hset⟩ := h.fns
 obtain ⟨cs, hr, _⟩ := h.lay.row
 have her := h.errs.more he hb
 refine ⟨⟨h.below.trans (mm.below h.below.size (fun k hk => ?_)), h.ge, set_row (i := 2) v' hb1, cel _ _ _ _ h.cbox (by decide) (by decide), h.lay.keep ((cel _ _ _ _ hr (by decide) (by decide)).trans hr.symm), ⟨es, c, fr _ _ hm (fun e => by rw [e, h.box] at hm; cases hm) (fun _ _ e => by cases e), hset⟩, ?_, her.keep (fun r c hr => cel _ _ _ _ hr (by decide) (by decide))⟩, mm.size, fr⟩
 ·rcases hk with rfl | hk
  ·exact h.ge.1
  ·exact (own_blk h.own hk).1
 ·rw [List.length_append]
  exact own_keep h1 (fun b hv => m2.block b (by obtain ⟨_, cur, h2⟩ := own_blk h1 hv; exact heap_lt h2) (fun e => own_ne h1 hb1 (by decide) (by rw [hv, e])))
theorem NewS.box1 {w V V1 : World} {x : Tm} {CB LB lc fm vc : Nat} {fv : Value} {fs : List Value} {fl : List (Int × Nat)} {L : List Fn9} (h : NewS w x CB LB lc fm vc fv fs fl L V) (g : V.grownBy V1 fv.ownBlock) :
  V1.heap[CB]? = some (.cells #[.slice (some ⟨LB, 0, none⟩) x.pre.length lc, .map (some fm), fv] 118 (0, 0)) :=
 (g.block _ (heap_lt h.box) (fun e' => own_ne h.own h.box (by decide) e'.symm)).trans h.box
structure KeepE (V V' : World) : Prop where
 size : V.heap.size ≤ V'.heap.size
 keep : ∀ (k : Nat) (o : Obj), V.heap[k]? = some o → (∀ c z, o ≠ .cells c 47 z) → V'.heap[k]? = some o
theorem KeepE.of_below {V V' : World} (h : Below V.heap.size V V') : KeepE V V' := ⟨h.size, fun k o hk _ => (h.block k (heap_lt hk)).trans hk⟩
theorem KeepE.row {V V' : World} (h : KeepE V V') {k : Nat} {c : Array Value} {T : TypeId} {z : Nat × Nat} (hk : V.heap[k]? = some (.cells c T z)) (hT : T ≠ 47) : V'.heap[k]? = some (.cells c T z) := h.keep k _ hk (fun c' z' e => by injection e with _ e2 _; exact hT e2)
theorem KeepE.grown {W V V1 : World} {base : Nat} {v : Value} {n : Nat} {xs : List Value} (h : KeepE W V) (g : V.grownBy V1 v.ownBlock) (ho : V.ownsRow base 47 1 v n xs) : KeepE W V1 :=
 ⟨Nat.le_trans h.size g.size, fun k o hk hc => by
  have h1 := h.keep k o hk hc
  exact (g.block k (heap_lt h1) (fun e => by obtain ⟨_, cur, h2⟩ := own_blk ho e.symm; rw [h1] at h2; exact hc _ _ (Option.some.inj h2))).trans h1⟩
theorem NewS.keepN {w V V' : World} {x : Tm} {CB LB lc fm vc : Nat} {fv : Value} {fs : List Value} {fl : List (Int × Nat)} {L : List Fn9} (h : NewS w x CB LB lc fm vc fv fs fl L V) (b : Below w.heap.size w V')
  (hk : ∀ (k : Nat) (o : Obj), V.heap[k]? = some o → (o.isCells = true ∨ k = fm) → V'.heap[k]? = some o) : NewS w x CB LB lc fm vc fv fs fl L V' := by
 obtain ⟨es, c, h1, h2⟩ := h.fns
 obtain ⟨cs, h3, _⟩ := h.lay.row
 exact ⟨b, h.ge, hk _ _ h.box (.inl rfl), hk _ _ h.cbox (.inl rfl), h.lay.keep ((hk _ _ h3 (.inl rfl)).trans h3.symm), ⟨es, c, hk _ _ h1 (.inr rfl), h2⟩, own_keep h.own (fun k hv => by obtain ⟨_, cur, h4⟩ := own_blk h.own hv; exact (hk _ _ h4 (.inl rfl)).trans h4.symm), h.errs.keep (fun r c hr => hk _ _ hr (.inl rfl))⟩
theorem NewS.soft {w A C : World} {x : Tm} {CB LB lc fm vc B : Nat} {fv : Value} {fs : List Value} {fl : List (Int × Nat)} {L : List Fn9} (h : NewS w x CB LB lc fm vc fv fs fl L A) (hs : Soft B A C) (hB : w.heap.size ≤ B) (hf : fm < B) : NewS w x CB LB lc fm vc fv fs fl L C :=
 h.keepN (h.below.trans (hs.below.mono hB)) (fun k o hk ho => hs.same k o hk (ho.imp_right (fun e => ⟨by omega, by omega⟩)))
def MarksAt (lo b : Nat) : List Deferred → World → Prop
 | [], _ => True
 | d :: ds, w => (∃ r, d = { target := .collected r, args := #[] } ∧ lo ≤ r ∧ r < b ∧ w.heap[r]? = some (.deferred (some [])) ∧ ∀ d' ∈ ds, d' ≠ { target := .collected r, args := #[] }) ∧ MarksAt lo b ds w
theorem MarksAt.keep {lo b b' : Nat} {w w' : World} (hb : b ≤ b') (hk : ∀ r, r < b → w.heap[r]? = some (.deferred (some [])) → w'.heap[r]? = some (.deferred (some []))) : ∀ {ds : List Deferred}, MarksAt lo b ds w → MarksAt lo b' ds w'
 | [], _ => trivial
 | d :: ds, h => by
  obtain ⟨⟨r, h1, h0, h2, h3, h4⟩, h5⟩ := h
  exact ⟨⟨r, h1, h0, by omega, hk r h2 h3, h4⟩, MarksAt.keep hb hk h5⟩
theorem MarksAt.mem {lo b : Nat} {w : World} : ∀ {ds : List Deferred} {d : Deferred}, MarksAt lo b ds w → d ∈ ds → ∃ r, d = { target := .collected r, args := #[] } ∧ r < b
 | e :: ds, d, h, hd => by
  obtain ⟨⟨r, h1, h0, h2, h3, h4⟩, h5⟩ := h
  rcases List.mem_cons.1 hd with rfl | hd
  ·exact ⟨r, h1, h2⟩
  ·exact MarksAt.mem h5 hd
theorem leaves_marks {F : Fence} {n : Nat} {fn : Func} {tmps : Array Value} {R : Ending → World → Prop} {lo b : Nat} : ∀ (ds : List Deferred) (w : World), lo ≤ w.heap.size → MarksAt lo b ds w →
  (∀ w', Below lo w w' → (∀ (k : Nat) (o : Obj), w.heap[k]? = some o → o ≠ .deferred (some []) → w'.heap[k]? = some o) → LeavesInM F n Tryz.prog fn tmps R [] .returning w') → LeavesInM F n Tryz.prog fn tmps R ds .returning w
 | [], w, _, _, h => h w (Below.refl _ _) (fun _ _ h _ => h)
 | d :: ds, w, hlo, hm, h => by
  obtain ⟨⟨r, rfl, h0, h2, h3, h4⟩, h5⟩ := hm
  refine ⟨by simp, .inl ⟨r, _, rfl, run_takeDeferred h3, ?_⟩⟩
  have m := Mod.putObj (F := fun k => k = r) w r (.deferred none) rfl
  have mb : Below lo w (w.putObj r (.deferred none)) := m.below hlo (fun k e => by omega)
  refine leaves_marks (lo := lo) (b := b) ds _ (Nat.le_trans hlo m.size) ?_ (fun w' hb hk => h w' (mb.trans hb) (fun k o hko hne => hk k o ((m.block k (heap_lt hko) (fun e => by rw [e, h3] at hko; exact hne (Option.some.inj hko).symm)).trans hko) hne))
  -- the other marks stand
  clear h
  have : ∀ {es : List Deferred}, MarksAt lo b es w → (∀ d' ∈ es, d' ≠ { target := .collected r, args := #[] }) → MarksAt lo b es (w.putObj r (.deferred none)) := by
   intro es
   induction es with
   | nil => intro _ _; trivial
   | cons e es ih =>
    rintro ⟨⟨r', h1', h0', h2', h3', h4'⟩, h5'⟩ hne
    refine ⟨⟨r', h1', h0', h2', (m.block _ (heap_lt h3') (fun e' => ?_)).trans h3', h4'⟩, ih h5' (fun d' hd => hne d' (List.mem_cons_of_mem _ hd))⟩
    exact hne e List.mem_cons_self (by rw [h1', e'])
  exact this h5 h4
theorem clsF_snoc {l : List Tm} {c : Tm} : ∀ {j : Nat} (p : Nat), l[j]? = some c → clsF p (l.take (j + 1)) = clsF p (l.take j) ++ (clW (32 - c.n) (p + (Tm.pres (l.take j)).length) c).fl := by
 induction l with
 | nil => intro j p h; simp at h
 | cons y l ih =>
  intro j p h
  match j, h with
  | 0, h => simp at h; subst h; simp [clsF, Tm.pres]
  | j + 1, h =>
   rw [List.take_succ_cons, List.take_succ_cons, clsF, clsF, ih (p + y.nodes) (by simpa using h), List.append_assoc, nodes_pres_cons, show p + y.nodes + (Tm.pres (l.take j)).length = p + (y.nodes + (Tm.pres (l.take j)).length) by omega]
theorem clsF_le : ∀ (l : List Tm) (j p : Nat), (clsF p (l.take j)).length ≤ (clsF p l).length
 | [], j, p => by simp [clsF]
 | y :: l, 0, p => by simp [clsF]
 | y :: l, j + 1, p => by rw [List.take_succ_cons, clsF, clsF, List.length_append, List.length_append]; have := clsF_le l j (p + y.nodes); omega
set_option maxHeartbeats 16000000 in
set_option maxRecDepth 100000 in
theorem newChecker_any (x : Tm) (nv : Value) (w : World) (hT : TmAt (· < w.heap.size) w x nv) (hn : x.nodes ≤ 4096) (hE : Env7 w) (hf : fitsB x = true) (hm : modsB x = true) (hok : ∀ z ∈ x.pre, TmOk z) (hfl : (modsF 1 x.l).length ≤ 1000000) (hL : (fns9T x).length ≤ 100000) :
  Calls Tryz.prog 40 #[nv] w fun e w' => ∃ CB LB lc fm fv, e = .returned (.pointer (some ⟨CB, 0, none⟩)) ∧ Chk CB LB lc fm fv x (modsF 1 x.l) w' ∧ Below w.heap.size w w' := by
 obtain ⟨k, n, s, t, L, A, cap, hx, rfl⟩ : ∃ k' n' s' t' L' A' cap', x = Tm.mk k' n' s' t' L' ∧ nv = .agg #[.int .i8 k', .int .i64 n', .string s', .string t', .slice A' L'.length cap'] := by
  cases hT; exact ⟨_, _, _, _, _, _, _, rfl, rfl⟩
 obtain ⟨w1, hw1⟩ : ∃ w1, w1 = w.alloc (.cells #[.int .i8 k, .int .i64 n, .string s, .string t, .slice A L.length cap] 25) := ⟨_, rfl⟩
 have b1 : Below w.heap.size w w1 := by rw [hw1]; exact (Below.refl _ _).alloc (Nat.le_refl _) _
 have z1 : w1.heap.size = w.heap.size + 1 := by rw [hw1]; exact World.size_alloc _ _
 have g1 : w1.heap[w.heap.size]? = some (.cells #[.int .i8 k, .int .i64 n, .string s, .string t, .slice A L.length cap] 25 (0, 0)) := by rw [hw1]; exact block_alloc _ _
 have d0 := cell_of_row (i := 0) g1 rfl
 have d1 := cell_of_row (i := 1) g1 rfl
 have d2 := cell_of_row (i := 2) g1 rfl
 have d3 := cell_of_row (i := 3) g1 rfl
 have d4 := cell_of_row (i := 4) g1 rfl
 have hT1 : TmAt (· < w.heap.size) w1 x (.agg #[.int .i8 k, .int .i64 n, .string s, .string t, .slice A L.length cap]) := hT.under b1 (Nat.le_refl _)
 have HLAID := Lib.hid (laid_any9 x _ w1 (hT1.mono (fun b hb => by omega)) hn)
 have HT := Lib.hid hT
 have HE := Lib.hid hE
 have HB1 := Lib.hid b1
 have HZ1 := Lib.hid z1
 have HG1 := Lib.hid g1
 have HH := Lib.hid (And.intro hn (And.intro hf (And.intro hm (And.intro hok (And.intro hfl hL)))))
 have HX := Lib.hid hx
 clear hT hE b1 z1 g1 hn hf hm hok hfl hL hT1 hx
 refine (callsIn_wide (n := 3)).1 ?_
 refine callsIn_of_wp_marks Tryz.func40 rfl trivial ?_ rfl
 simp only [Tryz.ntmps40, List.size_toArray, List.length_cons, List.length_nil, Nat.reduceAdd, Nat.reduceSub, Array.replicate_succ, Array.replicate_zero, List.push_toArray, List.append_toArray, List.nil_append, List.cons_append]
 gi_wp2_with fail
 rw [← hw1]
 clear hw1 d0 d1 d2 d3 d4
 refine ⟨trivial, ?_⟩
 refine (callsIn_wide.2 HLAID.out).mono ?_
 rintro e w2 ⟨LB, lc, rfl, hlay, hb2⟩
 have hmk := mkmapF w2
 obtain ⟨w3, hw3⟩ : ∃ w3, w3 = ((w2.alloc (.map #[] 0)).alloc (.cells #[.slice (some ⟨LB, 0, none⟩) x.pre.length lc, .map (some w2.heap.size), .slice none 0 0] 118)).alloc (.cells #[.pointer (some ⟨w2.heap.size + 1, 0, none⟩)] 88) := ⟨_, rfl⟩
 have hb2w : Below w.heap.size w w2 := HB1.out.trans (hb2.mono (by have := HZ1.out; omega))
 have hS : NewS w x (w2.heap.size + 1) LB lc w2.heap.size (w2.heap.size + 2) (.slice none 0 0) [] [] [] w3 ∧ Below w2.heap.size w2 w3 := by
  obtain ⟨a0, a1, a2, b3, z⟩ := three_at w2 (.map #[] 0) (.cells #[.slice (some ⟨LB, 0, none⟩) x.pre.length lc, .map (some w2.heap.size), .slice none 0 0] 118) (.cells #[.pointer (some ⟨w2.heap.size + 1, 0, none⟩)] 88)
  rw [← hw3] at a0 a1 a2 b3
  obtain ⟨cs, hr, _⟩ := hlay.row
  have hsz := hb2w.size
  exact ⟨⟨hb2w.trans (b3.mono hsz), ⟨by omega, by omega, by omega⟩, a1, a2, hlay.keep (b3.block _ (heap_lt hr)), ⟨#[], 0, a0, SetF.nil⟩, World.ownsRow_nil _ _ _ _, ⟨rfl, fun i e p hi => by simp at hi⟩⟩, b3⟩
 obtain ⟨hS, hb3⟩ := hS
 have hw13 : Below w1.heap.size w1 w3 := hb2.trans (hb3.mono hb2.size)
 have g3 := (hw13.block _ (heap_lt HG1.out)).trans HG1.out
 have d0 := cell_of_row (i := 0) g3 rfl
 have d1 := cell_of_row (i := 1) g3 rfl
 have d2 := cell_of_row (i := 2) g3 rfl
 have d3 := cell_of_row (i := 3) g3 rfl
 have d4 := cell_of_row (i := 4) g3 rfl
 have HS := Lib.hid hS
 have HFN := Lib.hid (Functions_any x _ w3 ((HT.out.under hS.below (Nat.le_refl _)).mono (fun b hb => Nat.lt_of_lt_of_le hb hS.below.size)) (by have := HH.out.1; omega) (HE.out.under hS.below) HH.out.2.2.2.2.2)
 clear hlay hb2 hb2w hS hb3 hw13 g3
 rw [hw3] at d0 d1 d2 d3 d4
 gi_wp2_with fail
 rw [← hw3]
 clear hw3 d0 d1 d2 d3 d4 hmk
 refine ⟨trivial, ?_⟩
 refine (callsIn_wide.2 HFN.out).mono ?_
 rintro e w4 ⟨fv, rfl, hfr, hb4⟩
 obtain ⟨FA, fc, rfl, hfa⟩ := hfr
 have HFA := Lib.hid hfa
 have HS4 := Lib.hid (HS.out.under hb4)
 clear hfa hb4 HFN
 have hgap : w2.heap.size ≠ w2.heap.size + 1 ∧ w2.heap.size + 2 ≠ w2.heap.size + 1 ∧ w2.heap.size ≠ w2.heap.size + 2 := ⟨by omega, by omega, by omega⟩
 have HGAP := Lib.hid hgap
 clear hgap
 generalize w2.heap.size + 2 = vc at *
 generalize w2.heap.size + 1 = CB at *
 generalize w2.heap.size = fm at *
 have hFe := fns9T_eq HH.out.2.1 HH.out.2.2.1
 rw [hFe] at HFA
 have hFl : (fns9T x).length = (fnsW x.l).length := by rw [← hFe, List.length_map]
 have hFok : Hid (∀ f ∈ fnsW x.l, FnOk f) := fun f hf => fnsW_ok HH.out.2.2.2.1 hf
 have hFlen : (fnsW x.l).length ≤ 100000 := by rw [← hFl]; exact HH.out.2.2.2.2.2
 rw [hFe]
 clear hFe hFl
 generalize hFF : fnsW x.l = F at *
 gi_wp2_with fail
 gi_loopw [17] (fun q wr => ∃ i : Nat, i ≤ F.length ∧ q = .int .i64 (i : Int) ∧ Mod (fun k => k = fm) w4 wr ∧ ∃ es c, wr.heap[fm]? = some (.map es c) ∧ SetF es (F.take i)) (fun q _ => F.length - (intOf q).toNat)
 case atStart =>
  obtain ⟨es, c, h1, h2⟩ := HS4.out.fns
  exact ⟨0, Nat.zero_le _, rfl, Mod.refl _ _, es, c, h1, by simpa using h2⟩
 case round =>
  obtain ⟨i, hi, rfl, hmod, es, cc, hmp, hset⟩ := hrel
  by_cases hlt : i < F.length
  ·obtain ⟨f, hf⟩ : ∃ f, F[i]? = some f := ⟨F[i], List.getElem?_eq_getElem hlt⟩
   obtain ⟨g, rfl, hg, e0, e1, e2, e3, e4⟩ := HFA.out i f hf
   have hgm : g ≠ fm := fun e => by
    obtain ⟨es', c', h1, _⟩ := HS4.out.fns
    rw [e] at e0
    simp [World.cell?, h1] at e0
   have kc : ∀ j u, w4.cell? ⟨g, j, none⟩ = some u → wr.cell? ⟨g, j, none⟩ = some u := fun j u h => (hmod.cell (p := ⟨g, j, none⟩) hg hgm).trans h
   replace e0 := kc _ _ e0
   replace e1 := kc _ _ e1
   replace e2 := kc _ _ e2
   replace e3 := kc _ _ e3
   replace e4 := kc _ _ e4
   have had : (⟨g, 0, none⟩ : Addr).add (i * 5) = ⟨g, i * 5, none⟩ := by unfold Addr.add; split <;> simp_all
   have hS4 := HS4.out
   have hbw : Below w.heap.size w wr := hS4.below.trans (hmod.below hS4.below.size (fun k e => by have := hS4.ge.2.1; omega))
   obtain ⟨W5, hW5⟩ : ∃ W5, W5 = wr.alloc (.cells #[.string f.1, .string f.2.1, .int .i64 f.2.2, .int .i64 0, .int .i64 0] 64) := ⟨_, rfl⟩
   have g5 : W5.heap[wr.heap.size]? = some (.cells #[.string f.1, .string f.2.1, .int .i64 f.2.2, .int .i64 0, .int .i64 0] 64 (0, 0)) := by rw [hW5]; exact block_alloc _ _
   have b5 : Below wr.heap.size wr W5 := by rw [hW5]; exact (Below.refl _ _).alloc (Nat.le_refl _) _
   have hcv : wr.heap[vc]? = _ := (hmod.block _ (heap_lt hS4.cbox) (fun e => HGAP.out.2.2 e.symm)).trans hS4.cbox
   have hcb : wr.heap[CB]? = _ := (hmod.block _ (heap_lt hS4.box) (fun e => HGAP.out.1 e.symm)).trans hS4.box
   have HCV := Lib.hid (cell_of_row (i := 0) ((b5.block _ (heap_lt hcv)).trans hcv) rfl)
   have HCB := Lib.hid (cell_of_row (i := 1) ((b5.block _ (heap_lt hcb)).trans hcb) rfl)
   have hmp5 := (b5.block _ (heap_lt hmp)).trans hmp
   have HPUT : Hid (∀ D, Below W5.heap.size W5 D → ∃ es2 c2, (Instr.mapUpdate 116 (.map (some fm)) (fnV f) (.agg #[])).run Tryz.prog D = .ok () (D.putObj fm (.map es2 c2)) ∧ SetF es2 (F.take i ++ [f])) := fun D hD =>
    hset.put D fm cc ((hD.block _ (heap_lt hmp5)).trans hmp5) (hFok.out f (List.mem_of_getElem? hf))
   have HG5 := Lib.hid g5
   have HB5 := Lib.hid b5
   have HM := Lib.hid hmod
   have HMP5 := Lib.hid hmp5
   have HF := Lib.hid hf
   have HLT := Lib.hid hlt
   clear hmod hmp hset hf kc hi hg hgm g5 b5 hcv hcb hmp5 hS4 hbw
   gi_wp2_with fail
   rw [← hW5]
   clear hW5 e0 e1 e2 e3 e4
   refine wpIn_wide.2 (wp_onlyN ?_)
   refine wp_region_E (S := fun W' => Below W5.heap.size W5 W') [6] (by kernel_rfl) ((Below.refl _ _).drew) (fun hS0 => ?_)
   have hput := HPUT.out _ hS0
   generalize W5.drew = D at hS0 hput ⊢
   refine wpAnyE_take (i := 0) (oi := ⟨some 21, _, _, _, _, _⟩) (v := ?_) rfl (by kernel_rfl) (by kernel_rfl) (by kernel_rfl) (by kernel_rfl) (fun _ _ _ h => h) (Or.inl ⟨by kernel_rfl, ?_⟩) (by assumption) ?_; rotate_left; (intro w hSw; (try dsimp only at hSw); have c0 := (hSw.cell (World.block_lt_of_cell? _ _ HCV.out)).trans HCV.out; go_simp; first | done | with_reducible rfl); (try simp only [Act.put, sI, sZ, sS])
   refine te0 1 ?_; (try simp only [Act.put, sI, sZ, sS])
   refine te0 2 ?_; (try simp only [Act.put, sI, sZ, sS])
   refine wpAnyE_take (i := 3) (oi := ⟨some 24, _, _, _, _, _⟩) (v := ?_) rfl (by kernel_rfl) (by kernel_rfl) (by kernel_rfl) (by kernel_rfl) (fun _ _ _ h => h) (Or.inl ⟨by kernel_rfl, ?_⟩) (by assumption) ?_; rotate_left; (intro w hSw; (try dsimp only at hSw); have c0 := (hSw.cell (World.block_lt_of_cell? _ _ HCB.out)).trans HCB.out; go_simp; first | done | with_reducible rfl); (try simp only [Act.put, sI, sZ, sS])
   refine wpAnyE_take (i := 4) (oi := ⟨some 25, _, _, _, _, _⟩) (v := ?_) rfl (by kernel_rfl) (by kernel_rfl) (by kernel_rfl) (by kernel_rfl) (fun _ _ _ h => h) (Or.inl ⟨by kernel_rfl, ?_⟩) (by assumption) ?_; rotate_left; (intro w hSw; (try dsimp only at hSw); have h5 := (hSw.block _ (heap_lt HG5.out)).trans HG5.out; have q0 := cell_of_row (i := 0) h5 rfl; have q1 := cell_of_row (i := 1) h5 rfl; have q2 := cell_of_row (i := 2) h5 rfl; have q3 := cell_of_row (i := 3) h5 rfl; have q4 := cell_of_row (i := 4) h5 rfl; go_simp; first | done | with_reducible rfl); (try simp only [Act.put, sI, sZ, sS])
   refine te0 5 ?_; (try simp only [Act.put, sI, sZ, sS])
   refine wpAnyE_late (i := 6) (o := ⟨none, _, _, _, _, _⟩) (by kernel_rfl) rfl (by kernel_rfl) (fun K hK => ?_)
   rw [if_pos (by rfl)]
   go_simp
   obtain ⟨es2, c2, hp, hset2⟩ := hput
   rw [fnV] at hp
   go_simp
   refine hK.out _ _ ?_
   clear hK K; (try simp only [Act.put, sI, sZ, sS])
   refine wpAny_done (by kernel_rfl) ?_ _
   dsimp only [onlyN]
   have m6 : Mod (fun k => k = fm) wr (D.putObj fm (.map es2 c2)) := ((Mod.of_below (HB5.out.trans (hS0.mono HB5.out.size))).trans (Mod.putObj (F := fun k => k = fm) D fm _ rfl) (fun _ _ h => h))
   have hm6 : (D.putObj fm (.map es2 c2)).heap[fm]? = some (.map es2 c2) := World.putObj_heap_same (heap_lt ((hS0.block _ (heap_lt HMP5.out)).trans HMP5.out))
   have H6 := Lib.hid (And.intro m6 (And.intro hm6 hset2))
   clear m6 hm6 hset2 hS0 hp
   gi_wp2_with fail
   go_roundw
   case rel => exact ⟨i + 1, HLT.out, by go_num, HM.out.trans H6.out.1 (fun _ _ h => h), es2, c2, H6.out.2.1, by rw [List.take_add_one, HF.out]; exact H6.out.2.2⟩
   case measure => simp [intOf]; have := HLT.out; omega
  ·obtain rfl : i = F.length := by omega
   rw [List.take_length] at hset
   have hS4 := HS4.out
   have hbw : Below w4.heap.size w4 wr ∨ True := .inr trivial
   have hS5 : NewS w x CB LB lc fm vc (.slice none 0 0) [] [] F wr := by
    obtain ⟨cs, hr, _⟩ := hS4.lay.row
    obtain ⟨es0, c0, hm0, _⟩ := hS4.fns
    refine ⟨hS4.below.trans (hmod.below hS4.below.size (fun k e => by have := hS4.ge.2.1; omega)), hS4.ge, (hmod.block _ (heap_lt hS4.box) (fun e => HGAP.out.1 e.symm)).trans hS4.box, (hmod.block _ (heap_lt hS4.cbox) (fun e => HGAP.out.2.2 e.symm)).trans hS4.cbox, hS4.lay.keep (hmod.block _ (heap_lt hr) (fun e => ?_)), ⟨es, cc, hmp, hset⟩, World.ownsRow_nil _ _ _ _, ⟨rfl, fun i e p hi => by simp at hi⟩⟩
    rw [e, hm0] at hr; cases hr
   have HS5 := Lib.hid hS5
   have c3 := cell_of_row (i := 0) hS5.cbox rfl
   have c0 := cell_of_row (i := 0) hS5.box rfl
   clear hmod hmp hset hS4 hbw hS5 HS4 HFA HS HT HE HLAID HB1 HZ1 HG1 hi hlt
   gi_wp2_with fail
   clear c3 c0
   obtain ⟨HN, HFI, HMO, HTO, HFL, -⟩ := HH.out
   have hfe := fltP_eq HMO
   rw [← hfe] at HFL
   have HFE := Lib.hid hfe
   have HMO := Lib.hid HMO
   have HTO := Lib.hid HTO
   have HFL := Lib.hid HFL
   have hpl : (x.pre.length : Int) ≤ 4096 := by have h9 : x.nodes = x.pre.length := rfl; omega
   clear hfe HH HN HFI HX
   generalize wr = W0 at HS5 ⊢
   refine wpIn_loop (fun a' w2 => ∃ (i : Nat) (fv : Value) (fs : List Value) (ds : List Deferred) (v6 v7 v34 v35 v36 v37 v38 v39 v40 v41 v42 v43 v44 v45 v46 v47 v66 : Value), i ≤ x.pre.length ∧ NewS w x CB LB lc fm vc fv fs (fltP 0 (x.pre.take i)) F w2 ∧ fm < w2.heap.size ∧ MarksAt w.heap.size w2.heap.size ds w2 ∧ a' = { tmps := #[.agg #[.int .i8 k, .int .i64 n, .string s, .string t, .slice A L.length cap], .pointer (some ⟨w.heap.size, 0, none⟩), .pointer none, .pointer (some ⟨vc, 0, none⟩), undef, u5, v6, v7, undef, .agg #[.int .i8 k, .int .i64 n, .string s, .string t, .slice A L.length cap], .slice (some ⟨LB, 0, none⟩) x.pre.length lc, .map (some fm), .agg #[.slice (some ⟨LB, 0, none⟩) x.pre.length lc, .map (some fm), .slice none 0 0], .pointer (some ⟨CB, 0, none⟩), .agg #[.int .i8 k, .int .i64 n, .string s, .string t, .slice A L.length cap], .slice FA F.length fc, .int .i64 (F.length : Int), .int .i64 (F.length : Int), .bool false, u19, u20, u21, u22, u23, u24, u25, u26, u27, .pointer (some ⟨CB, 0, none⟩), .pointer (some ⟨CB, 0, none⟩), .pointer (some ⟨CB, 0, none⟩), .slice (some ⟨LB, 0, none⟩) x.pre.length lc, .int .i64 (x.pre.length : Int), .int .i64 (i : Int), v34, v35, v36, v37, v38, v39, v40, v41, v42, v43, v44, v45, v46, v47, undef, undef, undef, undef, undef, undef, undef, undef, undef, undef, undef, undef, undef, undef, undef, undef, undef, undef, v66, undef], defers := ds }) (fun a' _ => x.pre.length - (intOf (a'.tmps.getD 33 undef)).toNat) ?h0 ?round
   case h0 => exact ⟨0, .slice none 0 0, [], [], _, _, _, _, _, _, _, _, _, _, _, _, _, _, _, _, _, Nat.zero_le _, HS5.out, (by obtain ⟨es, c, h1, _⟩ := HS5.out.fns; exact heap_lt h1), trivial, rfl⟩
   case round =>
    rintro a' wr ⟨i, fv, fs, ds, v6, v7, v34, v35, v36, v37, v38, v39, v40, v41, v42, v43, v44, v45, v46, v47, v66, hi, hS, hfm, hM, rfl⟩
    by_cases hlt : i < x.pre.length
    ·obtain ⟨z, hz⟩ : ∃ z, x.pre[i]? = some z := ⟨x.pre[i], List.getElem?_eq_getElem hlt⟩
     obtain ⟨A4, cap4, s0, s1, s2, s3, s4, s5⟩ := hS.lay.spot hz
     obtain ⟨b5, hb5⟩ : ∃ b5 : Nat, b5 = i + z.nodes := ⟨_, rfl⟩
     rw [← hb5] at s5
     have HB5' := Lib.hid hb5
     clear hb5
     have had := add6 LB i
     have hi1 : (i : Int) < (x.pre.length : Int) := by omega
     have hi0 : (0 : Int) ≤ (i : Int) := by omega
     obtain ⟨w6, hw6⟩ : ∃ w6, w6 = wr.alloc (.cells #[.int .i8 z.k, .int .i64 z.n, .string z.s, .string z.t, .slice A4 z.l.length cap4, .int .i64 (b5 : Int)] 102) := ⟨_, rfl⟩
     have g6 : w6.heap[wr.heap.size]? = some (.cells #[.int .i8 z.k, .int .i64 z.n, .string z.s, .string z.t, .slice A4 z.l.length cap4, .int .i64 (b5 : Int)] 102 (0, 0)) := by rw [hw6]; exact block_alloc _ _
     have b6 : Below wr.heap.size wr w6 := by rw [hw6]; exact (Below.refl _ _).alloc (Nat.le_refl _) _
     have z6 : w6.heap.size = wr.heap.size + 1 := by rw [hw6]; exact World.size_alloc _ _
     have d0 := cell_of_row (i := 0) g6 rfl
     have hS6 := hS.under b6
     have hft := fltP_take hz
     have HM6 : Hid (MarksAt w.heap.size w6.heap.size ds w6) := hM.keep b6.size (fun r hr h => (b6.block r hr).trans h)
     have HS6 := Lib.hid hS6
     have HZ := Lib.hid hz
     have HLT := Lib.hid hlt
     have HFT := Lib.hid hft
     have HZ6 := Lib.hid z6
     have HFM : Hid (fm < w6.heap.size) := by show _ < _; omega
     rw [hw6] at d0
     clear hS g6 b6 hS6 hz hft hlt hi hM z6 hfm
     by_cases h2 : z.k = 2
     ·have c3 := cell_of_row (i := 0) HS6.out.cbox rfl
      have c0 := cell_of_row (i := 0) HS6.out.box rfl
      have HPI := Lib.hid (fun (m : Nat) => parts_in x.pre LB lc i z m _ HS6.out.lay (pre_place x i z HZ.out))
      rw [hw6] at c3 c0 HPI
      rw [h2] at d0 hw6
      rw [h2] at c3 c0 HPI
      gi_wp2_with (refine ⟨trivial, ?_⟩; gi_at_call 56; refine (HPI.out _).mono ?_; rintro e w' ⟨rfl, rfl⟩)
      rw [← hw6]
      clear c3 c0 HPI d0 s0 s1 s2 s3 s4 s5
      have hz6 := HZ6.out
      have hwz := HS6.out.below.size
      obtain ⟨w9, hw9⟩ : ∃ w9, w9 = ((w6.alloc (.cells #[.slice (some ⟨LB, 0, none⟩) x.pre.length lc] 66)).alloc (.cells #[.int .i64 ((i + 1 : Nat) : Int)] 3)).alloc (.cells #[.int .i64 ((i + z.nodes : Nat) : Int)] 3) := ⟨_, rfl⟩
      obtain ⟨g0, g1, g2, b9, z9⟩ := three_at w6 (.cells #[.slice (some ⟨LB, 0, none⟩) x.pre.length lc] 66) (.cells #[.int .i64 ((i + 1 : Nat) : Int)] 3) (.cells #[.int .i64 ((i + z.nodes : Nat) : Int)] 3)
      rw [← hw9] at g0 g1 g2 b9 z9
      rw [hz6] at g0 g1 g2 z9
      simp only [Nat.add_assoc, Nat.reduceAdd] at g0 g1 g2 z9
      have hplz := pre_place x i z HZ.out
      have hpar : PlacesAt x.pre (i + 1) z.l := by have h9 := hplz; cases z; exact h9.parts
      have hle := hplz.le
      have hS9 := HS6.out.under b9
      have hst := between1_stopsB LB lc (wr.heap.size + 2) (wr.heap.size + 3) (wr.heap.size + 1) x.pre (i + 1) (i + z.nodes) z.l (3 - 1) (by decide) w9 ⟨g1, g2, g0, hS9.lay⟩ hpar (by have := Tm.pre_ne z; unfold Tm.nodes at hle; omega) (by cases z; rw [nodes_mk9]; simp only [Tm.l]; omega)
      have HST := Lib.hid hst
      have HS9 := Lib.hid hS9
      have HZ9 := Lib.hid z9
      have HM9 : Hid (MarksAt w.heap.size w9.heap.size ds w9) := HM6.out.keep b9.size (fun r hr h => (b9.block r hr).trans h)
      have HPAR := Lib.hid hpar
      have HFO := Lib.hid (mem_pre_mods HMO.out (List.mem_of_getElem? HZ.out) h2)
      have HLW : Hid (w.heap.size ≤ w9.heap.size ∧ fm < w9.heap.size) := by have h9 := HFM.out; exact ⟨by omega, by omega⟩
      rw [show ((i + 1 : Nat) : Int) = (i : Int) + 1 by omega, show ((i + z.nodes : Nat) : Int) = (i : Int) + (z.nodes : Int) by omega] at hw9
      rw [← hw9]
      simp only [Nat.add_assoc, Nat.reduceAdd, World.size_alloc]
      clear hst hS9 z9 hpar g0 g1 g2 b9 hw9 hw6 hplz hle HM6 HS6 hz6 hwz
      refine range_E (α := Nat) (gf := 91) (lb := #[.pointer (some ⟨wr.heap.size + 2, 0, none⟩), .pointer (some ⟨wr.heap.size + 3, 0, none⟩), .pointer (some ⟨wr.heap.size + 1, 0, none⟩)]) rfl (enters_of Tryz.func91 (by kernel_rfl) rfl) (fun _ => rfl) HST.out
       KeepB.trans (fun W l o o' _ h ho => KeepB.put h ho) (fun A C h => KeepB.of_below h)
       (fun pre W => pre = (placesL (i + 1) z.l).take pre.length ∧ MarksAt w.heap.size w9.heap.size ds W ∧ ∃ fv fs, NewS w x CB LB lc fm vc fv fs (fltP 0 (x.pre.take i) ++ clsF (i + 1) (z.l.take pre.length)) F W) (fun _ _ _ => False)
       (fun s A C h hs _ => by
        obtain ⟨h1, h2, fv, fs, h3⟩ := h
        exact ⟨h1, h2.keep (Nat.le_refl _) (fun r hr h => hs.same r _ h (.inr ⟨by omega, by omega⟩)), fv, fs, h3.soft hs HLW.out.1 HLW.out.2⟩) (fun c s A C h _ _ => h)
       ⟨by simp, HM9.out, fv, fs, by rw [List.length_nil, List.take_zero, clsF, List.append_nil]; exact HS9.out⟩
       (fun q a' W => a' = { tmps := #[.agg #[.int .i8 k, .int .i64 n, .string s, .string t, .slice A L.length cap], .pointer (some ⟨w.heap.size, 0, none⟩), .pointer none, .pointer (some ⟨vc, 0, none⟩), undef, u5, .int .i64 (i : Int), .pointer (some ⟨wr.heap.size, 0, none⟩), .int .i64 (q : Int), .agg #[.int .i8 k, .int .i64 n, .string s, .string t, .slice A L.length cap], .slice (some ⟨LB, 0, none⟩) x.pre.length lc, .map (some fm), .agg #[.slice (some ⟨LB, 0, none⟩) x.pre.length lc, .map (some fm), .slice none 0 0], .pointer (some ⟨CB, 0, none⟩), .agg #[.int .i8 k, .int .i64 n, .string s, .string t, .slice A L.length cap], .slice FA F.length fc, .int .i64 (F.length : Int), .int .i64 (F.length : Int), .bool false, u19, u20, u21, u22, u23, u24, u25, u26, u27, .pointer (some ⟨CB, 0, none⟩), .pointer (some ⟨CB, 0, none⟩), .pointer (some ⟨CB, 0, none⟩), .slice (some ⟨LB, 0, none⟩) x.pre.length lc, .int .i64 (x.pre.length : Int), .int .i64 (i : Int), .bool true, .int .i64 (i : Int), .pointer (some ⟨LB, i * 6, none⟩), .agg #[.int .i8 2, .int .i64 z.n, .string z.s, .string z.t, .slice A4 z.l.length cap4, .int .i64 (b5 : Int)], .pointer (some ⟨wr.heap.size, 0, none⟩), .pointer (some ⟨wr.heap.size, 0, none⟩), .int .i8 2, .bool false, .pointer (some ⟨CB, 0, none⟩), .pointer (some ⟨CB, 0, none⟩), .pointer (some ⟨CB, 0, none⟩), .slice (some ⟨LB, 0, none⟩) x.pre.length lc, .int .i64 (i : Int), .func (.func 91) #[] #[.pointer (some ⟨wr.heap.size + 2, 0, none⟩), .pointer (some ⟨wr.heap.size + 3, 0, none⟩), .pointer (some ⟨wr.heap.size + 1, 0, none⟩)], .int .i64 (q : Int), undef, undef, undef, undef, undef, undef, undef, undef, undef, undef, undef, undef, undef, undef, undef, undef, undef, v66, undef], defers := [] }) (fun _ _ _ _ h _ => h) ?assign ?body ?done ?stop (by decide)
      case assign =>
       rintro l' pre q W K hi hE hz hK
       have HK := Lib.hid hK
       simp only [encP]
       clear hK hi hE
       gi_wp2_with fail
       exact HK.out _ _ (Below.refl _ _) rfl
      case body =>
       rintro l' pre q a' W ⟨hpre, hM, fv', fs', hS⟩ ⟨j, hpre2, hq⟩ rfl hz ⟨rr, hrr⟩ ⟨dd, hdd⟩
       have hj : j < z.l.length := by have := (List.getElem?_eq_some_iff.1 hq).1; rw [placesL_len] at this; exact this
       have hpl : pre.length = j := by rw [hpre2, List.length_take, placesL_len]; omega
       obtain ⟨c, hx⟩ : ∃ c, z.l[j]? = some c := ⟨z.l[j], List.getElem?_eq_getElem hj⟩
       have hq2 : q = i + 1 + (Tm.pres (z.l.take j)).length := by rw [placesL_get z.l (i + 1) j hj] at hq; exact (Option.some.inj hq).symm
       have hqp : PlaceAt x.pre q c := by rw [hq2]; exact HPAR.out.at_ hx
       rw [hpl] at hS
       have hcl := HFO.out.cls c (List.mem_of_getElem? hx)
       have hcn : 0 ≤ c.n ∧ c.n ≤ 8 := by rw [hcl.1]; exact HFO.out.arity
       have hcok : ∀ y ∈ c.pre, okN y := fun y hy => (hcl.2 y hy).1
       have hsn := clsF_snoc (i + 1) hx
       rw [← hq2] at hsn
       have hlen : (fltP 0 (x.pre.take i) ++ clsF (i + 1) (z.l.take (j + 1))).length ≤ 1000000 := by
        have h1 := fltP_le x.pre (i + 1) 0
        have h2' := HFL.out
        rw [HFT.out, if_pos h2] at h1
        have h3 := clsF_le z.l (j + 1) (i + 1)
        rw [List.length_append] at h1 ⊢
        omega
       rw [hsn, ← List.append_assoc] at hlen
       have HWK : Hid (∀ D, Below W.heap.size W D → Calls Tryz.prog 33 #[.slice (some ⟨LB, 0, none⟩) x.pre.length lc, .int .i64 (q : Int)] D (WalkedTo x.pre (clW (32 - c.n) q c) D)) := fun D hD => walked_any9 x.pre LB lc q c D (hS.under hD).lay hqp hcok hcn
       obtain ⟨FA', fc', hfv', -⟩ := own_slice hS.own
       have HS := Lib.hid hS
       have HM := Lib.hid hM
       have HSN := Lib.hid hsn
       have HLEN := Lib.hid hlen
       have HPL := Lib.hid hpl
       have HPRE := Lib.hid hpre2
       have HQ := Lib.hid hq
       have HRR := Lib.hid hrr
       have HDD := Lib.hid hdd
       have HZW := Lib.hid hz
       clear hpre hpre2 hM hS hq hj hpl hx hq2 hqp hcl hcn hcok hsn hlen hrr hdd hz
       subst hfv'
       refine wpIn_block ?_
       refine wpIn_region_E (S := fun W' => KeepE W W') [17] (by kernel_rfl) (by kernel_rfl) (by rintro ⟨_, _, h⟩; exact h) (KeepE.of_below (Below.refl _ _).drew) (fun hS0 => ?_)
       have hD : Below W.heap.size W W.drew := (Below.refl _ _).drew
       generalize W.drew = D at hS0 hD ⊢
       refine wpAnyE_take (i := 0) (oi := ⟨some 49, _, _, _, _, _⟩) (v := ?_) rfl (by kernel_rfl) (by kernel_rfl) (by kernel_rfl) (by kernel_rfl) (fun _ _ _ h => h) (Or.inl ⟨by kernel_rfl, ?_⟩) (by assumption) ?_; rotate_left; (intro w hSw; (try dsimp only at hSw); have c0 := cell_of_row (i := 0) (hSw.row HS.out.cbox (by decide)) rfl; go_simp; first | done | with_reducible rfl); (try simp only [Act.put, sI, sZ, sS])
       refine wpAnyE_take (i := 1) (oi := ⟨some 50, _, _, _, _, _⟩) (v := ?_) rfl (by kernel_rfl) (by kernel_rfl) (by kernel_rfl) (by kernel_rfl) (fun _ _ _ h => h) (Or.inl ⟨by kernel_rfl, ?_⟩) (by assumption) ?_; rotate_left; (intro w hSw; (try dsimp only at hSw); have c0 := cell_of_row (i := 0) (hSw.row HS.out.cbox (by decide)) rfl; go_simp; first | done | with_reducible rfl); (try simp only [Act.put, sI, sZ, sS])
       refine te0 2 ?_; (try simp only [Act.put, sI, sZ, sS])
       refine te0 3 ?_; (try simp only [Act.put, sI, sZ, sS])
       refine wpAnyE_take (i := 4) (oi := ⟨some 53, _, _, _, _, _⟩) (v := ?_) rfl (by kernel_rfl) (by kernel_rfl) (by kernel_rfl) (by kernel_rfl) (fun _ _ _ h => h) (Or.inl ⟨by kernel_rfl, ?_⟩) (by assumption) ?_; rotate_left; (intro w hSw; (try dsimp only at hSw); have c0 := cell_of_row (i := 2) (hSw.row HS.out.box (by decide)) rfl; go_simp; first | done | with_reducible rfl); (try simp only [Act.put, sI, sZ, sS])
       refine wpAnyE_take (i := 5) (oi := ⟨some 54, _, _, _, _, _⟩) (v := ?_) rfl (by kernel_rfl) (by kernel_rfl) (by kernel_rfl) (by kernel_rfl) (fun _ _ _ h => h) (Or.inl ⟨by kernel_rfl, ?_⟩) (by assumption) ?_; rotate_left; (intro w hSw; (try dsimp only at hSw); have c0 := cell_of_row (i := 0) (hSw.row HS.out.cbox (by decide)) rfl; go_simp; first | done | with_reducible rfl); (try simp only [Act.put, sI, sZ, sS])
       refine te0 6 ?_; (try simp only [Act.put, sI, sZ, sS])
       refine te0 7 ?_; (try simp only [Act.put, sI, sZ, sS])
       refine wpAnyE_take (i := 8) (oi := ⟨some 57, _, _, _, _, _⟩) (v := ?_) rfl (by kernel_rfl) (by kernel_rfl) (by kernel_rfl) (by kernel_rfl) (fun _ _ _ h => h) (Or.inl ⟨by kernel_rfl, ?_⟩) (by assumption) ?_; rotate_left; (intro w hSw; (try dsimp only at hSw); have c0 := cell_of_row (i := 0) (hSw.row HS.out.box (by decide)) rfl; go_simp; first | done | with_reducible rfl); (try simp only [Act.put, sI, sZ, sS])
       refine te0 9 ?_; (try simp only [Act.put, sI, sZ, sS])
       refine wpAnyE_one (i := 10) (o := ⟨some 59, _, _, _, _, _⟩) (by kernel_rfl) rfl (fun K hK => ?_)
       rw [if_pos (by rfl)]
       go_simp
       refine (HWK.out _ hD).mono ?_
       rintro e w1 ⟨X, hX0, hXb, hXP, rfl, hWk⟩
       go_wp2_with fail
       obtain ⟨hXok, -, es3, es4, c3, c4, nv3, ov3, fv3, fs3, hWR⟩ := hWk
       have hbw : Below D.heap.size D w1 := by have h9 := hWR.below; rw [hX0, hXb] at h9; exact h9
       have hb1 : Below W.heap.size W w1 := hD.trans (hbw.mono hD.size)
       have hN1 := HS.out.under hb1
       have cB := cell_of_row (i := 6) hWR.box rfl
       refine hK.out _ _ (KeepE.of_below hb1) (fun hSn => ?_)
       clear hK K; (try simp only [Act.put, sI, sZ, sS])
       refine te0 11 ?_; (try simp only [Act.put, sI, sZ, sS])
       refine te0 12 ?_; (try simp only [Act.put, sI, sZ, sS])
       refine wpAnyE_one (i := 13) (o := ⟨some 62, _, _, _, _, _⟩) (by kernel_rfl) rfl (fun K hK => ?_)
       rw [if_pos (by rfl)]
       go_simp
       refine hK.out _ _ hSn (fun hSn => ?_)
       clear hK K; (try simp only [Act.put, sI, sZ, sS])
       refine wpAnyE_one (i := 14) (o := ⟨some 63, _, _, _, _, _⟩) (by kernel_rfl) rfl (fun K hK => ?_)
       rw [if_pos (by rfl)]
       refine wp_own_row elt_err _ _ rfl hN1.own hN1.below.size rfl hWR.faults rfl (oneCell_errs hWR.errs) (by have h9 := HLEN.out; have h8 := hN1.errs.1; have h7 := hWR.errs.1; rw [List.length_append] at h9; omega) (fun v' V4 O4 G4 A4 => ?_)
       obtain ⟨A5, cp5, rfl, -⟩ := own_slice O4
       refine hK.out _ _ (hSn.grown G4 hN1.own) (fun hSm => ?_)
       clear hK K; (try simp only [Act.put, sI, sZ, sS])
       have f6 : V4.frozen? ⟨CB, 2, none⟩ = false := free_of_row (hN1.box1 G4)
       have c6 := cell_of_row (i := 2) (hN1.box1 G4) rfl
       refine te0 15 ?_; (try simp only [Act.put, sI, sZ, sS])
       refine te0 16 ?_; (try simp only [Act.put, sI, sZ, sS])
       refine wpAnyE_late (i := 17) (o := ⟨none, _, _, _, _, _⟩) (by kernel_rfl) rfl (by kernel_rfl) (fun K hK => ?_)
       rw [if_pos (by rfl)]
       go_simp
       refine hK.out _ _ ?_
       clear hK K; (try simp only [Act.put, sI, sZ, sS])
       refine wpAny_done (by kernel_rfl) ?_ _
       have hz1 := hb1.size
       have hzD := hD.size
       obtain ⟨hN2, hz2, hk2⟩ := hN1.push G4 O4 hWR.errs (by rw [hXb]; have := HS.out.below.size; omega)
       have ncb : ∀ {k : Nat} {o : Obj}, w1.heap[k]? = some o → (∀ c z, o ≠ .cells c 118 z) → k ≠ CB := fun {k o} hk hc e => by
        rw [e, hN1.box] at hk
        exact hc _ _ (Option.some.inj hk).symm
       have rest : ∀ {k : Nat} {o : Obj}, W.heap[k]? = some o → (∀ c z, o ≠ .cells c 118 z) → (∀ c z, o ≠ .cells c 47 z) → (V4.setCell ⟨CB, 2, none⟩ (.slice A5 (fs'.length + fs3.length) cp5)).heap[k]? = some o := fun {k o} hk h1 h2 => by
        have hk1 := (hb1.block _ (heap_lt hk)).trans hk
        exact hk2 k o hk1 (ncb hk1 h1) h2
       have hl1 : (pre ++ [q]).length = j + 1 := by rw [List.length_append, HPL.out]; rfl
       refine ⟨⟨by omega, ?_, ?_⟩, ⟨by omega, fun k c t zz hk ht => rest hk (fun c' z' e => ?_) (fun c' z' e => ?_)⟩, ⟨?_, ?_, .slice A5 (fs'.length + fs3.length) cp5, fs' ++ fs3, ?_⟩⟩
       ·rw [HRR.out]; exact rest HRR.out (fun _ _ e => by cases e) (fun _ _ e => by cases e)
       ·rw [HDD.out]; exact rest HDD.out (fun _ _ e => by cases e) (fun _ _ e => by cases e)
       ·injection e with _ e2 _
        rcases ht with rfl | rfl | rfl <;> exact absurd e2 (by decide)
       ·injection e with _ e2 _
        rcases ht with rfl | rfl | rfl <;> exact absurd e2 (by decide)
       ·rw [hl1, List.take_add_one, HQ.out, ← HPRE.out]; rfl
       ·exact HM.out.keep (Nat.le_refl _) (fun r hr h => rest h (fun _ _ e => by cases e) (fun _ _ e => by cases e))
       ·rw [hl1, HSN.out, ← List.append_assoc]
        exact hN2
      case done =>
       rintro xs W rfl ⟨hpre, hM, fv', fs', hS⟩ hd
       rw [placesL_len, List.take_length] at hS
       have HS := Lib.hid hS
       have HM := Lib.hid hM
       have HD := Lib.hid hd
       have hsz := heap_lt hd
       clear hpre hM hS hd
       gi_wp2_with fail
       have HN : Hid (fltP 0 (x.pre.take (i + 1)) = fltP 0 (x.pre.take i) ++ clsF (i + 1) z.l) := by show _ = _; rw [HFT.out, if_pos h2]
       refine ⟨⟨i + 1, fv', fs', { target := .collected w9.heap.size, args := #[] } :: ds, _, _, _, _, _, _, _, _, _, _, _, _, _, _, _, _, _, HLT.out, by rw [HN.out]; exact HS.out, by have := HLW.out.2; omega, ⟨⟨w9.heap.size, rfl, HLW.out.1, hsz, HD.out, fun d' hd' e => ?_⟩, HM.out.keep (by omega) (fun r hr h => h)⟩, rfl⟩, ?_⟩
       ·obtain ⟨r, e1, e2⟩ := HM.out.mem hd'
        rw [e1] at e
        simp at e
        omega
       ·simp [intOf]; have := HLT.out; omega
      case stop =>
       rintro c pre W _ h
       exact h.elim
     ·have HN : Hid (fltP 0 (x.pre.take (i + 1)) = fltP 0 (x.pre.take i)) := by show _ = _; rw [HFT.out, if_neg h2, List.append_nil]
      gi_wp2_with fail
      rw [← hw6]
      refine ⟨⟨i + 1, fv, fs, ds, _, _, _, _, _, _, _, _, _, _, _, _, _, _, _, _, _, HLT.out, by rw [HN.out]; exact HS6.out, HFM.out, HM6.out, rfl⟩, ?_⟩
      simp [intOf]; have := HLT.out; omega
    ·obtain rfl : i = x.pre.length := by omega
     rw [List.take_length, HFE.out] at hS
     have HS7 := Lib.hid hS
     have HM7 := Lib.hid hM
     have c3 := cell_of_row (i := 0) hS.cbox rfl
     clear hS hi hlt hM
     gi_wp2_with fail
     refine leaves_marks ds _ HS7.out.below.size HM7.out (fun w' hb hk => ?_)
     have hS8 := HS7.out.keepN (HS7.out.below.trans hb) (fun k o hko ho => hk k o hko (fun e => by
      subst e
      rcases ho with ho | rfl
      ·cases ho
      ·obtain ⟨es', c', h1, _⟩ := HS7.out.fns
       rw [hko] at h1; cases h1))
     rw [← hFF] at hS8
     exact ⟨.pointer (some ⟨CB, 0, none⟩), by simp [results, Tryz.f40, go_sem], CB, LB, lc, fm, fv, rfl, hS8.chk, hS8.below⟩
end Go.Proofs.YtmdcdhdjojimeaaGreatDoor
