/- Layer 9: what the checker's rules look into; what they answer. -/
import Derived.Test.YtmdcdhdjojimeaaGreatDoorKSet9
import Derived.Test.YtmdcdhdjojimeaaGreatDoorKLay9
import Derived.Test.YtmdcdhdjojimeaaGreatDoorKLaid9
import Derived.DeepKeys3
import Derived.OrdersIn
import Derived.OwnWalkIn
section
set_option linter.unusedVariables false
set_option linter.unusedSimpArgs false
namespace Go.Proofs.YtmdcdhdjojimeaaGreatDoor
open Go.RowKit

def fnV (f : Fn9) : Value := .agg #[.string f.1, .string f.2.1, .int .i64 f.2.2, .int .i64 0, .int .i64 0]
def FnOk (f : Fn9) : Prop := f.1.size ≤ maxLen ∧ f.2.1.size ≤ maxLen ∧ (-9223372036854775808 ≤ f.2.2 ∧ f.2.2 ≤ 9223372036854775807)
theorem fnV_inj {f g : Fn9} (h : fnV f = fnV g) : f = g := by
 obtain ⟨a, b, c⟩ := f; obtain ⟨d, e, i⟩ := g
 simp [fnV] at h
 obtain ⟨rfl, rfl, rfl⟩ := h
 rfl
theorem fn_law : WideMaps.KeyLaw Tryz.prog 64 := deep_law (m := 3) (by omega) (by kernel_rfl) (by kernel_rfl) (by kernel_rfl)
set_option maxRecDepth 100000 in
theorem fn_key (f : Fn9) (h : FnOk f) : ∃ l, keyOf Tryz.prog 64 (fnV f) = some l := by
 obtain ⟨s, t, n⟩ := f
 obtain ⟨hs, ht, hn⟩ := h
 have hk : Tryz.prog.keyType 64 = true := by kernel_rfl
 have hd : Tryz.prog.types.size + 1 = (Tryz.prog.types.size - 1) + 2 := by have : 1 ≤ Tryz.prog.types.size := of_decide_eq_true (by kernel_rfl); omega
 have hc : Tryz.prog.cellsOf 64 = 5 := by kernel_rfl
 unfold keyOf
 simp only [Tryz.underlying64, hk, Bool.true_and]
 rw [if_pos (by kernel_rfl), hd]
 have cs1 : Tryz.prog.cellsOf 9 = 1 := by kernel_rfl
 have ci1 : Tryz.prog.cellsOf 3 = 1 := by kernel_rfl
 have hw0 : (Lit.int .i64 0).wf = true := by decide
 have hw : (Lit.int .i64 n).wf = true := by unfold Lit.wf; simp only [Bool.and_eq_true, decide_eq_true_eq]; exact hn
 simp only at hs ht
 have ls : ∀ (d : Nat) (b : ByteArray), b.size ≤ maxLen → Tryz.prog.keyLits (d + 1) 9 [.string b] = some [.string b.data.toList] := fun d b hb => by
  unfold Program.keyLits
  simp only [Tryz.underlying9]
  rw [if_pos hb]
 have li : ∀ (d : Nat) (m : Int), (Lit.int .i64 m).wf = true → Tryz.prog.keyLits (d + 1) 3 [.int .i64 m] = some [.int .i64 m] := fun d m hm => by
  unfold Program.keyLits
  simp only [Tryz.underlying3]
  rw [if_pos ⟨trivial, hm⟩]
 unfold Program.keyLits
 simp only [Tryz.underlying64, fnV, Value.cells]
 rw [if_pos ⟨by rw [hc]; rfl, by kernel_rfl⟩]
 simp [cs1, ci1, ls _ _ hs, ls _ _ ht, li _ _ hw, li _ _ hw0]

structure SetF (es : Array MapEntry) (L : List Fn9) : Prop where
 key : ∀ x ∈ es.toList, (∃ f, FnOk f ∧ x.key = fnV f) ∧ x.val = .agg #[]
 mem : ∀ f, (∃ x ∈ es.toList, x.key = fnV f) ↔ f ∈ L
theorem SetF.nil : SetF #[] [] := ⟨by simp, by simp⟩
theorem SetF.ext {es : Array MapEntry} {L M : List Fn9} (h : SetF es L) (e : ∀ f, f ∈ L ↔ f ∈ M) : SetF es M := ⟨h.key, fun s => (h.mem s).trans (e s)⟩
theorem SetF.find {es : Array MapEntry} {L : List Fn9} (h : SetF es L) (w : World) {f : Fn9} (hf : FnOk f) :
  ((Instr.findKey 64 (fnV f) es.toList).run Tryz.prog w = .ok none w ∧ f ∉ L) ∨ ∃ j e, (Instr.findKey 64 (fnV f) es.toList).run Tryz.prog w = .ok (some (j, .agg #[])) w ∧ es[j]? = some e ∧ e.key = fnV f ∧ f ∈ L := by
 obtain ⟨l, hl⟩ := fn_key f hf
 rcases fn_law.find w hl es.toList (fun x hx => by obtain ⟨⟨g, hg, e⟩, _⟩ := h.key x hx; rw [e]; exact fn_key g hg) with ⟨h1, h2⟩ | ⟨j, e, h1, h2, h3⟩
 ·exact .inl ⟨h1, fun hm => by obtain ⟨x, hx, e⟩ := (h.mem f).2 hm; exact h2 x hx e⟩
 ·have hm := List.mem_of_getElem? h2
  rw [(h.key e hm).2] at h1
  exact .inr ⟨j, e, h1, by simpa using h2, h3, (h.mem f).1 ⟨e, hm, h3⟩⟩
theorem zero_unitF (w : World) : (zeroValue 119).run Tryz.prog w = .ok (.agg #[]) w := by kernel_rfl
theorem mkmapF (w : World) : Sem.run Tryz.prog (Instr.makeMap 116 none) w = .ok (.map (some w.heap.size)) (w.alloc (.map #[] 0)) := by kernel_rfl
theorem SetF.look {es : Array MapEntry} {L : List Fn9} (h : SetF es L) (w : World) (mb c : Nat) (hb : w.heap[mb]? = some (.map es c)) {f : Fn9} (hf : FnOk f) :
  (Instr.lookup 116 (.map (some mb)) (fnV f) true).run Tryz.prog w = .ok (.tuple #[.agg #[], .bool (decide (f ∈ L))]) w := by
 obtain ⟨l, hl⟩ := fn_key f hf
 rcases h.find w hf with ⟨h1, h2⟩ | ⟨j, e, h1, _, _, h2⟩
 ·simp [Instr.lookup, run_underlying Tryz.underlying116, MapKept.run_getObj_map hb, fn_law.check w _ hl, h1, zero_unitF, Result.andThen, h2]
 ·simp [Instr.lookup, run_underlying Tryz.underlying116, MapKept.run_getObj_map hb, fn_law.check w _ hl, h1, Result.andThen, h2]
theorem SetF.put {es : Array MapEntry} {L : List Fn9} (h : SetF es L) (w : World) (mb c : Nat) (hb : w.heap[mb]? = some (.map es c)) {f : Fn9} (hf : FnOk f) :
  ∃ es2 c2, (Instr.mapUpdate 116 (.map (some mb)) (fnV f) (.agg #[])).run Tryz.prog w = .ok () (w.putObj mb (.map es2 c2)) ∧ SetF es2 (L ++ [f]) := by
 obtain ⟨l, hl⟩ := fn_key f hf
 rcases h.find w hf with ⟨h1, h2⟩ | ⟨j, e, h1, hj, h3, h2⟩
 ·refine ⟨es.push ⟨fnV f, .agg #[], c⟩, c + 1, ?_, ?_, ?_⟩
  ·simp [Instr.mapUpdate, run_underlying Tryz.underlying116, MapKept.run_getObj_map hb, fn_law.check w _ hl, h1, MapKept.run_setObj_map _ hb, Result.andThen]
   rfl
  ·intro x hx
   simp only [Array.toList_push, List.mem_append, List.mem_singleton] at hx
   rcases hx with hx | rfl
   ·exact h.key x hx
   ·exact ⟨⟨f, hf, rfl⟩, rfl⟩
  ·intro g
   simp only [Array.toList_push, List.mem_append, List.mem_singleton]
   constructor
   ·rintro ⟨x, hx | rfl, e⟩
    ·exact .inl ((h.mem g).1 ⟨x, hx, e⟩)
    ·exact .inr (fnV_inj e).symm
   ·rintro (hg | rfl)
    ·obtain ⟨x, hx, e⟩ := (h.mem g).2 hg; exact ⟨x, .inl hx, e⟩
    ·exact ⟨_, .inr rfl, rfl⟩
 ·have hkey : ∀ e', es[j]? = some e' → ({ e' with key := fnV f, val := .agg #[] } : MapEntry).key = e'.key := fun e' he' => by rw [hj] at he'; cases he'; exact h3.symm
  refine ⟨es.modify j (fun e' => { e' with key := fnV f, val := .agg #[] }), c, ?_, ?_, ?_⟩
  ·simp [Instr.mapUpdate, run_underlying Tryz.underlying116, MapKept.run_getObj_map hb, fn_law.check w _ hl, h1, hj, h3, fn_law.stays w hl, MapKept.run_setObj_map _ hb, Result.andThen]
   rfl
  ·intro x hx
   rcases MapFrom.mem_modify hx with hx | ⟨e', _, rfl⟩
   ·exact h.key x hx
   ·exact ⟨⟨f, hf, rfl⟩, rfl⟩
  ·intro g
   have hk := MapKept.modify_keys (es := es) j (fun e' => { e' with key := fnV f, val := .agg #[] }) hkey
   have e1 : (∃ x ∈ (es.modify j (fun e' => { e' with key := fnV f, val := .agg #[] })).toList, x.key = fnV g) ↔ (∃ x ∈ es.toList, x.key = fnV g) := by
    constructor
    ·rintro ⟨x, hx, e⟩
     have : x.key ∈ (es.modify j (fun e' => { e' with key := fnV f, val := .agg #[] })).toList.map (·.key) := List.mem_map.2 ⟨x, hx, rfl⟩
     rw [hk] at this
     obtain ⟨y, hy, e2⟩ := List.mem_map.1 this
     exact ⟨y, hy, e2.trans e⟩
    ·rintro ⟨x, hx, e⟩
     have : x.key ∈ es.toList.map (·.key) := List.mem_map.2 ⟨x, hx, rfl⟩
     rw [← hk] at this
     obtain ⟨y, hy, e2⟩ := List.mem_map.1 this
     exact ⟨y, hy, e2.trans e⟩
   rw [e1, h.mem g, List.mem_append, List.mem_singleton]
   exact ⟨.inl, fun h => by rcases h with h | rfl; exact h; exact h2⟩
end Go.Proofs.YtmdcdhdjojimeaaGreatDoor
end
section
set_option linter.unusedVariables false
set_option linter.unusedSimpArgs false
namespace Go.Proofs.YtmdcdhdjojimeaaGreatDoor
open Go Go.RowKit
section
variable {P : Program} {ops : Array Oper} {Q : Exit → Act → World → Prop} {md : Region.Mode} {S : World → Prop} {L : Nat → Bool}
theorem rowsIn_wide9 {l n : Nat} {row : String} {args : Array Value} {w : World} {R : Value → World → Prop} (h : Rows P row args w R) : RowsIn (Fence.wide.inRound l) n P row args w R :=
 fun c cs _ => let ⟨v, w', r, s⟩ := h c cs; ⟨v, w', r, stepsIn_wide.2 s⟩
theorem wpIn_of_wp9 {l n : Nat} {o : Oper} {a : Act} {w : World} {K : Act → World → Prop} (hd : ∀ c, o.op ≠ .defer c) (h : o.wp P a w K Q) : o.wpIn (Fence.wide.inRound l) n P a w K Q := by
 refine ⟨fun _ _ => trivial, ?_⟩
 rw [Oper.semAt_plain (Fence.wide.inRound l) _ _ hd]
 unfold Oper.wp at h
 generalize (execOp a.eval o).run P w = r at h ⊢
 match r, h with
 | .ok (.value v) w', h => exact h
 | .ok .skip w', h => exact h
 | .ok (.defer d) w', h => exact h
 | .ok (.enter f args) w', h => exact ⟨fun hh => (by cases hh), callsIn_wide.2 h⟩
 | .ok (.row row args) w', h => exact ⟨fun hh => (by cases hh), rowsIn_wide9 h⟩
 | .halt (.panic v) w', h => exact h
def noDefer (ops : Array Oper) : Bool := ops.toList.all fun o => match o.op with | .defer _ => false | _ => true
theorem noDefer_spec (h : noDefer ops = true) : ∀ (i : Nat) (o : Oper), ops[i]? = some o → ∀ c, o.op ≠ .defer c := by
 intro i o ho c hc
 have := List.all_eq_true.1 h o (Array.mem_toList_iff.2 (Array.mem_of_getElem? ho))
 rw [hc] at this
 cases this
theorem wpAnyIn_of_wpAny9 {l n : Nat} (hd : noDefer ops = true) (hl : ¬ LetsOut Q) : ∀ (fuel : Nat) (listed : Array Bool) (a : Act) (w : World), wpAny P md ops Q fuel listed a w → wpAnyIn (Fence.wide.inRound l) n P md ops Q fuel listed a w
 | 0, _, _, _, h => h
 | fuel + 1, listed, a, w, h => ⟨h.1, fun i hi => by
   have h1 := h.2 i hi
   unfold wpOp at h1
   unfold wpOpIn
   cases ho : ops[i]? with
   | none => rw [ho] at h1; exact wpAnyIn_of_wpAny9 hd hl fuel _ _ _ h1
   | some o =>
    rw [ho] at h1
    simp only at h1 ⊢
    split at h1
    ·rename_i hw
     rw [if_pos hw]
     rcases h1 with h1 | h1
     ·exact Oper.wpIn_mono (fun a w => wpAnyIn_of_wpAny9 hd hl fuel _ a w) (wpIn_of_wp9 (noDefer_spec hd i o ho) h1)
     ·exact (hl h1.2).elim
    ·rename_i hw
     rw [if_neg hw]
     exact ⟨fun _ _ => trivial, wpAnyIn_of_wpAny9 hd hl fuel _ _ _ h1⟩⟩
theorem wpIn_region_E {l n id : Nat} {a : Act} {w : World} (Ls : List Nat) (hm : P.follows .mixedOrders = true) (hd : noDefer ops = true) (hl : ¬ LetsOut Q) (hS : S w.drew)
  (h : S w.drew → wpAnyE P .any ops Q S Ls.contains ops.size (Array.replicate ops.size false) a w.drew) : (Code.region id ops true).wpIn (Fence.wide.inRound l) n P Q a w :=
 wpIn_region_any hm (wpAnyIn_of_wpAny9 hd hl _ _ _ _ (wpAny_of_E _ _ _ _ (h hS)))
end
end Go.Proofs.YtmdcdhdjojimeaaGreatDoor
end
section
set_option linter.unusedVariables false
set_option linter.unusedSimpArgs false
namespace Go.Proofs.YtmdcdhdjojimeaaGreatDoor
open Go.RowKit

def ErrV (V : World) : Option (Int × Nat) → Value → Prop
 | none, v => v = Value.nilIface
 | some (e, p), v => ∃ r, v = .iface 44 (.pointer (some ⟨r, 0, none⟩)) ∧ V.heap[r]? = some (.cells #[.int .i64 9, .int .i64 e, .int .i64 ((p : Nat) : Int)] 51 (0, 0))
theorem ErrV.under {V V' : World} {o : Option (Int × Nat)} {v : Value} (h : ErrV V o v) (b : Below V.heap.size V V') : ErrV V' o v := by
 match o, h with
 | none, h => exact h
 | some (e, p), ⟨r, h1, h2⟩ => exact ⟨r, h1, (b.block _ (heap_lt h2)).trans h2⟩
def FlAt (V : World) (fv : Value) (fl : List (Int × Nat)) : Prop :=
 ∃ A c, fv = .slice A fl.length c ∧ fl.length ≤ c ∧ ∀ (i : Nat) (e : Int) (p : Nat), fl[i]? = some (e, p) → ∃ g o v, A = some ⟨g, o, none⟩ ∧ g < V.heap.size ∧ V.cell? ⟨g, o + i, none⟩ = some v ∧ ErrV V (some (e, p)) v
theorem FlAt.under {V V' : World} {fv : Value} {fl : List (Int × Nat)} (h : FlAt V fv fl) (b : Below V.heap.size V V') : FlAt V' fv fl := by
 obtain ⟨A, c, h1, h2, h3⟩ := h
 refine ⟨A, c, h1, h2, fun i e p hi => ?_⟩
 obtain ⟨g, o, v, e1, e2, e3, e4⟩ := h3 i e p hi
 exact ⟨g, o, v, e1, Nat.lt_of_lt_of_le e2 b.size, (b.cell e2).trans e3, e4.under b⟩
structure Chk (CB LB lc fm : Nat) (fv : Value) (x : Tm) (fl : List (Int × Nat)) (V : World) : Prop where
 box : V.heap[CB]? = some (.cells #[.slice (some ⟨LB, 0, none⟩) x.pre.length lc, .map (some fm), fv] 118 (0, 0))
 lay : LayAt V LB lc x.pre
 fns : ∃ es c, V.heap[fm]? = some (.map es c) ∧ SetF es (fnsW x.l)
 faults : FlAt V fv fl
theorem Chk.under {CB LB lc fm : Nat} {fv : Value} {x : Tm} {fl : List (Int × Nat)} {V V' : World} (h : Chk CB LB lc fm fv x fl V) (b : Below V.heap.size V V') : Chk CB LB lc fm fv x fl V' := by
 obtain ⟨es, c, h1, h2⟩ := h.fns
 obtain ⟨cs, h3, _⟩ := h.lay.row
 exact ⟨(b.block _ (heap_lt h.box)).trans h.box, h.lay.keep (b.block _ (heap_lt h3)), ⟨es, c, (b.block _ (heap_lt h1)).trans h1, h2⟩, h.faults.under b⟩
def RuleTo (o : Option (Int × Nat)) (V : World) (e : Ending) (V' : World) : Prop := ∃ v, e = .returned v ∧ ErrV V' o v ∧ Below V.heap.size V V'

def keyT (x : Tm) : ByteArray × Int := (x.s, x.n)
theorem onceW_at : ∀ (l : List Tm) (seen : List (ByteArray × Int)) (p j : Nat) (x : Tm), l[j]? = some x → (∀ i z, i < j → l[i]? = some z → keyT z ∉ seen ++ (l.take i).map keyT) → keyT x ∈ seen ++ (l.take j).map keyT → onceW seen p l = some (p + (Tm.pres (l.take j)).length)
 | y :: l, seen, p, 0, x, hx, _, hm => by
  simp at hx; subst hx
  rw [onceW, if_pos (by simpa [keyT] using hm)]
  simp [Tm.pres]
 | y :: l, seen, p, j + 1, x, hx, hn, hm => by
  have h0 : ¬ (y.s, y.n) ∈ seen := by have := hn 0 y (by omega) rfl; simpa [keyT] using this
  rw [onceW, if_neg h0, onceW_at l _ _ j x (by simpa using hx) (fun i z hi hz => ?_) (by simpa [keyT] using hm), List.take_succ_cons, nodes_pres_cons]
  ·congr 1; omega
  ·have := hn (i + 1) z (by omega) (by simpa using hz)
   simpa [keyT] using this
theorem onceW_none : ∀ (l : List Tm) (seen : List (ByteArray × Int)) (p : Nat), (∀ i z, l[i]? = some z → keyT z ∉ seen ++ (l.take i).map keyT) → onceW seen p l = none
 | [], _, _, _ => rfl
 | y :: l, seen, p, hn => by
  have h0 : ¬ (y.s, y.n) ∈ seen := by have := hn 0 y rfl; simpa [keyT] using this
  rw [onceW, if_neg h0]
  refine onceW_none l _ _ (fun i z hz => ?_)
  have := hn (i + 1) z (by simpa using hz)
  simpa [keyT] using this
def fnK (x : Tm) : Fn9 := (x.s, ⟨#[]⟩, x.n)
theorem fnK_mem (x : Tm) (L : List Tm) : fnK x ∈ L.map fnK ↔ keyT x ∈ L.map keyT := by
 simp only [List.mem_map, fnK, keyT, Prod.mk.injEq, true_and]
theorem fnV_K (x : Tm) : fnV (fnK x) = .agg #[.string x.s, .string ⟨#[]⟩, .int .i64 x.n, .int .i64 0, .int .i64 0] := rfl
def TmOk (x : Tm) : Prop := x.s.size ≤ maxLen ∧ x.t.size ≤ maxLen ∧ (-9223372036854775808 ≤ x.n ∧ x.n ≤ 9223372036854775807)
theorem fnK_ok {x : Tm} (h : TmOk x) : FnOk (fnK x) := ⟨h.1, Nat.zero_le _, h.2.2⟩
theorem parts_in (P : List Tm) (LB lc p : Nat) (y : Tm) (m : Nat) (w : World) (hL : LayAt w LB lc P) (hP : PlaceAt P p y) :
  CallsIn Fence.wide m Tryz.prog 56 #[.slice (some ⟨LB, 0, none⟩) P.length lc, .int .i64 (p : Int)] w fun e w' => e = .returned (.func (.func 91) #[] #[.pointer (some ⟨w.heap.size + 1, 0, none⟩), .pointer (some ⟨w.heap.size + 2, 0, none⟩), .pointer (some ⟨w.heap.size, 0, none⟩)]) ∧
   w' = ((w.alloc (.cells #[.slice (some ⟨LB, 0, none⟩) P.length lc] 66)).alloc (.cells #[.int .i64 ((p + 1 : Nat) : Int)] 3)).alloc (.cells #[.int .i64 ((p + y.nodes : Nat) : Int)] 3) := by
 have hle := hP.le
 have hlen := hL.len
 obtain ⟨A, cap, -, -, -, -, -, s5⟩ := hL.spot hP.get
 obtain ⟨E, hE⟩ : ∃ E : Nat, E = p + y.nodes := ⟨_, rfl⟩
 rw [← hE] at s5 ⊢
 have hp1 : (p : Int) < (P.length : Int) := by have := Tm.pre_ne y; unfold Tm.nodes at hle; omega
 have hp0 : (0 : Int) ≤ (p : Int) := by omega
 have hp2 : (p : Int) < 4096 := by omega
 have had := add6 LB p
 have hpp : ((p + 1 : Nat) : Int) = (p : Int) + 1 := by omega
 rw [hpp]
 clear hpp hE hle hL hP
 refine callsIn_of_wp Tryz.func56 rfl trivial ?_ rfl
 simp only [Tryz.ntmps56, List.size_toArray, List.length_cons, List.length_nil, Nat.reduceAdd, Nat.reduceSub, Array.replicate_succ, Array.replicate_zero, List.push_toArray, List.append_toArray, List.nil_append, List.cons_append]
 gi_wp2_with fail
 refine ⟨trivial, fun h => (by cases h), ?_⟩
 refine (between_in _ _ _ _ _ _ _).mono ?_
 rintro e w' ⟨rfl, rfl⟩
 gi_wp2_with fail
 go_ret
 exact ⟨rfl, rfl⟩
end Go.Proofs.YtmdcdhdjojimeaaGreatDoor
end
