/- Layer 9: what Check's contract asks of a tree, out of where it lies and how great it is. -/
import Derived.Test.YtmdcdhdjojimeaaGreatDoorKNewC9
section
set_option linter.unusedVariables false
set_option linter.unusedSimpArgs false
namespace Go.Proofs.YtmdcdhdjojimeaaGreatDoor
open Go.RowKit Go.Shelf

def ruleV (f CB : Nat) : Value := .func (.func f) #[.pointer (some ⟨CB, 0, none⟩)] #[]
theorem rules_any (CB : Nat) (w : World) :
  Calls Tryz.prog 41 #[.pointer (some ⟨CB, 0, none⟩)] w fun e w' => e = .returned (.slice (some ⟨w.heap.size, 0, none⟩) 5 5) ∧
   w' = w.alloc (.cells #[ruleV 57 CB, ruleV 58 CB, ruleV 59 CB, ruleV 60 CB, ruleV 61 CB] 91) := by
 go_enter Tryz.func41, Tryz.ntmps41
 go_wp2
 go_ret
 exact ⟨rfl, rfl⟩
def ref9 (x : Tm) : Option (Int × Nat) := if fitsB x = true ∧ modsB x = true then rules9 x else some (70, 0)
def orF (a b : Option (Int × Nat)) : Option (Int × Nat) := match a with | some r => some r | none => b
theorem rules9_or (x : Tm) : rules9 x = orF ((onceW [] 1 x.l).map (fun q => ((91 : Int), q))) (orF ((onceM 1 x.l).map (fun q => ((91 : Int), q))) (orF (findF 90 (modsF 1 x.l)) (orF (thereW (fnsW x.l) ⟨#[]⟩ 0 x.pre) (findF 11 (modsF 1 x.l))))) := by
 unfold rules9
 cases onceW [] 1 x.l with
 | some p => rfl
 | none => cases onceM 1 x.l with
  | some p => rfl
  | none => rfl
set_option maxHeartbeats 16000000 in
set_option maxRecDepth 100000 in
theorem refusal_any (x : Tm) (nv : Value) (w : World) (hT : TmAt (· < w.heap.size) w x nv) (hN : x.nodes ≤ 8200) (hE : Env7 w) (hok : ∀ z ∈ x.pre, TmOk z ∧ z.l.length ≤ 100000)
  (hfl : fitsB x = true → modsB x = true → (modsF 1 x.l).length ≤ 1000000) (hL : (fns9T x).length ≤ 100000) :
  Calls Tryz.prog 22 #[nv] w (RuleTo (ref9 x) w) := by
 obtain ⟨k, n, s, t, L, A, cap, hx, rfl⟩ : ∃ k' n' s' t' L' A' cap', x = Tm.mk k' n' s' t' L' ∧ nv = .agg #[.int .i8 k', .int .i64 n', .string s', .string t', .slice A' L'.length cap'] := by
  cases hT; exact ⟨_, _, _, _, _, _, _, rfl, rfl⟩
 obtain ⟨w1, hw1⟩ : ∃ w1, w1 = w.alloc (.cells #[.int .i8 k, .int .i64 n, .string s, .string t, .slice A L.length cap] 25) := ⟨_, rfl⟩
 have b1 : Below w.heap.size w w1 := by rw [hw1]; exact (Below.refl _ _).alloc (Nat.le_refl _) _
 have g1 : w1.heap[w.heap.size]? = some (.cells #[.int .i8 k, .int .i64 n, .string s, .string t, .slice A L.length cap] 25 (0, 0)) := by rw [hw1]; exact block_alloc _ _
 have d0 := cell_of_row (i := 0) g1 rfl
 have d1 := cell_of_row (i := 1) g1 rfl
 have d2 := cell_of_row (i := 2) g1 rfl
 have d3 := cell_of_row (i := 3) g1 rfl
 have d4 := cell_of_row (i := 4) g1 rfl
 have hTW : ∀ W, Below w.heap.size w W → TmAt (· < W.heap.size) W x (.agg #[.int .i8 k, .int .i64 n, .string s, .string t, .slice A L.length cap]) := fun W hW => (hT.under hW (Nat.le_refl _)).mono (fun b hb => Nat.lt_of_lt_of_le hb hW.size)
 have HCK := Lib.hid (check7_ok x _ w1 (hTW w1 b1) hN (hE.under b1))
 have HTW := Lib.hid hTW
 have HE := Lib.hid hE
 have HB1 := Lib.hid b1
 have HG1 := Lib.hid g1
 have HO := Lib.hid (And.intro hN (And.intro hok (And.intro hfl hL)))
 clear hT hN hE hok hfl hL hTW b1 g1 hx
 rw [hw1] at d0 d1 d2 d3 d4
 go_enter Tryz.func22, Tryz.ntmps22
 go_wp2_with fail
 rw [← hw1]
 clear hw1 d0 d1 d2 d3 d4
 refine HCK.out.mono ?_
 rintro e w2 ⟨rfl, b2⟩
 rcases checkR_or x with ⟨e0, hf, hm⟩ | ⟨e0, hno⟩
 ·rw [e0]
  have hb2 : Below w.heap.size w w2 := HB1.out.trans (b2.mono HB1.out.size)
  have hg2 := (b2.block _ (heap_lt HG1.out)).trans HG1.out
  have d0 := cell_of_row (i := 0) hg2 rfl
  have d1 := cell_of_row (i := 1) hg2 rfl
  have d2 := cell_of_row (i := 2) hg2 rfl
  have d3 := cell_of_row (i := 3) hg2 rfl
  have d4 := cell_of_row (i := 4) hg2 rfl
  have hN := HO.out.1
  have hn4 : x.nodes ≤ 4096 := by have h9 := hf; unfold fitsB at h9; exact (of_decide_eq_true h9).1
  have HNC := Lib.hid (newChecker_any x _ w2 (HTW.out w2 hb2) hn4 (HE.out.under hb2) hf hm (fun z hz => (HO.out.2.1 z hz).1) (HO.out.2.2.1 hf hm) HO.out.2.2.2)
  have href : ref9 x = rules9 x := if_pos ⟨hf, hm⟩
  have HB2 := Lib.hid hb2
  have HREF := Lib.hid (href.trans (rules9_or x))
  have hfl := HO.out.2.2.1 hf hm
  have HFL := Lib.hid hfl
  clear b2 hb2 hg2 hN hn4 href e0 hf hm hfl
  go_wp2_with fail
  refine HNC.out.mono ?_
  rintro e w3 ⟨CB, LB, lc, fm, fv, rfl, hC, hb3⟩
  have hok := HO.out.2.1
  have hfl := HFL.out
  have H0 : Hid (∀ V, Below w3.heap.size w3 V → Calls Tryz.prog 57 #[.pointer (some ⟨CB, 0, none⟩)] V (RuleTo ((onceW [] 1 x.l).map (fun q => ((91 : Int), q))) V)) := fun V hV => by have h := hC.under hV; exact modulesOnce_any CB LB lc fm fv x _ V h (fun z hz => (hok z (part_pre hz (self_pre z))).1)
  have H1 : Hid (∀ V, Below w3.heap.size w3 V → Calls Tryz.prog 58 #[.pointer (some ⟨CB, 0, none⟩)] V (RuleTo ((onceM 1 x.l).map (fun q => ((91 : Int), q))) V)) := fun V hV => by have h := hC.under hV; exact functionsOnce_any CB LB lc fm fv x _ V h ⟨[], by simp⟩ (fun m hm z hz => (hok z (part_pre hm (part_pre hz (self_pre z)))).1)
  have H2 : Hid (∀ V, Below w3.heap.size w3 V → Calls Tryz.prog 59 #[.pointer (some ⟨CB, 0, none⟩)] V (RuleTo (findF 90 (modsF 1 x.l)) V)) := fun V hV => by have h := hC.under hV; exact namesBound_any CB LB lc fm fv x _ V h (by omega)
  have H3 : Hid (∀ V, Below w3.heap.size w3 V → Calls Tryz.prog 60 #[.pointer (some ⟨CB, 0, none⟩)] V (RuleTo (thereW (fnsW x.l) ⟨#[]⟩ 0 x.pre) V)) := fun V hV => by have h := hC.under hV; exact functionsThere_any CB LB lc fm fv x _ V h hok
  have H4 : Hid (∀ V, Below w3.heap.size w3 V → Calls Tryz.prog 61 #[.pointer (some ⟨CB, 0, none⟩)] V (RuleTo (findF 11 (modsF 1 x.l)) V)) := fun V hV => by have h := hC.under hV; exact slotsEnough_any CB LB lc fm fv x _ V h (by omega)
  have HB3 : Hid (Below w.heap.size w w3) := HB2.out.trans (hb3.mono HB2.out.size)
  clear hC hb3 hok hfl d0 d1 d2 d3 d4
  go_wp2_with fail
  refine (rules_any CB w3).mono ?_
  rintro e w4 ⟨rfl, rfl⟩
  have g4 := block_alloc w3 (.cells #[ruleV 57 CB, ruleV 58 CB, ruleV 59 CB, ruleV 60 CB, ruleV 61 CB] 91)
  have b4 : Below w3.heap.size w3 (w3.alloc (.cells #[ruleV 57 CB, ruleV 58 CB, ruleV 59 CB, ruleV 60 CB, ruleV 61 CB] 91)) := (Below.refl _ _).alloc (Nat.le_refl _) _
  generalize w3.alloc (.cells #[ruleV 57 CB, ruleV 58 CB, ruleV 59 CB, ruleV 60 CB, ruleV 61 CB] 91) = V0 at g4 b4 ⊢
  generalize w3.heap.size = rb at g4 ⊢
  have G0 := Lib.hid g4
  have B0 := Lib.hid b4
  clear g4 b4
  go_wp2_with fail
  refine wp_loop_rounds 6 ?_
  generalize hO0 : ((onceW [] 1 x.l).map (fun q => ((91 : Int), q))) = o0 at *
  generalize hO1 : ((onceM 1 x.l).map (fun q => ((91 : Int), q))) = o1 at *
  generalize hO2 : (findF 90 (modsF 1 x.l)) = o2 at *
  generalize hO3 : (thereW (fnsW x.l) ⟨#[]⟩ 0 x.pre) = o3 at *
  generalize hO4 : (findF 11 (modsF 1 x.l)) = o4 at *
  clear hO0 hO1 hO2 hO3 hO4
  have c0 : V0.cell? ⟨rb, 0, none⟩ = some (.func (.func 57) #[.pointer (some ⟨CB, 0, none⟩)] #[]) := cell_of_row (i := 0) G0.out rfl
  rw [rounds_succ]
  go_wp2_with fail
  refine (H0.out V0 B0.out).mono ?_
  rintro e V1 ⟨v, rfl, hv, hb⟩
  clear c0
  have B1 := Lib.hid (B0.out.trans (hb.mono B0.out.size))
  have G1 := Lib.hid ((hb.block _ (heap_lt G0.out)).trans G0.out)
  clear hb
  rcases o0 with _ | ⟨e9, p9⟩
  rotate_left
  ·obtain ⟨r, rfl, h9⟩ := hv
   have H9 := Lib.hid h9
   clear h9
   go_wp2_with fail
   go_ret
   exact ⟨_, rfl, by rw [HREF.out]; exact ⟨r, rfl, H9.out⟩, HB3.out.trans (B1.out.mono HB3.out.size)⟩
  obtain rfl : v = Value.nilIface := hv
  go_wp2_with fail
  have c1 : V1.cell? ⟨rb, 1, none⟩ = some (.func (.func 58) #[.pointer (some ⟨CB, 0, none⟩)] #[]) := cell_of_row (i := 1) G1.out rfl
  rw [rounds_succ]
  go_wp2_with fail
  refine (H1.out V1 B1.out).mono ?_
  rintro e V2 ⟨v, rfl, hv, hb⟩
  clear c1
  have B2 := Lib.hid (B1.out.trans (hb.mono B1.out.size))
  have G2 := Lib.hid ((hb.block _ (heap_lt G1.out)).trans G1.out)
  clear hb
  rcases o1 with _ | ⟨e9, p9⟩
  rotate_left
  ·obtain ⟨r, rfl, h9⟩ := hv
   have H9 := Lib.hid h9
   clear h9
   go_wp2_with fail
   go_ret
   exact ⟨_, rfl, by rw [HREF.out]; exact ⟨r, rfl, H9.out⟩, HB3.out.trans (B2.out.mono HB3.out.size)⟩
  obtain rfl : v = Value.nilIface := hv
  go_wp2_with fail
  have c2 : V2.cell? ⟨rb, 2, none⟩ = some (.func (.func 59) #[.pointer (some ⟨CB, 0, none⟩)] #[]) := cell_of_row (i := 2) G2.out rfl
  rw [rounds_succ]
  go_wp2_with fail
  refine (H2.out V2 B2.out).mono ?_
  rintro e V3 ⟨v, rfl, hv, hb⟩
  clear c2
  have B3 := Lib.hid (B2.out.trans (hb.mono B2.out.size))
  have G3 := Lib.hid ((hb.block _ (heap_lt G2.out)).trans G2.out)
  clear hb
  rcases o2 with _ | ⟨e9, p9⟩
  rotate_left
  ·obtain ⟨r, rfl, h9⟩ := hv
   have H9 := Lib.hid h9
   clear h9
   go_wp2_with fail
   go_ret
   exact ⟨_, rfl, by rw [HREF.out]; exact ⟨r, rfl, H9.out⟩, HB3.out.trans (B3.out.mono HB3.out.size)⟩
  obtain rfl : v = Value.nilIface := hv
  go_wp2_with fail
  have c3 : V3.cell? ⟨rb, 3, none⟩ = some (.func (.func 60) #[.pointer (some ⟨CB, 0, none⟩)] #[]) := cell_of_row (i := 3) G3.out rfl
  rw [rounds_succ]
  go_wp2_with fail
  refine (H3.out V3 B3.out).mono ?_
  rintro e V4 ⟨v, rfl, hv, hb⟩
  clear c3
  have B4 := Lib.hid (B3.out.trans (hb.mono B3.out.size))
  have G4 := Lib.hid ((hb.block _ (heap_lt G3.out)).trans G3.out)
  clear hb
  rcases o3 with _ | ⟨e9, p9⟩
  rotate_left
  ·obtain ⟨r, rfl, h9⟩ := hv
   have H9 := Lib.hid h9
   clear h9
   go_wp2_with fail
   go_ret
   exact ⟨_, rfl, by rw [HREF.out]; exact ⟨r, rfl, H9.out⟩, HB3.out.trans (B4.out.mono HB3.out.size)⟩
  obtain rfl : v = Value.nilIface := hv
  go_wp2_with fail
  have c4 : V4.cell? ⟨rb, 4, none⟩ = some (.func (.func 61) #[.pointer (some ⟨CB, 0, none⟩)] #[]) := cell_of_row (i := 4) G4.out rfl
  rw [rounds_succ]
  go_wp2_with fail
  refine (H4.out V4 B4.out).mono ?_
  rintro e V5 ⟨v, rfl, hv, hb⟩
  clear c4
  have B5 := Lib.hid (B4.out.trans (hb.mono B4.out.size))
  have G5 := Lib.hid ((hb.block _ (heap_lt G4.out)).trans G4.out)
  clear hb
  rcases o4 with _ | ⟨e9, p9⟩
  rotate_left
  ·obtain ⟨r, rfl, h9⟩ := hv
   have H9 := Lib.hid h9
   clear h9
   go_wp2_with fail
   go_ret
   exact ⟨_, rfl, by rw [HREF.out]; exact ⟨r, rfl, H9.out⟩, HB3.out.trans (B5.out.mono HB3.out.size)⟩
  obtain rfl : v = Value.nilIface := hv
  go_wp2_with fail
  rw [rounds_succ]
  go_wp2_with fail
  go_ret
  exact ⟨_, rfl, by rw [HREF.out]; rfl, HB3.out.trans (B5.out.mono HB3.out.size)⟩
 ·rw [e0]
  have hb2 : Below w.heap.size w w2 := HB1.out.trans (b2.mono HB1.out.size)
  have HB2 := Lib.hid hb2
  have HR : Hid (ref9 x = some (70, 0)) := if_neg hno
  clear b2 hb2 e0 hno
  go_wp2_with fail
  refine (refused_any _ _ _).mono ?_
  rintro e w9 ⟨rfl, rfl⟩
  have g9 := Lib.hid (block_alloc w2 (.cells #[.int .i64 9, .int .i64 70, .int .i64 0] 51))
  have b9 := Lib.hid (HB2.out.alloc HB2.out.size (.cells #[.int .i64 9, .int .i64 70, .int .i64 0] 51))
  go_wp2_with fail
  go_ret
  exact ⟨_, rfl, by rw [HR.out]; exact ⟨_, rfl, g9.out⟩, b9.out⟩
end Go.Proofs.YtmdcdhdjojimeaaGreatDoor
end
section
set_option linter.unusedVariables false
set_option linter.unusedSimpArgs false
namespace Go.Proofs.YtmdcdhdjojimeaaGreatDoor
open Go.RowKit Go.Shelf Go.Stop Go.Extern.Stop Go.Extern

noncomputable def ext9 (fn : Func) : Array Value → Sem Value := (Extern.find fn).getD (fun _ => pure (.tuple #[]))
noncomputable def hb9 : Nat := Tryz.prog.globals.size
theorem asNil9 (t : Value) (w : World) : Calls Tryz.prog 21 #[.nilIface, t] w fun e w' => e = .returned (.bool false) ∧ w' = w := by
 go_enter Tryz.func21, Tryz.ntmps21
 go_wp2
 go_ret
 exact ⟨rfl, rfl⟩
theorem f_valueOf (t : Addr) (w : World) : (ext9 Tryz.f35 #[.iface 49 (.pointer (some t))]).run Tryz.prog w = .ok (.agg #[.pointer (some ⟨hb9, 49, none⟩), .pointer (some ⟨w.heap.size, 0, none⟩), .int .u64 150]) (w.alloc (.cells #[.pointer (some t)] 49)) := by kernel_rfl
theorem f_valueOfE (e : Addr) (w : World) : (ext9 Tryz.f35 #[.iface 44 (.pointer (some e))]).run Tryz.prog w = .ok (.agg #[.pointer (some ⟨hb9, 44, none⟩), .pointer (some ⟨w.heap.size, 0, none⟩), .int .u64 150]) (w.alloc (.cells #[.pointer (some e)] 44)) := by kernel_rfl
theorem f_type (a : Addr) (w : World) : (ext9 Tryz.f36 #[.agg #[.pointer (some ⟨hb9, 49, none⟩), .pointer (some a), .int .u64 150]]).run Tryz.prog w = .ok (.iface 105 (.agg #[.pointer (some ⟨hb9, 49, none⟩)])) w := by kernel_rfl
theorem f_kindTT  (w : World) : (ext9 Tryz.f179 #[.pointer (some ⟨hb9, 49, none⟩)]).run Tryz.prog w = .ok (.int .u8 22) w := by kernel_rfl
theorem f_kindT  (w : World) : (ext9 Tryz.f179 #[.pointer (some ⟨hb9, 44, none⟩)]).run Tryz.prog w = .ok (.int .u8 22) w := by kernel_rfl
theorem f_elem  (w : World) : (ext9 Tryz.f191 #[.agg #[.pointer (some ⟨hb9, 49, none⟩)]]).run Tryz.prog w = .ok (.iface 105 (.agg #[.pointer (some ⟨hb9, 44, none⟩)])) w := by kernel_rfl
theorem f_impl  (w : World) : (ext9 Tryz.f192 #[.agg #[.pointer (some ⟨hb9, 44, none⟩)], .iface 105 (.agg #[.pointer (some ⟨hb9, 47, none⟩)])]).run Tryz.prog w = .ok (.bool true) w := by kernel_rfl
theorem f_typeOf (v : Value) (w : World) : (ext9 Tryz.f53 #[.iface 44 v]).run Tryz.prog w = .ok (.iface 105 (.agg #[.pointer (some ⟨hb9, 44, none⟩)])) w := by kernel_rfl
theorem f_asg  (w : World) : (ext9 Tryz.f189 #[.agg #[.pointer (some ⟨hb9, 44, none⟩)], .iface 105 (.agg #[.pointer (some ⟨hb9, 44, none⟩)])]).run Tryz.prog w = .ok (.bool true) w := by kernel_rfl
theorem x_isNil : ext9 Tryz.f37 = ReflectliteValue.method (ReflectliteValue.valueError "reflectlite.Value.IsNil" 0) ReflectliteValue.isNil := by kernel_rfl
theorem x_velem : ext9 Tryz.f54 = ReflectliteValue.method (ReflectliteValue.valueError "reflectlite.Value.Elem" 0) ReflectliteValue.elem := by kernel_rfl
theorem p_TT (a : Addr) (w : World) : (ReflectliteValue.parts (.agg #[.pointer (some ⟨hb9, 49, none⟩), .pointer (some a), .int .u64 150])).run Tryz.prog w = .ok (some (49, a, 150)) w := by kernel_rfl
theorem un_method (z : Sem Value) (g : TypeId → Addr → Nat → Nat → Sem Value) (v : Value) : ReflectliteValue.method z g #[v] = (do match ← ReflectliteValue.parts v with | none => z | some (t, a, fl) => g t a fl (fl % 32)) := rfl
theorem f_isNil (a p : Addr) (W : World) (ha : W.cell? a = some (.pointer (some p))) : (ext9 Tryz.f37 #[.agg #[.pointer (some ⟨hb9, 49, none⟩), .pointer (some a), .int .u64 150]]).run Tryz.prog W = .ok (.bool false) W := by
 rw [x_isNil, un_method]
 simp only [Sem.run_bind, p_TT, Result.andThen]
 simp [ReflectliteValue.isNil, loadVar, isAgg, underlying, Tryz.underlying49, ha, Result.andThen]
theorem elemOf_TT (w : World) : (Rtype.elem? 49).run Tryz.prog w = .ok (some 44) w := by kernel_rfl
theorem mk_T (p : Addr) (w : World) : (ReflectliteValue.mk 44 p ReflectliteValue.flagAddr).run Tryz.prog w = .ok (.agg #[.pointer (some ⟨hb9, 44, none⟩), .pointer (some p), .int .u64 406]) w := by kernel_rfl
theorem f_velem (a p : Addr) (W : World) (ha : W.cell? a = some (.pointer (some p))) : (ext9 Tryz.f54 #[.agg #[.pointer (some ⟨hb9, 49, none⟩), .pointer (some a), .int .u64 150]]).run Tryz.prog W = .ok (.agg #[.pointer (some ⟨hb9, 44, none⟩), .pointer (some p), .int .u64 406]) W := by
 rw [x_velem, un_method]
 simp only [Sem.run_bind, p_TT, Result.andThen]
 simp [ReflectliteValue.elem, loadVar, isAgg, underlying, Tryz.underlying49, ha, Result.andThen, elemOf_TT, mk_T]
theorem size_T (w : World) : (sizeOf 44).run Tryz.prog w = .ok 1 w := by kernel_rfl
theorem f_vset0 (ta b : Addr) (W : World) : (ext9 Tryz.f55 #[.agg #[.pointer (some ⟨hb9, 44, none⟩), .pointer (some ta), .int .u64 406], .agg #[.pointer (some ⟨hb9, 44, none⟩), .pointer (some b), .int .u64 150]]).run Tryz.prog W = (do let v ← load b; storeVar 44 ta v; pure (Value.tuple #[])).run Tryz.prog W := by kernel_rfl
theorem f_vset (ta b e : Addr) (old : Value) (W : World) (hb : W.cell? b = some (.pointer (some e))) (ht : W.cell? ta = some old) (hf : W.frozen? ta = false) :
  (ext9 Tryz.f55 #[.agg #[.pointer (some ⟨hb9, 44, none⟩), .pointer (some ta), .int .u64 406], .agg #[.pointer (some ⟨hb9, 44, none⟩), .pointer (some b), .int .u64 150]]).run Tryz.prog W = .ok (.tuple #[]) (W.setCell ta (.pointer (some e))) := by
 rw [f_vset0]
 simp [hb, Result.andThen, storeVar, Value.cells, storeCells, Addr.add, size_T]
 rw [run_store Tryz.prog W ta _ _ (by rfl)]
 simp [ht, hf]
theorem m_kind (n : Nat) (h : Value) (w : World) : (Go.method (n + 1) 105 (.agg #[h]) "Kind").run Tryz.prog w = .ok (179, h) w := by kernel_rfl
theorem m_elem (n : Nat) (h : Value) (w : World) : (Go.method (n + 1) 105 (.agg #[h]) "Elem").run Tryz.prog w = .ok (191, .agg #[h]) w := by kernel_rfl
theorem m_impl (n : Nat) (h : Value) (w : World) : (Go.method (n + 1) 105 (.agg #[h]) "Implements").run Tryz.prog w = .ok (192, .agg #[h]) w := by kernel_rfl
theorem m_asg (n : Nat) (h : Value) (w : World) : (Go.method (n + 1) 105 (.agg #[h]) "AssignableTo").run Tryz.prog w = .ok (189, .agg #[h]) w := by kernel_rfl
set_option maxHeartbeats 4000000 in
set_option maxRecDepth 100000 in
theorem as_any (e k : Nat) (w : World) (hg : w.cell? ⟨0, 0, none⟩ = some (.iface 105 (.agg #[.pointer (some ⟨hb9, 47, none⟩)]))) (hk : w.heap[k]? = some (.cells #[.pointer none] 44 (0, 0))) :
  Calls Tryz.prog 21 #[.iface 44 (.pointer (some ⟨e, 0, none⟩)), .iface 49 (.pointer (some ⟨k, 0, none⟩))] w fun r w' => r = .returned (.bool true) ∧ w'.heap[k]? = some (.cells #[.pointer (some ⟨e, 0, none⟩)] 44 (0, 0)) ∧ Mod (fun j => j = k) w w' := by
 have h0 := @run_callFunc_extern Tryz.prog 35 _ (ext9 Tryz.f35) Tryz.func35 (by kernel_rfl) (by kernel_rfl) (by kernel_rfl) (by kernel_rfl)
 have h1 := @run_callFunc_extern Tryz.prog 36 _ (ext9 Tryz.f36) Tryz.func36 (by kernel_rfl) (by kernel_rfl) (by kernel_rfl) (by kernel_rfl)
 have h2 := @run_callFunc_extern Tryz.prog 37 _ (ext9 Tryz.f37) Tryz.func37 (by kernel_rfl) (by kernel_rfl) (by kernel_rfl) (by kernel_rfl)
 have h3 := @run_callFunc_extern Tryz.prog 179 _ (ext9 Tryz.f179) Tryz.func179 (by kernel_rfl) (by kernel_rfl) (by kernel_rfl) (by kernel_rfl)
 have h4 := @run_callFunc_extern Tryz.prog 191 _ (ext9 Tryz.f191) Tryz.func191 (by kernel_rfl) (by kernel_rfl) (by kernel_rfl) (by kernel_rfl)
 have h5 := @run_callFunc_extern Tryz.prog 192 _ (ext9 Tryz.f192) Tryz.func192 (by kernel_rfl) (by kernel_rfl) (by kernel_rfl) (by kernel_rfl)
 have h6 := @run_callFunc_extern Tryz.prog 53 _ (ext9 Tryz.f53) Tryz.func53 (by kernel_rfl) (by kernel_rfl) (by kernel_rfl) (by kernel_rfl)
 have h7 := @run_callFunc_extern Tryz.prog 189 _ (ext9 Tryz.f189) Tryz.func189 (by kernel_rfl) (by kernel_rfl) (by kernel_rfl) (by kernel_rfl)
 have h8 := @run_callFunc_extern Tryz.prog 54 _ (ext9 Tryz.f54) Tryz.func54 (by kernel_rfl) (by kernel_rfl) (by kernel_rfl) (by kernel_rfl)
 have h9 := @run_callFunc_extern Tryz.prog 55 _ (ext9 Tryz.f55) Tryz.func55 (by kernel_rfl) (by kernel_rfl) (by kernel_rfl) (by kernel_rfl)
 have g_valueOf := f_valueOf
 have g_valueOfE := f_valueOfE
 have g_type := f_type
 have g_kindTT := f_kindTT
 have g_kindT := f_kindT
 have g_elem := f_elem
 have g_impl := f_impl
 have g_typeOf := f_typeOf
 have g_asg := f_asg
 have g1 := m_kind
 have g2 := m_elem
 have g3 := m_impl
 have g4 := m_asg
 have hlt := heap_lt hk
 have h0 : 0 < w.heap.size := World.block_lt_of_cell? _ _ hg
 have hA : (w.alloc (.cells #[.pointer (some ⟨k, 0, none⟩)] 49)).heap[w.heap.size]? = some (.cells #[.pointer (some ⟨k, 0, none⟩)] 49 (0, 0)) := block_alloc _ _
 have b2 : Below w.heap.size w ((w.alloc (.cells #[.pointer (some ⟨k, 0, none⟩)] 49)).alloc (.cells #[.pointer (some ⟨hb9, 49, none⟩), .pointer (some ⟨w.heap.size, 0, none⟩), .int .u64 150] 77)) := ((Below.refl _ _).alloc (Nat.le_refl _) _).alloc (by simp) _
 have b23 : Below (w.heap.size + 1) (w.alloc (.cells #[.pointer (some ⟨k, 0, none⟩)] 49)) ((w.alloc (.cells #[.pointer (some ⟨k, 0, none⟩)] 49)).alloc (.cells #[.pointer (some ⟨hb9, 49, none⟩), .pointer (some ⟨w.heap.size, 0, none⟩), .int .u64 150] 77)) := (Below.refl _ _).alloc (by simp) _
 have b3 : Below (w.heap.size + 1) (w.alloc (.cells #[.pointer (some ⟨k, 0, none⟩)] 49)) (((w.alloc (.cells #[.pointer (some ⟨k, 0, none⟩)] 49)).alloc (.cells #[.pointer (some ⟨hb9, 49, none⟩), .pointer (some ⟨w.heap.size, 0, none⟩), .int .u64 150] 77)).alloc (.cells #[.pointer (some ⟨hb9, 49, none⟩), .pointer (some ⟨w.heap.size, 0, none⟩), .int .u64 150] 77)) := b23.alloc (by simp) _
 have b4 : Below w.heap.size w ((((w.alloc (.cells #[.pointer (some ⟨k, 0, none⟩)] 49)).alloc (.cells #[.pointer (some ⟨hb9, 49, none⟩), .pointer (some ⟨w.heap.size, 0, none⟩), .int .u64 150] 77)).alloc (.cells #[.pointer (some ⟨hb9, 49, none⟩), .pointer (some ⟨w.heap.size, 0, none⟩), .int .u64 150] 77)).alloc (.cells #[.pointer (some ⟨e, 0, none⟩)] 44)) := (b2.alloc (by simp; omega) _).alloc (by simp; omega) _
 have hg2 := (b2.cell (p := ⟨0, 0, none⟩) h0).trans hg
 have n8 := f_isNil ⟨w.heap.size, 0, none⟩ ⟨k, 0, none⟩ ((w.alloc (.cells #[.pointer (some ⟨k, 0, none⟩)] 49)).alloc (.cells #[.pointer (some ⟨hb9, 49, none⟩), .pointer (some ⟨w.heap.size, 0, none⟩), .int .u64 150] 77)) (cell_of_row ((b23.block _ (by omega)).trans hA) rfl)
 have el := f_velem ⟨w.heap.size, 0, none⟩ ⟨k, 0, none⟩ (((w.alloc (.cells #[.pointer (some ⟨k, 0, none⟩)] 49)).alloc (.cells #[.pointer (some ⟨hb9, 49, none⟩), .pointer (some ⟨w.heap.size, 0, none⟩), .int .u64 150] 77)).alloc (.cells #[.pointer (some ⟨hb9, 49, none⟩), .pointer (some ⟨w.heap.size, 0, none⟩), .int .u64 150] 77)) (cell_of_row ((b3.block _ (by omega)).trans hA) rfl)
 have hk4 := (b4.block _ hlt).trans hk
 have hC := block_alloc (((w.alloc (.cells #[.pointer (some ⟨k, 0, none⟩)] 49)).alloc (.cells #[.pointer (some ⟨hb9, 49, none⟩), .pointer (some ⟨w.heap.size, 0, none⟩), .int .u64 150] 77)).alloc (.cells #[.pointer (some ⟨hb9, 49, none⟩), .pointer (some ⟨w.heap.size, 0, none⟩), .int .u64 150] 77)) (.cells #[.pointer (some ⟨e, 0, none⟩)] 44)
 have st := f_vset ⟨k, 0, none⟩ ⟨(((w.alloc (.cells #[.pointer (some ⟨k, 0, none⟩)] 49)).alloc (.cells #[.pointer (some ⟨hb9, 49, none⟩), .pointer (some ⟨w.heap.size, 0, none⟩), .int .u64 150] 77)).alloc (.cells #[.pointer (some ⟨hb9, 49, none⟩), .pointer (some ⟨w.heap.size, 0, none⟩), .int .u64 150] 77)).heap.size, 0, none⟩ ⟨e, 0, none⟩ _ ((((w.alloc (.cells #[.pointer (some ⟨k, 0, none⟩)] 49)).alloc (.cells #[.pointer (some ⟨hb9, 49, none⟩), .pointer (some ⟨w.heap.size, 0, none⟩), .int .u64 150] 77)).alloc (.cells #[.pointer (some ⟨hb9, 49, none⟩), .pointer (some ⟨w.heap.size, 0, none⟩), .int .u64 150] 77)).alloc (.cells #[.pointer (some ⟨e, 0, none⟩)] 44)) (cell_of_row hC rfl) (cell_of_row hk4 rfl) (free_of_row hk4)
 simp only [World.size_alloc] at st
 have HM := Lib.hid (And.intro (set_row (i := 0) (.pointer (some ⟨e, 0, none⟩)) hk4) ((Mod.of_below b4).trans (Mod.setCell (F := fun j => j = k) ((((w.alloc (.cells #[.pointer (some ⟨k, 0, none⟩)] 49)).alloc (.cells #[.pointer (some ⟨hb9, 49, none⟩), .pointer (some ⟨w.heap.size, 0, none⟩), .int .u64 150] 77)).alloc (.cells #[.pointer (some ⟨hb9, 49, none⟩), .pointer (some ⟨w.heap.size, 0, none⟩), .int .u64 150] 77)).alloc (.cells #[.pointer (some ⟨e, 0, none⟩)] 44)) ⟨k, 0, none⟩ (.pointer (some ⟨e, 0, none⟩)) (.inl rfl)) (fun _ _ h => h)))
 clear hA b2 b23 b3 b4 hk4 hC hk
 go_enter Tryz.func21, Tryz.ntmps21
 go_wp2
 refine wp_loop_rounds 1 ?_
 rw [rounds_succ]
 go_wp2
 go_ret
 exact ⟨rfl, HM.out.1, HM.out.2⟩
end Go.Proofs.YtmdcdhdjojimeaaGreatDoor
end
section
set_option linter.unusedVariables false
set_option linter.unusedSimpArgs false
namespace Go.Proofs.YtmdcdhdjojimeaaGreatDoor
open Go.RowKit Go.Shelf

theorem chk9_ref (x : Tm) : chk9 x = (ref9 x).getD (0, 0) := by
 unfold chk9 ref9
 by_cases h : fitsB x = true ∧ modsB x = true
 ·rw [if_pos h, if_pos h]
 ·rw [if_neg h, if_neg h]; rfl
set_option maxHeartbeats 8000000 in
set_option maxRecDepth 100000 in
theorem rcheck_any (x : Tm) (nv : Value) (w : World) (hT : TmAt (· < w.heap.size) w x nv) (hN : x.nodes ≤ 8200) (hE : Env7 w) (hg : w.cell? ⟨0, 0, none⟩ = some (.iface 105 (.agg #[.pointer (some ⟨hb9, 47, none⟩)]))) (hok : ∀ z ∈ x.pre, TmOk z ∧ z.l.length ≤ 100000)
  (hfl : fitsB x = true → modsB x = true → (modsF 1 x.l).length ≤ 1000000) (hL : (fns9T x).length ≤ 100000) :
  Calls Tryz.prog 6 #[nv] w fun e w' => e = .returned (.tuple #[.int .i64 (((chk9 x).2 : Nat) : Int), .int .i64 (chk9 x).1]) ∧ Below w.heap.size w w' := by
 obtain ⟨k, n, s, t, L, A, cap, hx, rfl⟩ : ∃ k' n' s' t' L' A' cap', x = Tm.mk k' n' s' t' L' ∧ nv = .agg #[.int .i8 k', .int .i64 n', .string s', .string t', .slice A' L'.length cap'] := by
  cases hT; exact ⟨_, _, _, _, _, _, _, rfl, rfl⟩
 obtain ⟨w2, hw2⟩ : ∃ w2, w2 = (w.alloc (.cells #[.int .i8 k, .int .i64 n, .string s, .string t, .slice A L.length cap] 25)).alloc (.cells #[.pointer none] 44) := ⟨_, rfl⟩
 have z1 : (w.alloc (.cells #[.int .i8 k, .int .i64 n, .string s, .string t, .slice A L.length cap] 25)).heap.size = w.heap.size + 1 := World.size_alloc _ _
 have b2 : Below w.heap.size w w2 := by rw [hw2]; exact ((Below.refl _ _).alloc (Nat.le_refl _) _).alloc (by omega) _
 have g1 : w2.heap[w.heap.size]? = some (.cells #[.int .i8 k, .int .i64 n, .string s, .string t, .slice A L.length cap] 25 (0, 0)) := by rw [hw2]; exact (Below.heap_alloc _ _ _ (by omega)).trans (block_alloc _ _)
 have g2 : w2.heap[w.heap.size + 1]? = some (.cells #[.pointer none] 44 (0, 0)) := by rw [hw2, ← z1]; exact block_alloc _ _
 have d0 := cell_of_row (i := 0) g1 rfl
 have d1 := cell_of_row (i := 1) g1 rfl
 have d2 := cell_of_row (i := 2) g1 rfl
 have d3 := cell_of_row (i := 3) g1 rfl
 have d4 := cell_of_row (i := 4) g1 rfl
 have HREF := Lib.hid (refusal_any x _ w2 ((hT.under b2 (Nat.le_refl _)).mono (fun b hb => Nat.lt_of_lt_of_le hb b2.size)) hN (hE.under b2) hok hfl hL)
 have HG := Lib.hid hg
 have HB2 := Lib.hid b2
 have HG2 := Lib.hid g2
 clear hT hN hE hg hok hfl hL b2 g1 g2 z1 hx
 rw [hw2] at d0 d1 d2 d3 d4
 rw [chk9_ref]
 generalize ref9 x = o at HREF ⊢
 go_enter Tryz.func6, Tryz.ntmps6
 go_wp2_with fail
 rw [← hw2]
 clear hw2 d0 d1 d2 d3 d4
 refine HREF.out.mono ?_
 rintro e w3 ⟨v, rfl, hv, b3⟩
 clear HREF
 rcases o with _ | ⟨e9, p9⟩
 ·obtain rfl : v = Value.nilIface := hv
  have HB3 := Lib.hid b3
  clear b3
  go_wp2_with fail
  refine (asNil9 _ _).mono ?_
  rintro e w4 ⟨rfl, rfl⟩
  go_wp2_with fail
  go_ret2
  exact ⟨rfl, HB2.out.trans (HB3.out.mono HB2.out.size)⟩
 ·obtain ⟨r, rfl, hr⟩ := hv
  have hb3 : Below w.heap.size w w3 := HB2.out.trans (b3.mono HB2.out.size)
  have hk3 := (b3.block _ (heap_lt HG2.out)).trans HG2.out
  have hg3 := (hb3.cell (p := ⟨0, 0, none⟩) (World.block_lt_of_cell? _ _ HG.out)).trans HG.out
  have HAS := Lib.hid (as_any r (w.heap.size + 1) w3 hg3 hk3)
  have hne : r ≠ w.heap.size + 1 := fun e => by rw [e, hk3] at hr; injection hr with hr; injection hr with _ e2 _; exact absurd e2 (by decide)
  have HR := Lib.hid hr
  have HNE := Lib.hid hne
  have HB := Lib.hid hb3
  clear b3 hr hb3 hk3 hg3 hne HB2
  go_wp2_with fail
  refine HAS.out.mono ?_
  rintro e w4 ⟨rfl, hk4, hm4⟩
  have HK3 := Lib.hid hk4
  have HE3 := Lib.hid ((hm4.block _ (heap_lt HR.out) HNE.out).trans HR.out)
  have HB4 : Hid (Below w.heap.size w w4) := HB.out.trans (hm4.below HB.out.size (fun i e => by omega))
  clear hk4 hm4
  generalize w4 = w3 at HK3 HE3 HB4 ⊢
  go_wp2_with fail
  refine wp_region_E (S := fun W' => Below w3.heap.size w3 W') [] (by kernel_rfl) ((Below.refl _ _).drew) (fun hS0 => ?_)
  generalize w3.drew = D at hS0 ⊢
  refine wpAnyE_take (i := 0) (oi := ⟨some 9, _, _, _, _, _⟩) (v := ?_) rfl (by kernel_rfl) (by kernel_rfl) (by kernel_rfl) (by kernel_rfl) (fun _ _ _ h => h) (Or.inl ⟨by kernel_rfl, ?_⟩) (by assumption) ?_; rotate_left; (intro w hSw; (try dsimp only at hSw); have c4 := cell_of_row (i := 0) ((hSw.block _ (heap_lt HK3.out)).trans HK3.out) rfl; go_simp; first | done | with_reducible rfl); (try simp only [Act.put, sI, sZ, sS])
  refine te0 1 ?_; (try simp only [Act.put, sI, sZ, sS])
  refine te0 2 ?_; (try simp only [Act.put, sI, sZ, sS])
  refine wpAnyE_take (i := 3) (oi := ⟨some 12, _, _, _, _, _⟩) (v := ?_) rfl (by kernel_rfl) (by kernel_rfl) (by kernel_rfl) (by kernel_rfl) (fun _ _ _ h => h) (Or.inl ⟨by kernel_rfl, ?_⟩) (by assumption) ?_; rotate_left; (intro w hSw; (try dsimp only at hSw); have c4 := cell_of_row (i := 2) ((hSw.block _ (heap_lt HE3.out)).trans HE3.out) rfl; go_simp; first | done | with_reducible rfl); (try simp only [Act.put, sI, sZ, sS])
  refine wpAnyE_take (i := 4) (oi := ⟨some 13, _, _, _, _, _⟩) (v := ?_) rfl (by kernel_rfl) (by kernel_rfl) (by kernel_rfl) (by kernel_rfl) (fun _ _ _ h => h) (Or.inl ⟨by kernel_rfl, ?_⟩) (by assumption) ?_; rotate_left; (intro w hSw; (try dsimp only at hSw); have c4 := cell_of_row (i := 0) ((hSw.block _ (heap_lt HK3.out)).trans HK3.out) rfl; go_simp; first | done | with_reducible rfl); (try simp only [Act.put, sI, sZ, sS])
  refine te0 5 ?_; (try simp only [Act.put, sI, sZ, sS])
  refine te0 6 ?_; (try simp only [Act.put, sI, sZ, sS])
  refine wpAnyE_take (i := 7) (oi := ⟨some 16, _, _, _, _, _⟩) (v := ?_) rfl (by kernel_rfl) (by kernel_rfl) (by kernel_rfl) (by kernel_rfl) (fun _ _ _ h => h) (Or.inl ⟨by kernel_rfl, ?_⟩) (by assumption) ?_; rotate_left; (intro w hSw; (try dsimp only at hSw); have c4 := cell_of_row (i := 1) ((hSw.block _ (heap_lt HE3.out)).trans HE3.out) rfl; go_simp; first | done | with_reducible rfl); (try simp only [Act.put, sI, sZ, sS])
  refine te0 8 ?_; (try simp only [Act.put, sI, sZ, sS])
  refine te0 9 ?_; (try simp only [Act.put, sI, sZ, sS])
  refine wpAnyE_done (by kernel_rfl) ?_ _
  go_wp2_with fail
  go_ret2
  exact ⟨rfl, HB4.out.trans (hS0.mono HB4.out.size)⟩
end Go.Proofs.YtmdcdhdjojimeaaGreatDoor
end
section
set_option linter.unusedVariables false
set_option linter.unusedSimpArgs false
namespace Go.Proofs.YtmdcdhdjojimeaaGreatDoor
open Go.RowKit Go.Shelf

theorem tm_ok {p : Nat → Prop} {w : World} (x : Tm) : ∀ {v : Value}, TmAt p w x v → x.nodes ≤ 8200 → ∀ z ∈ x.pre, TmOk z ∧ z.l.length ≤ 100000 := by
 induction x using Tm.ind with
 | h k n s t l ih =>
 intro v hT hN z hz
 obtain ⟨A, cap, hcs, hR, hk, hn, hs, ht⟩ := hT.parts
 rw [Tm.pre] at hz
 have hnl : ∀ m : List Tm, m.length ≤ (Tm.pres m).length := by
  intro m
  induction m with
  | nil => exact Nat.zero_le _
  | cons y m ihm => rw [Tm.pres, List.length_append, List.length_cons]; have := Tm.pre_ne y; omega
 rcases List.mem_cons.1 hz with rfl | hz
 ·refine ⟨⟨hs, ht, hn⟩, ?_⟩
  have := hnl l
  rw [nodes_mk9] at hN
  show l.length ≤ 100000
  omega
 ·obtain ⟨y, hy, hzy⟩ := mem_presX hz
  obtain ⟨i, hi⟩ := List.getElem?_of_mem hy
  obtain ⟨ad, u, rfl, had, hEl, hTy⟩ := hR.at_ i y hi
  have hyn := Tm.nodes_mem hy
  rw [nodes_mk9] at hN
  exact ih y hy hTy (by omega) z hzy
theorem fns_le : ∀ (l : List Tm), (fnsT l).length ≤ (Tm.pres l).length
 | [] => Nat.zero_le _
 | m :: l => by
  rw [fnsT, Tm.pres, List.length_append, List.length_append, List.length_map]
  have h1 := fns_le l
  have h2 : m.l.length ≤ m.pre.length := by
   obtain ⟨k, n, s, t, q⟩ := m
   rw [Tm.pre, List.length_cons]
   show q.length ≤ _
   have : ∀ m : List Tm, m.length ≤ (Tm.pres m).length := by
    intro m
    induction m with
    | nil => exact Nat.zero_le _
    | cons y m ihm => rw [Tm.pres, List.length_append, List.length_cons]; have := Tm.pre_ne y; omega
   have := this q
   omega
  omega
theorem fns9_le (x : Tm) (h : x.nodes ≤ 8200) : (fns9T x).length ≤ 100000 := by
 unfold fns9T
 by_cases hc : fitsB x = true ∧ modsB x = true
 ·rw [if_pos hc]
  have h1 := fns_le x.l
  obtain ⟨k, n, s, t, l⟩ := x
  rw [nodes_mk9] at h
  have h2 : (fnsT l).length ≤ (Tm.pres l).length := h1
  show (fnsT l).length ≤ _
  omega
 ·rw [if_neg hc]; exact Nat.zero_le _
theorem clW_le (most : Int) (p : Nat) (c : Tm) : (clW most p c).fl.length ≤ c.nodes := by
 have h : (⟨[], [], []⟩ : Wk).lee 0 := ⟨Nat.le_refl _, Nat.le_refl _, Nat.le_refl _⟩
 have := (lee_over most c _ p 0 h).2.2
 rw [Nat.zero_add] at this
 exact this
theorem clsF_len : ∀ (l : List Tm) (p : Nat), (clsF p l).length ≤ (Tm.pres l).length
 | [], _ => Nat.zero_le _
 | c :: l, p => by
  rw [clsF, List.length_append, nodes_pres_cons]
  have h1 := clW_le (32 - c.n) p c
  have h2 := clsF_len l (p + c.nodes)
  omega
theorem pres_le9 (x : Tm) : (Tm.pres x.l).length ≤ x.nodes := by
 obtain ⟨k, n, s, t, l⟩ := x
 rw [nodes_mk9]
 show (Tm.pres l).length ≤ _
 omega
theorem funsF_len : ∀ (l : List Tm) (p : Nat), (funsF p l).length ≤ (Tm.pres l).length
 | [], _ => Nat.zero_le _
 | c :: l, p => by
  rw [funsF, List.length_append, nodes_pres_cons]
  have h1 := clsF_len c.l (p + 1)
  have h2 := funsF_len l (p + c.nodes)
  have h3 := pres_le9 c
  omega
theorem modsF_len : ∀ (l : List Tm) (p : Nat), (modsF p l).length ≤ (Tm.pres l).length
 | [], _ => Nat.zero_le _
 | c :: l, p => by
  rw [modsF, List.length_append, nodes_pres_cons]
  have h1 := funsF_len c.l (p + 1)
  have h2 := modsF_len l (p + c.nodes)
  have h3 := pres_le9 c
  omega
theorem check9_any (x : Tm) (nv : Value) (w : World) (hT : TmAt (· < w.heap.size) w x nv) (hN : x.nodes ≤ 8200) (hE : Env7 w) (hg : w.cell? ⟨0, 0, none⟩ = some (.iface 105 (.agg #[.pointer (some ⟨hb9, 47, none⟩)]))) :
  Calls Tryz.prog 6 #[nv] w fun e w' => e = .returned (.tuple #[.int .i64 (((chk9 x).2 : Nat) : Int), .int .i64 (chk9 x).1]) ∧ Below w.heap.size w w' :=
 rcheck_any x nv w hT hN hE hg (tm_ok x hT hN) (fun _ _ => by have := modsF_len x.l 1; have := pres_le9 x; omega) (fns9_le x hN)
end Go.Proofs.YtmdcdhdjojimeaaGreatDoor
end
