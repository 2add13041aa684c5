/- Layer 11: the value of a guard expression, under names: guard.under. -/
import Derived.Test.YtkceoiaaiaomoaaGreatDoorKGd5
import Derived.Test.YtkceoiaaiaomoaaGreatDoorKPub7
set_option linter.unusedVariables false
set_option linter.unusedSimpArgs false
namespace Go.Proofs.YtkceoiaaiaomoaaGreatDoor
open Go.RowKit

def putT (l : List Bd) (k n : Int) (s : ByteArray) (vs : List Tm) : Option Tm :=
  if k = 5 then varT l s else if k = 6 then some (intT n) else if k = 7 then some (atmT s) else if k = 8 then some nilT11
  else if k = 9 then consR vs else if k = 10 then tupR vs else if k = 11 then opR s vs else none
mutual
def gvT (l : List Bd) : Tm → Option Tm
  | .mk k n s t ps => (gvTs l ps).bind (putT l k n s)
def gvTs (l : List Bd) : List Tm → Option (List Tm)
  | [] => some []
  | x :: ps => match gvT l x, gvTs l ps with | some v, some vs => some (v :: vs) | _, _ => none
end
theorem gvTs_O (l : List Bd) : ∀ ps, gvTs l ps = gvTsO (gvT l) ps
  | [] => by rw [gvTs, gvTsO]
  | x :: ps => by rw [gvTs, gvTsO, gvTs_O l ps]; cases gvT l x <;> cases gvTsO (gvT l) ps <;> rfl
theorem gvT_mk (l : List Bd) (k n : Int) (s t : ByteArray) (ps : List Tm) : gvT l (.mk k n s t ps) = (gvTsO (gvT l) ps).bind (putT l k n s) := by rw [gvT, gvTs_O]
theorem PutP.mono {r : Option Tm} {Q Q' : Nat → Prop} {w w' : World} {e : Ending} (h : PutP r Q w e w') (hQ : ∀ b, Q b → Q' b) : PutP r Q' w e w' := by
  obtain ⟨k, n, s, t, A, m, c, ec, h1, h2, h3, h4⟩ := h
  exact ⟨k, n, s, t, A, m, c, ec, h1, fun y hy => ⟨(h2 y hy).1, (h2 y hy).2.mono (fun b hb => hb.imp (hQ b) id)⟩, h3, h4⟩
theorem gua_cases {k n : Int} {s t : ByteArray} {ps : List Tm} (h : guaB (.mk k n s t ps) = true) : ((k = 5 ∨ k = 6 ∨ k = 7 ∨ k = 8) ∧ ps = []) ∨ (k = 10 ∧ ∀ y ∈ ps, guaB y = true) ∨ (k = 9 ∧ ps.length = 2 ∧ ∀ y ∈ ps, guaB y = true) ∨ (k = 11 ∧ ps.length = 2 ∧ ∀ y ∈ ps, guaB y = true) := by
  unfold guaB at h
  rw [guasB_eq] at h
  simp only [Bool.or_eq_true, Bool.and_eq_true, beq_iff_eq, List.all_eq_true, leafB, List.isEmpty_iff] at h
  rcases h with ⟨⟨h1, _⟩, h2⟩ | ⟨⟨⟨h2, _⟩, _⟩, h3⟩
  · exact .inl ⟨by rcases h2 with ((h2 | h2) | h2) | h2 <;> simp [h2], h1⟩
  · rcases h2 with (h2 | h2) | h2
    · exact .inr (.inl ⟨h2.1, h3⟩)
    · exact .inr (.inr (.inl ⟨h2.1.1, h2.2, h3⟩))
    · exact .inr (.inr (.inr ⟨h2.1.1, h2.2, h3⟩))
theorem len_pres11 : ∀ m : List Tm, m.length ≤ (Tm.pres m).length
  | [] => Nat.zero_le _
  | y :: m => by rw [Tm.pres, List.length_append, List.length_cons]; have := len_pres11 m; have := Tm.pre_ne y; omega
theorem two_of {vs : List Tm} (h : vs.length = 2) : ∃ a b, vs = [a, b] := by
  match vs, h with
  | [a, b], _ => exact ⟨a, b, rfl⟩
set_option maxHeartbeats 4000000 in
set_option maxRecDepth 100000 in
theorem val_any (n0 : Nat) (w0 : World) (l : List Bd) (gv gp gm : Nat) (x : Tm) : guaB x = true → x.nodes ≤ 100000 → ∀ v W, Und n0 w0 l gv gp gm W → TmAt (· < W.heap.size) W x v →
    Calls Tryz.prog 160 #[v, .pointer (some ⟨gv, 0, none⟩), .pointer (some ⟨gp, 0, none⟩)] W (ValP (gvT l x) n0 W) := by
  induction x using Tm.ind with
  | h k n s t ps ih =>
    intro hg hn v W hU hT
    obtain ⟨A0, cap0, -, -, hk0, hn0, hs0, ht0⟩ := hT.parts
    have hnn : (Tm.pres ps).length + 1 ≤ 100000 := by rw [Tm.nodes_mk] at hn; exact hn
    have hpl : ps.length ≤ 100000 := by have := len_pres11 ps; omega
    have hgp : ∀ y ∈ ps, guaB y = true := by
      rcases gua_cases hg with h | h | h | h
      · rw [h.2]; intro y hy; cases hy
      · exact h.2
      · exact h.2.2
      · exact h.2.2
    have ih' : ∀ y ∈ ps, ∀ v V, Und n0 w0 l gv gp gm V → TmAt (· < V.heap.size) V y v → Calls Tryz.prog 160 #[v, .pointer (some ⟨gv, 0, none⟩), .pointer (some ⟨gp, 0, none⟩)] V (ValP (gvT l y) n0 V) :=
      fun y hy v V hu ht => ih y hy (hgp y hy) (by have := Tm.nodes_mem hy; omega) v V hu ht
    rw [gvT_mk]
    have hlen : ∀ vs, gvTsO (gvT l) ps = some vs → vs.length = ps.length := fun vs h => gvTsO_len h
    rcases gua_cases hg with ⟨h, -⟩ | ⟨h, -⟩ | ⟨h, h2, -⟩ | ⟨h, h2, -⟩
    · rcases h with rfl | rfl | rfl | rfl
      · refine val_stepV n0 w0 l gv gp gm (gvT l) 5 n s t ps (by decide) rfl (putT l 5 n s) ?_ ih' hpl v W hU hT
        intro vs V A cap PA pn pc Q hvs hu hq0 hqlt htr
        obtain ⟨es, mc, hm, hM⟩ := hu.map
        exact (putVar_any l 5 n s t A ps.length cap (.slice PA pn pc) n0 gm mc w0 es V hm hM hu.below hu.n0).mono (fun e w' h => h.mono hq0)
      · refine val_step n0 w0 l gv gp gm (gvT l) 6 n s t ps 213 (by decide) rfl (enters_of Tryz.func213 (by kernel_rfl) rfl) (putT l 6 n s) ?_ ih' hpl v W hU hT
        intro vs V A cap PA pn pc Q hvs hu hq0 hqlt htr
        exact put1_any 6 n s t A ps.length cap (.slice PA pn pc) Q V hn0 hs0
      · refine val_step n0 w0 l gv gp gm (gvT l) 7 n s t ps 214 (by decide) rfl (enters_of Tryz.func214 (by kernel_rfl) rfl) (putT l 7 n s) ?_ ih' hpl v W hU hT
        intro vs V A cap PA pn pc Q hvs hu hq0 hqlt htr
        exact put2_any 7 n s t A ps.length cap (.slice PA pn pc) Q V hn0 hs0
      · refine val_step n0 w0 l gv gp gm (gvT l) 8 n s t ps 215 (by decide) rfl (enters_of Tryz.func215 (by kernel_rfl) rfl) (putT l 8 n s) ?_ ih' hpl v W hU hT
        intro vs V A cap PA pn pc Q hvs hu hq0 hqlt htr
        exact put3_any 8 n s t A ps.length cap (.slice PA pn pc) Q V hn0 hs0
    · subst h
      refine val_step n0 w0 l gv gp gm (gvT l) 10 n s t ps 217 (by decide) rfl (enters_of Tryz.func217 (by kernel_rfl) rfl) (putT l 10 n s) ?_ ih' hpl v W hU hT
      intro vs V A cap PA pn pc Q hvs hu hq0 hqlt htr
      exact putTup_any vs 10 n s t A ps.length cap PA pn pc Q V hqlt htr hu.spans (by rw [hlen vs hvs]; omega)
    · subst h
      refine val_step n0 w0 l gv gp gm (gvT l) 9 n s t ps 216 (by decide) rfl (enters_of Tryz.func216 (by kernel_rfl) rfl) (putT l 9 n s) ?_ ih' hpl v W hU hT
      intro vs V A cap PA pn pc Q hvs hu hq0 hqlt htr
      obtain ⟨a, b, rfl⟩ := two_of (by rw [hlen vs hvs]; exact h2)
      exact putCons_any a b 9 n s t A ps.length cap PA pn pc Q V hqlt htr hu.spans
    · subst h
      refine val_step n0 w0 l gv gp gm (gvT l) 11 n s t ps 218 (by decide) rfl (enters_of Tryz.func218 (by kernel_rfl) rfl) (putT l 11 n s) ?_ ih' hpl v W hU hT
      intro vs V A cap PA pn pc Q hvs hu hq0 hqlt htr
      obtain ⟨a, b, rfl⟩ := two_of (by rw [hlen vs hvs]; exact h2)
      exact putOp_any a b 11 n s t A ps.length cap PA pn pc Q V hqlt htr
set_option maxHeartbeats 2000000 in
set_option maxRecDepth 100000 in
theorem putters_any (gm : Nat) (w : World) : Calls Tryz.prog 158 #[.map (some gm)] w fun e w' => e = .returned (.agg (putsRow gm)) ∧ Below w.heap.size w w' := by
  unfold putsRow
  go_enter Tryz.func158, Tryz.ntmps158
  go_wp2_with fail
  refine bodyPost_ret (v := .agg _) (by simp [results, Tryz.f158, go_sem]) rfl ⟨rfl, (Below.refl _ w).alloc (Nat.le_refl _) _⟩
set_option maxHeartbeats 2000000 in
set_option maxRecDepth 100000 in
theorem under_in (n0 n1 : Nat) (l : List Bd) (A : Option Addr) (m cap : Nat) (W : World) (hR : BRT n0 n1 W A m cap l) (hn1 : n1 ≤ W.heap.size) (hS : Spans W) :
    Calls Tryz.prog 97 #[.slice A m cap] W fun e w' => ∃ gv gp gm, e = .returned (vf11 gv gp) ∧ Und n0 W l gv gp gm w' ∧ Below W.heap.size W w' := by
  obtain rfl := hR.len
  have HC := Lib.hid (firsts_in n0 n1 l A cap W hR hn1)
  have HS := Lib.hid hS
  have HN0 : Hid (n0 ≤ W.heap.size) := Nat.le_trans hR.le hn1
  clear hR hS hn1
  go_enter Tryz.func97, Tryz.ntmps97
  go_wp2_with fail
  refine HC.out.mono ?_
  rintro e W1 ⟨rfl, b1, es, c, hm, hM⟩
  have HB1 := Lib.hid b1
  have HM := Lib.hid hm
  have HMB := Lib.hid hM
  clear b1 hm hM
  go_wp2_with fail
  refine (putters_any _ W1).mono ?_
  rintro e W2 ⟨rfl, b2⟩
  have HB2 := Lib.hid (HB1.out.trans (b2.mono HB1.out.size))
  have HM2 := Lib.hid ((b2.block _ (heap_lt HM.out)).trans HM.out)
  clear b2
  unfold putsRow
  go_wp2_with fail
  go_ret
  have b3 := (Below.refl _ W2).alloc (Nat.le_refl _) (.cells (putsRow W.heap.size) 182)
  have hg := block_alloc W2 (.cells (putsRow W.heap.size) 182)
  have b4 := HB2.out.trans ((b3.alloc (by simp) (.cells #[vf11 (W2.heap.size + 1) W2.heap.size] 134)).mono HB2.out.size)
  refine ⟨W2.heap.size + 1, W2.heap.size, W.heap.size, rfl, ⟨(here_of (.cells #[vf11 (W2.heap.size + 1) W2.heap.size] 134) (World.size_alloc _ _)).1, there_of (.cells #[vf11 (W2.heap.size + 1) W2.heap.size] 134) hg, ⟨es, c, there_of (.cells #[vf11 (W2.heap.size + 1) W2.heap.size] 134) (there_of (.cells (putsRow W.heap.size) 182) HM2.out), HMB.out⟩, b4.mono HN0.out, HN0.out, HS.out.below b4 HS.out.lt⟩, b4⟩
theorem under_any (n0 : Nat) (l : List Bd) (A : Option Addr) (m cap : Nat) (W : World) (hR : BRow (· < n0) W A m cap l) (hn0 : n0 ≤ W.heap.size) (hS : Spans W) :
    Calls Tryz.prog 97 #[.slice A m cap] W fun e w' => ∃ gv gp gm, e = .returned (vf11 gv gp) ∧ Und n0 W l gv gp gm w' ∧ Below W.heap.size W w' :=
  under_in n0 n0 l A m cap W hR.brt hn0 hS
theorem BRow.mono11 {n0 n1 : Nat} {w : World} {A : Option Addr} {n cap : Nat} {l : List Bd} (h : BRow (· < n0) w A n cap l) (hn : n0 ≤ n1) : BRow (· < n1) w A n cap l := h.keep (fun _ _ => rfl) (fun b hb => Nat.lt_of_lt_of_le hb hn)
def okG (l : List Bd) (x : Tm) : Bool := (fitsB x && guaB x) && mayL l
def valE (l : List Bd) (x : Tm) : Int := if okG l x = true then (match gvT l x with | some _ => 0 | none => 93) else 2
def valV (l : List Bd) (x : Tm) : Tm := if okG l x = true then (gvT l x).getD (intT 0) else intT 0
def VofP (l : List Bd) (x : Tm) (n0 : Nat) (w : World) (e : Ending) (w' : World) : Prop :=
  ∃ (k n : Int) (s t : ByteArray) (A : Option Addr) (m c : Nat) (ev : Value), e = .returned (.tuple #[.agg #[.int .i8 k, .int .i64 n, .string s, .string t, .slice A m c], ev]) ∧
    ((valE l x = 0 ∧ ev = .nilIface ∧ TmAt (fun b => b < n0 ∨ (w.heap.size ≤ b ∧ b < w'.heap.size)) w' (valV l x) (.agg #[.int .i8 k, .int .i64 n, .string s, .string t, .slice A m c])) ∨
     (valE l x ≠ 0 ∧ valV l x = intT 0 ∧ ∃ q, ev = .iface 69 (.pointer (some ⟨q, 0, none⟩)) ∧ w'.heap[q]? = some (.cells #[.int .i64 11, .int .i64 (valE l x), .int .i64 0] 76 (0, 0)))) ∧ Below w.heap.size w w'
set_option maxHeartbeats 8000000 in
set_option maxRecDepth 100000 in
theorem valueOf_in (n0 n1 : Nat) (l : List Bd) (x : Tm) (v : Value) (A : Option Addr) (m cap : Nat) (W : World) (hT : TmAt (· < W.heap.size) W x v) (hR : BRT n0 n1 W A m cap l) (hn1 : n1 ≤ W.heap.size) (hN : x.nodes ≤ 8200) (hE : Env7 W) :
    Calls Tryz.prog 90 #[v, .slice A m cap] W (VofP l x n0 W) := by
  obtain ⟨X, hX⟩ : ∃ X, X = x := ⟨_, rfl⟩
  obtain ⟨k, n, s, t, ps⟩ := x
  obtain ⟨NA, nc, rfl, hRn, -⟩ := hT.parts
  rw [← hX] at hT hN ⊢
  have HX := Lib.hid hX
  clear hX
  have g0 := there_of (.cells #[.int .i8 0, .int .i64 0, .string ⟨#[]⟩, .string ⟨#[]⟩, .slice none 0 0] 44) (block_alloc W (.cells #[.int .i8 k, .int .i64 n, .string s, .string t, .slice NA ps.length nc] 25))
  have g1 := block_alloc (W.alloc (.cells #[.int .i8 k, .int .i64 n, .string s, .string t, .slice NA ps.length nc] 25)) (.cells #[.int .i8 0, .int .i64 0, .string ⟨#[]⟩, .string ⟨#[]⟩, .slice none 0 0] 44)
  rw [World.size_alloc] at g1
  have b2 : Below W.heap.size W ((W.alloc (.cells #[.int .i8 k, .int .i64 n, .string s, .string t, .slice NA ps.length nc] 25)).alloc (.cells #[.int .i8 0, .int .i64 0, .string ⟨#[]⟩, .string ⟨#[]⟩, .slice none 0 0] 44)) := ((Below.refl _ W).alloc (Nat.le_refl _) _).alloc (by simp) _
  have z2 : ((W.alloc (.cells #[.int .i8 k, .int .i64 n, .string s, .string t, .slice NA ps.length nc] 25)).alloc (.cells #[.int .i8 0, .int .i64 0, .string ⟨#[]⟩, .string ⟨#[]⟩, .slice none 0 0] 44)).heap.size = W.heap.size + 2 := by rw [World.size_alloc, World.size_alloc]
  obtain ⟨W2, hW2⟩ : ∃ W2, W2 = (W.alloc (.cells #[.int .i8 k, .int .i64 n, .string s, .string t, .slice NA ps.length nc] 25)).alloc (.cells #[.int .i8 0, .int .i64 0, .string ⟨#[]⟩, .string ⟨#[]⟩, .slice none 0 0] 44) := ⟨_, rfl⟩
  rw [← hW2] at g0 g1 b2 z2
  have HB2 := Lib.hid b2
  have HG0 := Lib.hid g0
  have HG1 := Lib.hid g1
  have HZ2 := Lib.hid z2
  have HT := Lib.hid hT
  have HR := Lib.hid hR
  have HN1 : Hid (n1 ≤ W.heap.size) := hn1
  have HN0 : Hid (n0 ≤ W.heap.size) := Nat.le_trans hR.le hn1
  have HE := Lib.hid hE
  have HN := Lib.hid hN
  obtain ⟨x0, x1, x2, x3, x4⟩ := five_of g0
  clear g0 g1 b2 z2 hT hR hE hN hRn hn1
  go_enter Tryz.func90, Tryz.ntmps90
  go_upto_region 1 with fail
  rw [← hW2]
  clear hW2
  go_wp2_with fail
  refine (guarded7_ok X _ W2 (HT.out.laterN HB2.out) HN.out (HE.out.under HB2.out)).mono ?_
  rintro e W3 ⟨rfl, b3⟩
  have HB3 := Lib.hid (HB2.out.trans (b3.mono HB2.out.size))
  have HG03 := Lib.hid ((b3.block _ (heap_lt HG0.out)).trans HG0.out)
  have HG13 := Lib.hid ((b3.block _ (heap_lt HG1.out)).trans HG1.out)
  clear b3 x0 x1 x2 x3 x4
  cases hg : (fitsB X && guaB X) with
  | false =>
    have HOK : Hid (okG l X = false) := by show _ = _; unfold okG; rw [hg]; rfl
    clear hg
    go_wp2_with fail
    refine (refused11_any _ _).mono ?_
    rintro e W6 ⟨rfl, hW6⟩
    have b6 : Below W3.heap.size W3 W6 := by rw [hW6]; exact (Below.refl _ _).alloc (Nat.le_refl _) _
    have r6 : W6.heap[W3.heap.size]? = some (.cells #[.int .i64 11, .int .i64 2, .int .i64 0] 76 (0, 0)) := by rw [hW6]; exact block_alloc _ _
    have HQ := Lib.hid r6
    have HB6 := Lib.hid (HB3.out.trans (b6.mono HB3.out.size))
    have hg2 := (b6.block _ (heap_lt HG13.out)).trans HG13.out
    have HG3 := Lib.hid hg2
    clear hW6 b6 r6
    obtain ⟨⟨r0, r1, r2, r3, r4⟩, rf0, rf1, rf2, rf3, rf4⟩ := five_fr hg2
    have S5 := Lib.hid (set_five (.int .i8 0) (.int .i64 0) (.string ⟨#[]⟩) (.string ⟨#[]⟩) (.slice none 0 0) hg2)
    go_wp2_with fail
    obtain ⟨s5, m5⟩ := S5.out
    generalize ((((((W6).setCell ⟨W.heap.size + 1, 0, none⟩ (.int .i8 0)).setCell ⟨W.heap.size + 1, 1, none⟩ (.int .i64 0)).setCell ⟨W.heap.size + 1, 2, none⟩ (.string ⟨#[]⟩)).setCell ⟨W.heap.size + 1, 3, none⟩ (.string ⟨#[]⟩)).setCell ⟨W.heap.size + 1, 4, none⟩ (.slice none 0 0)) = VX at s5 m5 ⊢
    obtain ⟨z0, z1, z2, z3, z4⟩ := five_of s5
    refine bodyPost_ret (v := .tuple #[.agg #[.int .i8 0, .int .i64 0, .string ⟨#[]⟩, .string ⟨#[]⟩, .slice none 0 0], .iface 69 (.pointer (some ⟨W3.heap.size, 0, none⟩))]) (by simp [results, Tryz.f90, go_sem, z0, z1, z2, z3, z4]) rfl ?_
    have hve : valE l X = 2 := by unfold valE; rw [if_neg (by rw [HOK.out]; decide)]
    have hvv : valV l X = intT 0 := by unfold valV; rw [if_neg (by rw [HOK.out]; decide)]
    refine ⟨_, _, _, _, _, _, _, _, rfl, .inr ⟨by rw [hve]; decide, hvv, _, rfl, ?_⟩, HB6.out.trans (m5.below HB6.out.size (fun k (e : k = _) => by omega))⟩
    rw [hve]
    exact (m5.block _ (heap_lt HQ.out) (ref_ne HQ.out HG3.out)).trans HQ.out
  | true =>
  go_wp2_with fail
  refine (may11_any l A m cap W3 ((HR.out.under HB3.out HN1.out).brow.mono11 (Nat.le_trans HN1.out HB3.out.size)) (HE.out.under HB3.out).spans).mono ?_
  rintro e W4 ⟨rfl, b4⟩
  have HB4 := Lib.hid (HB3.out.trans (b4.mono HB3.out.size))
  have HG04 := Lib.hid ((b4.block _ (heap_lt HG03.out)).trans HG03.out)
  have HG14 := Lib.hid ((b4.block _ (heap_lt HG13.out)).trans HG13.out)
  clear b4
  cases hm : mayL l with
  | false =>
    have HOK : Hid (okG l X = false) := by show _ = _; unfold okG; rw [hg, hm]; rfl
    clear hg hm
    go_wp2_with fail
    refine (refused11_any _ _).mono ?_
    rintro e W6 ⟨rfl, hW6⟩
    have b6 : Below W4.heap.size W4 W6 := by rw [hW6]; exact (Below.refl _ _).alloc (Nat.le_refl _) _
    have r6 : W6.heap[W4.heap.size]? = some (.cells #[.int .i64 11, .int .i64 2, .int .i64 0] 76 (0, 0)) := by rw [hW6]; exact block_alloc _ _
    have HQ := Lib.hid r6
    have HB6 := Lib.hid (HB4.out.trans (b6.mono HB4.out.size))
    have hg2 := (b6.block _ (heap_lt HG14.out)).trans HG14.out
    have HG3 := Lib.hid hg2
    clear hW6 b6 r6
    obtain ⟨⟨r0, r1, r2, r3, r4⟩, rf0, rf1, rf2, rf3, rf4⟩ := five_fr hg2
    have S5 := Lib.hid (set_five (.int .i8 0) (.int .i64 0) (.string ⟨#[]⟩) (.string ⟨#[]⟩) (.slice none 0 0) hg2)
    go_wp2_with fail
    obtain ⟨s5, m5⟩ := S5.out
    generalize ((((((W6).setCell ⟨W.heap.size + 1, 0, none⟩ (.int .i8 0)).setCell ⟨W.heap.size + 1, 1, none⟩ (.int .i64 0)).setCell ⟨W.heap.size + 1, 2, none⟩ (.string ⟨#[]⟩)).setCell ⟨W.heap.size + 1, 3, none⟩ (.string ⟨#[]⟩)).setCell ⟨W.heap.size + 1, 4, none⟩ (.slice none 0 0)) = VX at s5 m5 ⊢
    obtain ⟨z0, z1, z2, z3, z4⟩ := five_of s5
    refine bodyPost_ret (v := .tuple #[.agg #[.int .i8 0, .int .i64 0, .string ⟨#[]⟩, .string ⟨#[]⟩, .slice none 0 0], .iface 69 (.pointer (some ⟨W4.heap.size, 0, none⟩))]) (by simp [results, Tryz.f90, go_sem, z0, z1, z2, z3, z4]) rfl ?_
    have hve : valE l X = 2 := by unfold valE; rw [if_neg (by rw [HOK.out]; decide)]
    have hvv : valV l X = intT 0 := by unfold valV; rw [if_neg (by rw [HOK.out]; decide)]
    refine ⟨_, _, _, _, _, _, _, _, rfl, .inr ⟨by rw [hve]; decide, hvv, _, rfl, ?_⟩, HB6.out.trans (m5.below HB6.out.size (fun k (e : k = _) => by omega))⟩
    rw [hve]
    exact (m5.block _ (heap_lt HQ.out) (ref_ne HQ.out HG3.out)).trans HQ.out
  | true =>
    have HOK : Hid (okG l X = true) := by show _ = _; unfold okG; rw [hg, hm]; rfl
    have HGU : Hid (guaB X = true) := by show _ = _; simp at hg; exact hg.2
    clear hg hm
    go_upto_region 3 with fail
    refine wp_region_held (S := fun V => Below W.heap.size W V ∧ V.heap[W.heap.size]? = some (.cells #[.int .i8 k, .int .i64 n, .string s, .string t, .slice NA ps.length nc] 25 (0, 0))) (by kernel_rfl) ?_
    show wpAnyH _ _ _ _ _ _ _ _ W4.drew
    have hS : Below W.heap.size W W4.drew ∧ W4.drew.heap[W.heap.size]? = some (.cells #[.int .i8 k, .int .i64 n, .string s, .string t, .slice NA ps.length nc] 25 (0, 0)) := ⟨HB4.out.trans ⟨rfl, rfl, rfl, Nat.le_refl _, fun _ _ => rfl⟩, HG04.out⟩
    have hr1 : W4.drew.heap[W.heap.size + 1]? = some (.cells #[.int .i8 0, .int .i64 0, .string ⟨#[]⟩, .string ⟨#[]⟩, .slice none 0 0] 44 (0, 0)) := HG14.out
    generalize W4.drew = V0 at hS hr1 ⊢
    refine wpAnyH_take (i := 0) (oi := ⟨some 16, _, _, _, _, _⟩) (v := ?_) rfl (by kernel_rfl) (by kernel_rfl) (by kernel_rfl) (fun _ _ _ h => h) (Or.inl ⟨by kernel_rfl, ?_⟩) (by assumption) ?_; rotate_left; (intro VV hSw; (try dsimp only at hSw); go_simp; first | done | with_reducible rfl); (try simp only [Act.put, sI, sZ, sS])
    refine wpAnyH_take (i := 2) (oi := ⟨some 18, _, _, _, _, _⟩) (v := ?_) rfl (by kernel_rfl) (by kernel_rfl) (by kernel_rfl) (fun _ _ _ h => h) (Or.inl ⟨by kernel_rfl, ?_⟩) (by assumption) ?_; rotate_left; (intro VV hSw; (try dsimp only at hSw); have y0 : VV.cell? ⟨W.heap.size, 0, none⟩ = some (.int .i8 k) := cell_of_row (i := 0) hSw.2 rfl; have y1 : VV.cell? ⟨W.heap.size, 1, none⟩ = some (.int .i64 n) := cell_of_row (i := 1) hSw.2 rfl; have y2 : VV.cell? ⟨W.heap.size, 2, none⟩ = some (.string s) := cell_of_row (i := 2) hSw.2 rfl; have y3 : VV.cell? ⟨W.heap.size, 3, none⟩ = some (.string t) := cell_of_row (i := 3) hSw.2 rfl; have y4 : VV.cell? ⟨W.heap.size, 4, none⟩ = some (.slice NA ps.length nc) := cell_of_row (i := 4) hSw.2 rfl; go_simp; first | done | with_reducible rfl); (try simp only [Act.put, sI, sZ, sS])
    refine wpAnyH_ready (rs := [1]) (by kernel_rfl) (by simp) ?_
    refine AllReadyH.cons (o := ⟨some 17, _, _, _, _, _⟩) rfl (fun K hK => ?_) AllReadyH.nil
    · rw [if_pos (by rfl)]
      go_simp
      refine (under_in n0 n1 l A m cap V0 (HR.out.under hS.1 HN1.out) (Nat.le_trans HN1.out hS.1.size) (HE.out.under hS.1).spans).mono ?_
      rintro e V1 ⟨gv, gp, gm, rfl, hu, b5⟩
      have hz0 := hS.1.size
      have hS1 : Below W.heap.size W V1 ∧ V1.heap[W.heap.size]? = some (.cells #[.int .i8 k, .int .i64 n, .string s, .string t, .slice NA ps.length nc] 25 (0, 0)) := ⟨hS.1.trans (b5.mono hz0), (b5.block _ (heap_lt hS.2)).trans hS.2⟩
      have hr2 := (b5.block _ (heap_lt hr1)).trans hr1
      unfold vf11
      refine hK.out _ _ hS1 (fun hSn => ?_)
      clear hK K hSn; (try simp only [Act.put, sI, sZ, sS])
      clear hS hr1
      refine wpAnyH_ready (rs := [3]) (by kernel_rfl) (by simp) ?_
      refine AllReadyH.cons (o := ⟨some 19, _, _, _, _, _⟩) rfl (fun K hK => ?_) AllReadyH.nil
      · rw [if_pos (by rfl)]
        go_simp
        refine (val_any _ V0 l gv gp gm X HGU.out (by have := HN.out; omega) _ V1 hu (HT.out.laterN hS1.1)).mono ?_
        rintro e V2 ⟨k9, n9, s9, t9, A9, m9, c9, ev, rfl, hv, hno, b6⟩
        have hz1 := b5.size
        have hS2 : Below W.heap.size W V2 ∧ V2.heap[W.heap.size]? = some (.cells #[.int .i8 k, .int .i64 n, .string s, .string t, .slice NA ps.length nc] 25 (0, 0)) := ⟨hS1.1.trans (b6.mono hS1.1.size), (b6.block _ (heap_lt hS1.2)).trans hS1.2⟩
        have hr3 := (b6.block _ (heap_lt hr2)).trans hr2
        refine hK.out _ _ hS2 (fun hSn => ?_)
        clear hK K hSn; (try simp only [Act.put, sI, sZ, sS])
        refine wpAnyH_take (i := 4) (oi := ⟨some 20, _, _, _, _, _⟩) (v := ?_) rfl (by kernel_rfl) (by kernel_rfl) (by kernel_rfl) (fun _ _ _ h => h) (Or.inl ⟨by kernel_rfl, ?_⟩) (by assumption) ?_; rotate_left; (intro VV hSw; (try dsimp only at hSw); go_simp; first | done | with_reducible rfl); (try simp only [Act.put, sI, sZ, sS])
        refine wpAnyH_take (i := 5) (oi := ⟨some 21, _, _, _, _, _⟩) (v := ?_) rfl (by kernel_rfl) (by kernel_rfl) (by kernel_rfl) (fun _ _ _ h => h) (Or.inl ⟨by kernel_rfl, ?_⟩) (by assumption) ?_; rotate_left; (intro VV hSw; (try dsimp only at hSw); go_simp; first | done | with_reducible rfl); (try simp only [Act.put, sI, sZ, sS])
        obtain ⟨⟨z0, z1, z2, z3, z4⟩, zf0, zf1, zf2, zf3, zf4⟩ := five_fr hr3
        obtain ⟨s5, m5⟩ := set_five (.int .i8 k9) (.int .i64 n9) (.string s9) (.string t9) (.slice A9 m9 c9) hr3
        refine wpAnyH_ready (rs := [6]) (by kernel_rfl) (by simp) ?_
        refine AllReadyH.cons (o := ⟨none, _, _, _, _, _⟩) rfl (fun K hK => ?_) AllReadyH.nil
        · rw [if_pos (by rfl)]
          go_simp
          generalize ((((((V2).setCell ⟨W.heap.size + 1, 0, none⟩ (.int .i8 k9)).setCell ⟨W.heap.size + 1, 1, none⟩ (.int .i64 n9)).setCell ⟨W.heap.size + 1, 2, none⟩ (.string s9)).setCell ⟨W.heap.size + 1, 3, none⟩ (.string t9)).setCell ⟨W.heap.size + 1, 4, none⟩ (.slice A9 m9 c9)) = VX at s5 m5 ⊢
          have hS9 : Below W.heap.size W VX ∧ VX.heap[W.heap.size]? = some (.cells #[.int .i8 k, .int .i64 n, .string s, .string t, .slice NA ps.length nc] 25 (0, 0)) := ⟨hS2.1.trans (m5.below hS2.1.size (fun q (e : q = _) => by omega)), (m5.block _ (heap_lt hS2.2) (by omega)).trans hS2.2⟩
          refine hK.out _ _ hS9 (fun hSn => ?_)
          clear hK K hSn z0 zf0 z1 zf1 z2 zf2 z3 zf3 z4 zf4; (try simp only [Act.put, sI, sZ, sS])
          refine wpAnyH_take (i := 7) (oi := ⟨some 5, _, _, _, _, _⟩) (v := ?_) rfl (by kernel_rfl) (by kernel_rfl) (by kernel_rfl) (fun _ _ _ h => h) (Or.inl ⟨by kernel_rfl, ?_⟩) (by assumption) ?_; rotate_left; (intro VV hSw; (try dsimp only at hSw); go_simp; first | done | with_reducible rfl); (try simp only [Act.put, sI, sZ, sS])
          refine wpAnyH_done (by kernel_rfl) ?_ _
          obtain ⟨z0, z1, z2, z3, z4⟩ := five_of s5
          go_wp2_with fail
          refine bodyPost_ret (v := .tuple #[.agg #[.int .i8 k9, .int .i64 n9, .string s9, .string t9, .slice A9 m9 c9], ev]) (by simp [results, Tryz.f90, go_sem, z0, z1, z2, z3, z4]) rfl ?_
          have hz9 := m5.size
          have hz2 := HZ2.out
          have hz4 := HB4.out.size
          refine ⟨_, _, _, _, _, _, _, _, rfl, ?_, hS9.1⟩
          cases hgv : gvT l X with
          | none =>
            have hve : valE l X = 93 := by unfold valE; rw [if_pos HOK.out, hgv]
            have hvv : valV l X = intT 0 := by unfold valV; rw [if_pos HOK.out, hgv]; rfl
            obtain ⟨q, h1, h2⟩ := hno hgv
            exact .inr ⟨by rw [hve]; decide, hvv, q, h1, by rw [hve]; exact (m5.block _ (heap_lt h2) (ref_ne h2 hr3)).trans h2⟩
          | some y =>
            have hve : valE l X = 0 := by unfold valE; rw [if_pos HOK.out, hgv]
            have hvv : valV l X = y := by unfold valV; rw [if_pos HOK.out, hgv]; rfl
            obtain ⟨h1, h2⟩ := hv y hgv
            refine .inl ⟨hve, h1, ?_⟩
            rw [hvv]
            refine h2.keep (fun q hq => m5.block q ?_ ?_) (fun q hq => ?_)
            · have := heap_lt hr3; have := HN0.out; rcases hq with h | h <;> omega
            · have := heap_lt hr2; have := HN0.out; rcases hq with h | h <;> omega
            · have := heap_lt hr3; have := HN0.out; rcases hq with h | h; (exact .inl h); (exact .inr ⟨by omega, by omega⟩)
end Go.Proofs.YtkceoiaaiaomoaaGreatDoor
