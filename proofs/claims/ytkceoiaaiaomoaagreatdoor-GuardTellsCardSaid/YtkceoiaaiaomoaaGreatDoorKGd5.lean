/- Layer 11: the valuer's own function, one step (guard.under). -/
import Derived.Test.YtkceoiaaiaomoaaGreatDoorKGd4
import Derived.Test.YtkceoiaaiaomoaaGreatDoorKStT
set_option linter.unusedVariables false
set_option linter.unusedSimpArgs false
namespace Go.Proofs.YtkceoiaaiaomoaaGreatDoor
open Go.RowKit

def vf11 (gv gp : Nat) : Value := .func (.func 160) #[] #[.pointer (some ⟨gv, 0, none⟩), .pointer (some ⟨gp, 0, none⟩)]
def putsRow (gm : Nat) : Array Value := #[.nilFunc, .nilFunc, .nilFunc, .nilFunc, .nilFunc, .func (.func 212) #[.map (some gm)] #[], .func (.func 213) #[] #[], .func (.func 214) #[] #[], .func (.func 215) #[] #[], .func (.func 216) #[] #[], .func (.func 217) #[] #[], .func (.func 218) #[] #[]]
structure Und (n0 : Nat) (w0 : World) (l : List Bd) (gv gp gm : Nat) (W : World) : Prop where
  val : W.heap[gv]? = some (.cells #[vf11 gv gp] 134 (0, 0))
  puts : W.heap[gp]? = some (.cells (putsRow gm) 182 (0, 0))
  map : ∃ es c, W.heap[gm]? = some (.map es c) ∧ MapB n0 w0 es l
  below : Below n0 w0 W
  n0 : n0 ≤ w0.heap.size
  spans : Spans W
theorem Und.under {n0 : Nat} {w0 : World} {l : List Bd} {gv gp gm : Nat} {W V : World} (h : Und n0 w0 l gv gp gm W) (b : Below W.heap.size W V) : Und n0 w0 l gv gp gm V := by
  obtain ⟨es, c, hm, hM⟩ := h.map
  exact ⟨(b.block _ (heap_lt h.val)).trans h.val, (b.block _ (heap_lt h.puts)).trans h.puts, ⟨es, c, (b.block _ (heap_lt hm)).trans hm, hM⟩, h.below.trans (b.mono (Nat.le_trans h.n0 h.below.size)), h.n0, h.spans.below b h.spans.lt⟩
def ValP (r : Option Tm) (n0 : Nat) (w : World) (e : Ending) (w' : World) : Prop :=
  ∃ (k n : Int) (s t : ByteArray) (A : Option Addr) (m c : Nat) (ev : Value), e = .returned (.tuple #[.agg #[.int .i8 k, .int .i64 n, .string s, .string t, .slice A m c], ev]) ∧
    (∀ y, r = some y → ev = .nilIface ∧ TmAt (fun b => b < n0 ∨ (w.heap.size ≤ b ∧ b < w'.heap.size)) w' y (.agg #[.int .i8 k, .int .i64 n, .string s, .string t, .slice A m c])) ∧
    (r = none → ∃ q, ev = .iface 69 (.pointer (some ⟨q, 0, none⟩)) ∧ w'.heap[q]? = some (.cells #[.int .i64 11, .int .i64 93, .int .i64 0] 76 (0, 0))) ∧ Below w.heap.size w w'
def gvTsO (f : Tm → Option Tm) : List Tm → Option (List Tm)
  | [] => some []
  | x :: l => match f x, gvTsO f l with | some v, some vs => some (v :: vs) | _, _ => none
theorem gvTsO_take {f : Tm → Option Tm} : ∀ {l : List Tm} {i : Nat} {y : Tm} {vs : List Tm}, l[i]? = some y → gvTsO f (l.take i) = some vs → (∀ v, f y = some v → gvTsO f (l.take (i + 1)) = some (vs ++ [v])) ∧ (f y = none → gvTsO f l = none)
  | [], i, y, vs, h, _ => by simp at h
  | x :: l, 0, y, vs, h, h2 => by
    simp at h; subst h
    simp [gvTsO] at h2; subst h2
    refine ⟨fun v hv => ?_, fun hv => ?_⟩
    · simp [gvTsO, hv]
    · simp [gvTsO, hv]
  | x :: l, i + 1, y, vs, h, h2 => by
    rw [List.take_succ_cons, gvTsO] at h2
    cases hx : f x with
    | none => rw [hx] at h2; simp at h2
    | some v0 =>
      rw [hx] at h2
      cases hl : gvTsO f (l.take i) with
      | none => rw [hl] at h2; simp at h2
      | some vs0 =>
        rw [hl] at h2
        simp at h2
        subst h2
        obtain ⟨h3, h4⟩ := gvTsO_take (by simpa using h) hl
        refine ⟨fun v hv => ?_, fun hv => ?_⟩
        · rw [List.take_succ_cons, gvTsO, hx, h3 v hv]; rfl
        · rw [gvTsO, hx, h4 hv]
theorem gvTsO_len {f : Tm → Option Tm} : ∀ {l vs : List Tm}, gvTsO f l = some vs → vs.length = l.length
  | [], vs, h => by simp [gvTsO] at h; subst h; rfl
  | x :: l, vs, h => by
    rw [gvTsO] at h
    cases hx : f x with
    | none => rw [hx] at h; simp at h
    | some v =>
      cases hl : gvTsO f l with
      | none => rw [hx, hl] at h; simp at h
      | some vs0 =>
        rw [hx, hl] at h; simp at h; subst h
        rw [List.length_cons, List.length_cons, gvTsO_len hl]
theorem refused11_any (e : Int) (w : World) : Calls Tryz.prog 149 #[.int .i64 e] w fun o w' => o = .returned (.iface 69 (.pointer (some ⟨w.heap.size, 0, none⟩))) ∧ w' = w.alloc (.cells #[.int .i64 11, .int .i64 e, .int .i64 0] 76) := by
  go_enter Tryz.func149, Tryz.ntmps149
  go_wp2
  go_ret
  exact ⟨rfl, rfl⟩
def PutC (n0 : Nat) (w0 : World) (l : List Bd) (gv gp gm : Nat) (F : Nat) (B : Array Value) (f : Tm → Option Tm) (j : Nat) (n : Int) (s t : ByteArray) (ps : List Tm) (R : List Tm → Option Tm) : Prop :=
  ∀ (vs : List Tm) (V : World) (A : Option Addr) (cap : Nat) (PA : Option Addr) (pn pc : Nat) (Q : Nat → Prop), gvTsO f ps = some vs → Und n0 w0 l gv gp gm V → (∀ b, b < n0 → Q b) → (∀ b, Q b → b < V.heap.size) → TRow Q V PA pn pc vs →
    Calls Tryz.prog F (B ++ #[.agg #[.int .i8 j, .int .i64 n, .string s, .string t, .slice A ps.length cap], .slice PA pn pc]) V (PutP (R vs) Q V)
def PB (n0 B : Nat) (W : World) (p : Value) (b : Nat) : Prop := (b < n0 ∨ (B ≤ b ∧ b < W.heap.size)) ∧ p.ownBlock ≠ some b
theorem own_later {n0 B : Nat} {W W' : World} {p : Value} {vs : List Tm} (h : OwnT B (PB n0 B W p) W p vs) (b : Below W.heap.size W W') (hn : n0 ≤ W.heap.size) : OwnT B (PB n0 B W' p) W' p vs :=
  h.keep (Mod.of_below (F := fun _ => False) b) (fun _ _ f => f) (fun q hq => ⟨by rcases hq.1 with h | h <;> omega, fun f => f⟩) (fun q hq => ⟨by have := b.size; rcases hq.1 with h | h; (exact .inl h); (exact .inr ⟨h.1, by omega⟩), hq.2⟩)
structure PR (r : Option Tm) (n0 B : Nat) (W3 wx : World) (g : Nat) (ec : Int) : Prop where
  below : Below W3.heap.size W3 wx
  at_ : ∃ k9 n9 s9 t9 A9 m9 c9, wx.heap[g]? = some (.cells #[.int .i8 k9, .int .i64 n9, .string s9, .string t9, .slice A9 m9 c9] 44 (0, 0)) ∧ ∀ y, r = some y → ec = 0 ∧ TmAt (fun b => b < n0 ∨ (B ≤ b ∧ b < wx.heap.size)) wx y (.agg #[.int .i8 k9, .int .i64 n9, .string s9, .string t9, .slice A9 m9 c9])
  no : r = none → ec ≠ 0
theorem pr_of {r : Option Tm} {n0 B : Nat} {W3 V VX : World} {g : Nat} {ec : Int} {k9 n9 : Int} {s9 t9 : ByteArray} {A9 : Option Addr} {m9 c9 : Nat} {Zc : Array Value} (hn : n0 ≤ W3.heap.size) (hS : Below W3.heap.size W3 V) (hg : V.heap[g]? = some (.cells Zc 44 (0, 0))) (hge : W3.heap.size ≤ g)
    (hv : ∀ y, r = some y → ec = 0 ∧ TmAt (fun b => (b < n0 ∨ (B ≤ b ∧ b < V.heap.size)) ∧ b ≠ g) V y (.agg #[.int .i8 k9, .int .i64 n9, .string s9, .string t9, .slice A9 m9 c9])) (hno : r = none → ec ≠ 0)
    (s5 : VX.heap[g]? = some (.cells #[.int .i8 k9, .int .i64 n9, .string s9, .string t9, .slice A9 m9 c9] 44 (0, 0))) (m5 : Mod (fun k => k = g) V VX) : PR r n0 B W3 VX g ec := by
  refine ⟨hS.trans (m5.below hS.size (fun k (e : k = g) => by omega)), ⟨_, _, _, _, _, _, _, s5, fun y hy => ?_⟩, hno⟩
  obtain ⟨h1, h2⟩ := hv y hy
  refine ⟨h1, h2.keep (fun q hq => m5.block q ?_ hq.2) (fun q hq => ?_)⟩
  · have := hS.size; rcases hq.1 with h | h <;> omega
  · have := m5.size; rcases hq.1 with h | h; (exact .inl h); (exact .inr ⟨h.1, by omega⟩)
theorem ref_ne {wx : World} {q g : Nat} {c d : Array Value} (h : wx.heap[q]? = some (.cells c 76 (0, 0))) (h2 : wx.heap[g]? = some (.cells d 44 (0, 0))) : ¬ q = g := by
  rintro rfl
  rw [h] at h2
  injection h2 with h2
  injection h2 with _ h3 _
  exact absurd h3 (by decide)
set_option maxHeartbeats 16000000 in
set_option maxRecDepth 100000 in
theorem val_step (n0 : Nat) (w0 : World) (l : List Bd) (gv gp gm : Nat) (f : Tm → Option Tm) (j : Nat) (n : Int) (s t : ByteArray) (ps : List Tm) (F : Nat) (hj : j < 12) (hcell : (putsRow gm)[j]? = some (.func (.func F) #[] #[])) (hent : ∀ args w, (callFunc F args).run Tryz.prog w = .ok (.enter F args) w) (R : List Tm → Option Tm)
    (hput : PutC n0 w0 l gv gp gm F #[] f j n s t ps R) (ih : ∀ y ∈ ps, ∀ v V, Und n0 w0 l gv gp gm V → TmAt (· < V.heap.size) V y v → Calls Tryz.prog 160 #[v, .pointer (some ⟨gv, 0, none⟩), .pointer (some ⟨gp, 0, none⟩)] V (ValP (f y) n0 V))
    (hpl : ps.length ≤ 100000) (v : Value) (W : World) (hU : Und n0 w0 l gv gp gm W) (hT : TmAt (· < W.heap.size) W (.mk j n s t ps) v) :
    Calls Tryz.prog 160 #[v, .pointer (some ⟨gv, 0, none⟩), .pointer (some ⟨gp, 0, none⟩)] W (ValP ((gvTsO f ps).bind R) n0 W) := by
  obtain ⟨A, cap, rfl, hR, -⟩ := hT.parts
  have g0 := there_of (.cells #[.int .i8 0, .int .i64 0, .string ⟨#[]⟩, .string ⟨#[]⟩, .slice none 0 0] 44) (block_alloc W (.cells #[.int .i8 j, .int .i64 n, .string s, .string t, .slice A ps.length cap] 25))
  have g1 := block_alloc (W.alloc (.cells #[.int .i8 j, .int .i64 n, .string s, .string t, .slice A ps.length cap] 25)) (.cells #[.int .i8 0, .int .i64 0, .string ⟨#[]⟩, .string ⟨#[]⟩, .slice none 0 0] 44)
  rw [World.size_alloc] at g1
  have b2 : Below W.heap.size W ((W.alloc (.cells #[.int .i8 j, .int .i64 n, .string s, .string t, .slice A ps.length cap] 25)).alloc (.cells #[.int .i8 0, .int .i64 0, .string ⟨#[]⟩, .string ⟨#[]⟩, .slice none 0 0] 44)) := ((Below.refl _ W).alloc (Nat.le_refl _) _).alloc (by simp) _
  have z2 : ((W.alloc (.cells #[.int .i8 j, .int .i64 n, .string s, .string t, .slice A ps.length cap] 25)).alloc (.cells #[.int .i8 0, .int .i64 0, .string ⟨#[]⟩, .string ⟨#[]⟩, .slice none 0 0] 44)).heap.size = W.heap.size + 2 := by rw [World.size_alloc, World.size_alloc]
  obtain ⟨W2, hW2⟩ : ∃ W2, W2 = (W.alloc (.cells #[.int .i8 j, .int .i64 n, .string s, .string t, .slice A ps.length cap] 25)).alloc (.cells #[.int .i8 0, .int .i64 0, .string ⟨#[]⟩, .string ⟨#[]⟩, .slice none 0 0] 44) := ⟨_, rfl⟩
  rw [← hW2] at g0 g1 b2 z2
  have HB2 := Lib.hid b2
  have HG0 := Lib.hid g0
  have HG1 := Lib.hid g1
  have HZ2 := Lib.hid z2
  have HU := Lib.hid (hU.under b2)
  have hn0 : n0 ≤ W.heap.size := Nat.le_trans hU.n0 (Nat.le_trans (by have := hU.below.size; omega) (Nat.le_refl _))
  have HN0 : Hid (n0 ≤ W.heap.size) := hn0
  have HR := Lib.hid hR
  have HIH := Lib.hid ih
  have HPUT := Lib.hid hput
  have HCELL := Lib.hid hcell
  have HEN := Lib.hid hent
  have x4 : W2.cell? ⟨W.heap.size, 4, none⟩ = some (.slice A ps.length cap) := cell_of_row (i := 4) g0 rfl
  clear g0 g1 b2 z2 hU hT hR hn0 ih hput hcell hent
  go_enter Tryz.func160, Tryz.ntmps160
  go_upto_region 1 with fail
  rw [← hW2]
  clear hW2
  go_wp2_with fail
  clear x4
  go_loopw [6, 16] (fun p q wr => ∃ i : Nat, i ≤ ps.length ∧ q = .int .i64 (i : Int) ∧ (∃ vs, gvTsO f (ps.take i) = some vs ∧ OwnT W2.heap.size (PB n0 W2.heap.size wr p) wr p vs) ∧ Below W2.heap.size W2 wr) (fun _ q _ => ps.length - (intOf q).toNat)
  case atStart => exact ⟨0, Nat.zero_le _, rfl, ⟨[], rfl, OwnT.nil _ _ _⟩, Below.refl _ _⟩
  case round =>
    obtain ⟨i, hi, rfl, ⟨vs, hvs, hO⟩, hB⟩ := hrel
    have HVS := Lib.hid hvs
    have HO := Lib.hid hO
    have HB := Lib.hid hB
    clear hvs hO hB
    by_cases hlt : i < ps.length
    · obtain ⟨y, hy⟩ : ∃ y, ps[i]? = some y := ⟨ps[i], List.getElem?_eq_getElem hlt⟩
      obtain ⟨ad, u, hA, had, hE, hTy⟩ := HR.out.at_ i y hy
      subst hA
      have hEr : ElemAt wr ad i u := hE.keep ((HB.out.block ad.block (by have := HZ2.out; omega)).trans (HB2.out.block ad.block had))
      obtain ⟨k', n', s', t', L', A', cap', rfl, rfl⟩ : ∃ k' n' s' t' L' A' cap', y = Tm.mk k' n' s' t' L' ∧ u = .agg #[.int .i8 k', .int .i64 n', .string s', .string t', .slice A' L'.length cap'] := by
        cases hTy; exact ⟨_, _, _, _, _, _, _, rfl, rfl⟩
      obtain ⟨q0, q1, q2, q3, q4, hc, e0, e1, e2, e3, e4⟩ := hEr
      simp only [Value.agg.injEq, Array.mk.injEq, List.cons.injEq, and_true] at hc
      obtain ⟨rfl, rfl, rfl, rfl, rfl⟩ := hc
      go_upto_region 5 with fail
      obtain ⟨W3, hW3⟩ : ∃ W3, W3 = wr.alloc (.cells #[.int .i8 k', .int .i64 n', .string s', .string t', .slice A' L'.length cap'] 25) := ⟨_, rfl⟩
      obtain ⟨g8, hg8⟩ : ∃ g8, g8 = wr.heap.size := ⟨_, rfl⟩
      have b3 : Below wr.heap.size wr W3 := by rw [hW3]; exact (Below.refl _ _).alloc (Nat.le_refl _) _
      have r8 : W3.heap[g8]? = some (.cells #[.int .i8 k', .int .i64 n', .string s', .string t', .slice A' L'.length cap'] 25 (0, 0)) := by rw [hW3, hg8]; exact block_alloc _ _
      rw [← hW3, ← hg8]
      have hU3 := HU.out.under (HB.out.trans (b3.mono HB.out.size))
      have hn2 : n0 ≤ wr.heap.size := by have := HB.out.size; have := HZ2.out; have := HN0.out; omega
      have HU3 := Lib.hid hU3
      have HR8 := Lib.hid r8
      have HB3 := Lib.hid (HB.out.trans (b3.mono HB.out.size))
      have HO3 := Lib.hid (own_later HO.out b3 hn2)
      have HTY := Lib.hid (hTy.keep (Q := (· < W3.heap.size)) (w' := W3) (fun q hq => (HB3.out.block q (by have := HZ2.out; omega)).trans (HB2.out.block q hq)) (fun q hq => by have := HB3.out.size; have := HZ2.out; omega))
      have HMEM := Lib.hid (List.mem_of_getElem? hy)
      have HYI := Lib.hid hy
      have HN3 : Hid (n0 ≤ W3.heap.size) := Nat.le_trans hn2 b3.size
      have HG8 : Hid (g8 = wr.heap.size ∧ W3.heap.size = wr.heap.size + 1) := ⟨hg8, by rw [hW3, World.size_alloc]⟩
      clear hW3 hg8 b3 r8 hU3 hn2 hE hTy hy had e0 e1 e2 e3 e4
      obtain ⟨fy, hfy⟩ : ∃ fy, fy = f (Tm.mk k' n' s' t' L') := ⟨_, rfl⟩
      have HFY := Lib.hid hfy
      clear hfy
      have hr8 := HR8.out
      obtain ⟨y0, y1, y2, y3, y4⟩ := five_of hr8
      have hv0 : W3.cell? ⟨gv, 0, none⟩ = some (.func (.func 160) #[] #[.pointer (some ⟨gv, 0, none⟩), .pointer (some ⟨gp, 0, none⟩)]) := cell_of_row (i := 0) HU3.out.val rfl
      clear hr8
      go_wp2_with fail
      refine (HIH.out _ HMEM.out _ W3 HU3.out HTY.out).mono ?_
      rintro e V1 ⟨k9, n9, s9, t9, A9, m9, c9, ev, rfl, hv, hno, b5⟩
      rw [← HFY.out] at hv hno
      have HB5 := Lib.hid b5
      clear b5 hv0 y0 y1 y2 y3 y4
      obtain ⟨W5, hW5⟩ : ∃ W5, W5 = V1.alloc (.cells #[.int .i8 k9, .int .i64 n9, .string s9, .string t9, .slice A9 m9 c9] 44) := ⟨_, rfl⟩
      obtain ⟨g9, hg9⟩ : ∃ g9, g9 = V1.heap.size := ⟨_, rfl⟩
      have b6 : Below V1.heap.size V1 W5 := by rw [hW5]; exact (Below.refl _ _).alloc (Nat.le_refl _) _
      have r9 : W5.heap[g9]? = some (.cells #[.int .i8 k9, .int .i64 n9, .string s9, .string t9, .slice A9 m9 c9] 44 (0, 0)) := by rw [hW5, hg9]; exact block_alloc _ _
      have z9 : W5.heap.size = V1.heap.size + 1 := by rw [hW5, World.size_alloc]
      have HZ9 := Lib.hid z9
      have HB35 := Lib.hid (HB5.out.trans (b6.mono HB5.out.size))
      have HB6 := Lib.hid b6
      have HR9 := Lib.hid r9
      clear b6 r9 z9
      cases fy with
      | none =>
        obtain ⟨q, rfl, hq⟩ := hno rfl
        have HQ := Lib.hid ((HB6.out.block _ (heap_lt hq)).trans hq)
        have HNONE := Lib.hid ((gvTsO_take HYI.out HVS.out).2 HFY.out.symm)
        clear hv hno hq
        go_upto_region 7 with fail
        rw [← hW5]
        clear hW5 hg9
        have HBW5 := Lib.hid (HB2.out.trans ((HB3.out.trans (HB35.out.mono HB3.out.size)).mono HB2.out.size))
        have hg1 := ((HB3.out.trans (HB35.out.mono HB3.out.size)).block _ (heap_lt HG1.out)).trans HG1.out
        obtain ⟨⟨r0, r1, r2, r3, r4⟩, rf0, rf1, rf2, rf3, rf4⟩ := five_fr hg1
        have HG3 := Lib.hid hg1
        have S5 := Lib.hid (set_five (.int .i8 0) (.int .i64 0) (.string ⟨#[]⟩) (.string ⟨#[]⟩) (.slice none 0 0) hg1)
        go_wp2_with fail
        obtain ⟨s5, m5⟩ := S5.out
        generalize ((((((W5).setCell ⟨W.heap.size + 1, 0, none⟩ (.int .i8 0)).setCell ⟨W.heap.size + 1, 1, none⟩ (.int .i64 0)).setCell ⟨W.heap.size + 1, 2, none⟩ (.string ⟨#[]⟩)).setCell ⟨W.heap.size + 1, 3, none⟩ (.string ⟨#[]⟩)).setCell ⟨W.heap.size + 1, 4, none⟩ (.slice none 0 0)) = VX at s5 m5 ⊢
        obtain ⟨z0, z1, z2, z3, z4⟩ := five_of s5
        refine bodyPost_ret (v := .tuple #[.agg #[.int .i8 0, .int .i64 0, .string ⟨#[]⟩, .string ⟨#[]⟩, .slice none 0 0], .iface 69 (.pointer (some ⟨q, 0, none⟩))]) (by simp [results, Tryz.f160, go_sem, z0, z1, z2, z3, z4]) rfl ?_
        rw [HNONE.out]
        refine ⟨_, _, _, _, _, _, _, _, rfl, (fun y hy => by cases hy), (fun _ => ⟨q, rfl, (m5.block _ (heap_lt HQ.out) (ref_ne HQ.out HG3.out)).trans HQ.out⟩), HBW5.out.trans (m5.below HBW5.out.size (fun k (e : k = _) => by omega))⟩
      | some z =>
        obtain ⟨rfl, hz⟩ := hv z rfl
        have HZV := Lib.hid hz
        have HSOME := Lib.hid ((gvTsO_take HYI.out HVS.out).1 z HFY.out.symm)
        clear hv hno hz
        go_upto_region 8 with fail
        rw [← hW5, ← hg9]
        clear hW5 hg9
        have r9 := HR9.out
        obtain ⟨t0, t1, t2, t3, t4⟩ := five_of r9
        clear r9
        obtain ⟨W6, hW6⟩ : ∃ W6, W6 = W5.alloc (.cells #[.int .i8 k9, .int .i64 n9, .string s9, .string t9, .slice A9 m9 c9] 44) := ⟨_, rfl⟩
        have b6 : Below W5.heap.size W5 W6 := by rw [hW6]; exact (Below.refl _ _).alloc (Nat.le_refl _) _
        have r6 : W6.heap[W5.heap.size]? = some (.cells #[.int .i8 k9, .int .i64 n9, .string s9, .string t9, .slice A9 m9 c9] 44 (0, 0)) := by rw [hW6]; exact block_alloc _ _
        have HR6 := Lib.hid r6
        have HB36 := Lib.hid (HB35.out.trans (b6.mono HB35.out.size))
        have HO6 := Lib.hid (own_later HO3.out HB36.out HN3.out)
        have HP6 : Hid (∀ b, PB n0 W2.heap.size W6 u6 b → b < W6.heap.size ∧ u6.ownBlock ≠ some b) := fun b hb => ⟨by have := HB36.out.size; have := HN3.out; rcases hb.1 with h | h <;> omega, hb.2⟩
        have HZ6 : Hid (TmAt (PB n0 W2.heap.size W6 u6) W6 z (.agg #[.int .i8 k9, .int .i64 n9, .string s9, .string t9, .slice A9 m9 c9])) := HZV.out.keep (fun q hq => ((HB6.out.trans (b6.mono HB6.out.size)).block q (by have := HB5.out.size; have := HN3.out; rcases hq with h | h <;> omega))) (fun q hq => ⟨by have := HB3.out.size; have := (HB6.out.trans (b6.mono HB6.out.size)).size; rcases hq with h | h; (exact .inl h); (exact .inr ⟨by omega, by omega⟩), fun e => by
          have h1 := HO.out.own q e
          have h2 := HN0.out
          have h3 := HZ2.out
          have h4 := HG8.out
          rcases hq with h | h <;> omega⟩)
        have HL6 : Hid (vs.length + 1 ≤ 1000000) := by
          have h1 := gvTsO_len HVS.out
          rw [List.length_take] at h1
          show _ ≤ _
          omega
        have HB26 : Hid (W2.heap.size ≤ W6.heap.size) := (HB3.out.trans (HB36.out.mono HB3.out.size)).size
        have HBW6 := Lib.hid (HB3.out.trans (HB36.out.mono HB3.out.size))
        clear b6 r6
        go_wp2_with (at_builtin; rw [← hW6]; refine wpList_own_term rfl (.tmp 30) (.tmp 32) rfl HO6.out HB26.out HP6.out rfl W5.heap.size rfl HR6.out HZ6.out HL6.out ?_)
        intro v7 W7 O7 hg7 hb7
        have hz6 : W6.heap.size = W5.heap.size + 1 := by rw [hW6, World.size_alloc]
        rw [← hW6] at O7 hg7
        rw [← hz6] at hb7
        have m7 : Mod (fun g => u6.ownBlock = some g) W6 W7 := Mod.grown hg7 (fun _ _ e => e)
        have hB7 : Below W2.heap.size W2 W7 := HBW6.out.trans (m7.below HBW6.out.size (fun g e => ((HO6.out).own g e).1))
        have O8 : OwnT W2.heap.size (PB n0 W2.heap.size W7 v7) W7 v7 (vs ++ [z]) := O7.keep (.refl (fun _ => False) _) (fun _ _ f => f) (fun b hb => ⟨by have := (HP6.out b hb).1; have := m7.size; omega, fun f => f⟩) (fun b hb => ⟨by have := m7.size; rcases hb.1 with h | h; (exact .inl h); (exact .inr ⟨h.1, by omega⟩), fun e => by
          rcases hb7 with h | h
          · exact hb.2 (h.trans e)
          · rw [h] at e; injection e with e; have := (HP6.out b hb).1; omega⟩)
        have HO8 := Lib.hid O8
        have HB8 := Lib.hid hB7
        clear O7 hg7 hb7 m7 hB7 O8 t0 t1 t2 t3 t4 hW6
        go_wp2_with fail
        go_roundw
        case rel => exact ⟨i + 1, by omega, by go_num, ⟨vs ++ [z], HSOME.out, HO8.out⟩, HB8.out⟩
        case measure => (simp [intOf] <;> omega)
    · obtain rfl : i = ps.length := by omega
      have hvs := HVS.out
      rw [List.take_length] at hvs
      obtain ⟨PA, pc, rfl⟩ := HO.out.shape
      obtain ⟨-, hTR⟩ := HO.out.trow (Q := fun b => b < n0 ∨ (W2.heap.size ≤ b ∧ b < wr.heap.size)) (fun b hb => hb.1) (fun b h1 h2 _ => .inr ⟨h1, h2⟩)
      have hU3 := HU.out.under HB.out
      have HU3 := Lib.hid hU3
      have HTR := Lib.hid hTR
      have HVL := Lib.hid hvs
      have HG0R := Lib.hid ((HB.out.block _ (heap_lt HG0.out)).trans HG0.out)
      have HG1R := Lib.hid ((HB.out.block _ (heap_lt HG1.out)).trans HG1.out)
      have HNR : Hid (n0 ≤ wr.heap.size) := by have := HB.out.size; have := HZ2.out; have := HN0.out; show _ ≤ _; omega
      have hj0 : (0 : Int) ≤ (j : Int) := by omega
      have hj1 : (j : Int) < 12 := by omega
      obtain ⟨pn, hpn⟩ : ∃ pn, pn = vs.length := ⟨_, rfl⟩
      rw [← hpn] at HTR
      rw [← hpn]
      clear hvs hTR hU3 hpn HO HVS
      obtain ⟨rr, hrr⟩ : ∃ rr, rr = R vs := ⟨_, rfl⟩
      have HRR := Lib.hid hrr
      clear hrr
      go_upto_region 10 with fail
      go_cut [11, 12] (fun p q wx => ∃ g9 ec, p = .pointer (some ⟨g9, 0, none⟩) ∧ q = .int .i64 ec ∧ Hid (PR rr n0 W2.heap.size wr wx g9 ec))
      case first =>
        refine wp_region_held (S := fun V => Below wr.heap.size wr V) (by kernel_rfl) ?_
        show wpAnyH _ _ _ _ _ _ _ _ wr.drew
        have hS : Below wr.heap.size wr wr.drew := ⟨rfl, rfl, rfl, Nat.le_refl _, fun _ _ => rfl⟩
        generalize wr.drew = V0 at hS ⊢
        refine wpAnyH_take (i := 0) (oi := ⟨some 36, _, _, _, _, _⟩) (v := ?_) rfl (by kernel_rfl) (by kernel_rfl) (by kernel_rfl) (fun _ _ _ h => h) (Or.inl ⟨by kernel_rfl, ?_⟩) (by assumption) ?_; rotate_left; (intro VV hSw; (try dsimp only at hSw); go_simp; first | done | with_reducible rfl); (try simp only [Act.put, sI, sZ, sS])
        refine wpAnyH_take (i := 1) (oi := ⟨some 37, _, _, _, _, _⟩) (v := ?_) rfl (by kernel_rfl) (by kernel_rfl) (by kernel_rfl) (fun _ _ _ h => h) (Or.inl ⟨by kernel_rfl, ?_⟩) (by assumption) ?_; rotate_left; (intro VV hSw; (try dsimp only at hSw); have hr := (hSw.block _ (heap_lt HG0R.out)).trans HG0R.out; obtain ⟨y0, y1, y2, y3, y4⟩ := five_of hr; go_simp; first | done | with_reducible rfl); (try simp only [Act.put, sI, sZ, sS])
        refine wpAnyH_take (i := 2) (oi := ⟨some 38, _, _, _, _, _⟩) (v := ?_) rfl (by kernel_rfl) (by kernel_rfl) (by kernel_rfl) (fun _ _ _ h => h) (Or.inl ⟨by kernel_rfl, ?_⟩) (by assumption) ?_; rotate_left; (intro VV hSw; (try dsimp only at hSw); go_simp; first | done | with_reducible rfl); (try simp only [Act.put, sI, sZ, sS])
        refine wpAnyH_take (i := 3) (oi := ⟨some 39, _, _, _, _, _⟩) (v := ?_) rfl (by kernel_rfl) (by kernel_rfl) (by kernel_rfl) (fun _ _ _ h => h) (Or.inl ⟨by kernel_rfl, ?_⟩) (by assumption) ?_; rotate_left; (intro VV hSw; (try dsimp only at hSw); have hu := HU3.out.under hSw; have hp := cell_of_row (i := j) hu.puts HCELL.out; go_simp; first | done | with_reducible rfl); (try simp only [Act.put, sI, sZ, sS])
        refine wpAnyH_take (i := 4) (oi := ⟨some 40, _, _, _, _, _⟩) (v := ?_) rfl (by kernel_rfl) (by kernel_rfl) (by kernel_rfl) (fun _ _ _ h => h) (Or.inl ⟨by kernel_rfl, ?_⟩) (by assumption) ?_; rotate_left; (intro VV hSw; (try dsimp only at hSw); have hr := (hSw.block _ (heap_lt HG0R.out)).trans HG0R.out; obtain ⟨y0, y1, y2, y3, y4⟩ := five_of hr; go_simp; first | done | with_reducible rfl); (try simp only [Act.put, sI, sZ, sS])
        refine wpAnyH_take (i := 5) (oi := ⟨some 41, _, _, _, _, _⟩) (v := ?_) rfl (by kernel_rfl) (by kernel_rfl) (by kernel_rfl) (fun _ _ _ h => h) (Or.inl ⟨by kernel_rfl, ?_⟩) (by assumption) ?_; rotate_left; (intro VV hSw; (try dsimp only at hSw); go_simp; first | done | with_reducible rfl); (try simp only [Act.put, sI, sZ, sS])
        refine wpAnyH_ready (rs := [6, 10]) (by kernel_rfl) (by simp) ?_
        refine AllReadyH.cons (o := ⟨some 42, _, _, _, _, _⟩) rfl (fun K hK => ?_) (AllReadyH.cons (o := ⟨some 11, _, _, _, _, _⟩) rfl (fun K hK => ?_) AllReadyH.nil)
        · rw [if_pos (by rfl)]
          have hen := HEN.out #[.agg #[.int .i8 j, .int .i64 n, .string s, .string t, .slice A ps.length cap], .slice PA pn pc] V0
          go_simp
          have hcall := HPUT.out vs V0 A cap PA pn pc (fun b => b < n0 ∨ (W2.heap.size ≤ b ∧ b < wr.heap.size)) HVL.out (HU3.out.under hS) (fun b hb => .inl hb) (fun b hb => by have := hS.size; have := HNR.out; rcases hb with h | h <;> omega) (HTR.out.keep (fun q hq => hS.block q (by have := HNR.out; rcases hq with h | h <;> omega)) (fun _ h => h))
          refine hcall.mono ?_
          rintro e V1 ⟨k9, n9, s9, t9, A9, m9, c9, ec, rfl, hv, hno, b5⟩
          have hS1 := hS.trans (b5.mono hS.size)
          have zS := hS.size
          rw [← HRR.out] at hv hno
          refine hK.out _ _ hS1 (fun hSn => ?_)
          clear hK K hSn; (try simp only [Act.put, sI, sZ, sS])
          clear hS hcall
          have hS := hS1
          clear hS1
          refine wpAnyH_take (i := 7) (oi := ⟨some 35, _, _, _, _, _⟩) (v := ?_) rfl (by kernel_rfl) (by kernel_rfl) (by kernel_rfl) (fun _ _ _ h => h) (Or.inl ⟨by kernel_rfl, ?_⟩) (by assumption) ?_; rotate_left; (intro VV hSw; (try dsimp only at hSw); go_simp; first | done | with_reducible rfl); (try simp only [Act.put, sI, sZ, sS])
          refine wpAnyH_take (i := 8) (oi := ⟨some 43, _, _, _, _, _⟩) (v := ?_) rfl (by kernel_rfl) (by kernel_rfl) (by kernel_rfl) (fun _ _ _ h => h) (Or.inl ⟨by kernel_rfl, ?_⟩) (by assumption) ?_; rotate_left; (intro VV hSw; (try dsimp only at hSw); go_simp; first | done | with_reducible rfl); (try simp only [Act.put, sI, sZ, sS])
          refine wpAnyH_take (i := 9) (oi := ⟨some 44, _, _, _, _, _⟩) (v := ?_) rfl (by kernel_rfl) (by kernel_rfl) (by kernel_rfl) (fun _ _ _ h => h) (Or.inl ⟨by kernel_rfl, ?_⟩) (by assumption) ?_; rotate_left; (intro VV hSw; (try dsimp only at hSw); go_simp; first | done | with_reducible rfl); (try simp only [Act.put, sI, sZ, sS])
          refine wpAnyH_ready (rs := [10]) (by kernel_rfl) (by simp) ?_
          refine AllReadyH.cons (o := ⟨some 11, _, _, _, _, _⟩) rfl (fun K hK => ?_) AllReadyH.nil
          · rw [if_pos (by rfl)]
            go_simp
            have hga := block_alloc V1 (.cells #[.int .i8 0, .int .i64 0, .string ⟨#[]⟩, .string ⟨#[]⟩, .slice none 0 0] 44)
            have hS1 := hS.alloc hS.size (.cells #[.int .i8 0, .int .i64 0, .string ⟨#[]⟩, .string ⟨#[]⟩, .slice none 0 0] 44)
            have hge : wr.heap.size ≤ V1.heap.size := hS.size
            have ba := Below.heap_alloc V1 (.cells #[.int .i8 0, .int .i64 0, .string ⟨#[]⟩, .string ⟨#[]⟩, .slice none 0 0] 44)
            have hv2 : ∀ y, rr = some y → ec = 0 ∧ TmAt (fun b => (b < n0 ∨ (W2.heap.size ≤ b ∧ b < (V1.alloc (.cells #[.int .i8 0, .int .i64 0, .string ⟨#[]⟩, .string ⟨#[]⟩, .slice none 0 0] 44)).heap.size)) ∧ b ≠ V1.heap.size) (V1.alloc (.cells #[.int .i8 0, .int .i64 0, .string ⟨#[]⟩, .string ⟨#[]⟩, .slice none 0 0] 44)) y (.agg #[.int .i8 k9, .int .i64 n9, .string s9, .string t9, .slice A9 m9 c9]) := fun y hy => ⟨(hv y hy).1, (hv y hy).2.keep (fun q hq => ba q (by have := HNR.out; have := hS.size; rcases hq with (h | h) | h <;> omega)) (fun q hq => by rw [World.size_alloc]; have := HNR.out; have := hS.size; have := HB.out.size; rcases hq with (h | h) | h; (exact ⟨.inl h, by omega⟩); (exact ⟨.inr ⟨by omega, by omega⟩, by omega⟩); (exact ⟨.inr ⟨by omega, by omega⟩, by omega⟩))⟩
            obtain ⟨ga, hgae⟩ : ∃ ga, ga = V1.heap.size := ⟨_, rfl⟩
            rw [← hgae] at hga hge hv2
            refine hK.out _ _ hS1 (fun hSn => ?_)
            clear hK K hSn; (try simp only [Act.put, sI, sZ, sS])
            rw [← hgae]
            generalize V1.alloc (.cells #[.int .i8 0, .int .i64 0, .string ⟨#[]⟩, .string ⟨#[]⟩, .slice none 0 0] 44) = V2 at hga hS1 hv2 ⊢
            clear hgae hS hv ba
            have hS := hS1
            have hv := hv2
            clear hS1 hv2
            obtain ⟨⟨z0, z1, z2, z3, z4⟩, zf0, zf1, zf2, zf3, zf4⟩ := five_fr hga
            obtain ⟨s5, m5⟩ := set_five (.int .i8 k9) (.int .i64 n9) (.string s9) (.string t9) (.slice A9 m9 c9) hga
            have hpr := Lib.hid (pr_of HNR.out hS hga hge hv hno s5 m5)
            have hS9 := hpr.out.below
            refine wpAnyH_ready (rs := [11]) (by kernel_rfl) (by simp) ?_
            refine AllReadyH.cons (o := ⟨none, _, _, _, _, _⟩) rfl (fun K hK => ?_) AllReadyH.nil
            · rw [if_pos (by rfl)]
              go_simp
              refine hK.out _ _ hS9 (fun hSn => ?_)
              clear hK K hSn; (try simp only [Act.put, sI, sZ, sS])
              refine wpAnyH_take (i := 12) (oi := ⟨some 12, _, _, _, _, _⟩) (v := ?_) rfl (by kernel_rfl) (by kernel_rfl) (by kernel_rfl) (fun _ _ _ h => h) (Or.inl ⟨by kernel_rfl, ?_⟩) (by assumption) ?_; rotate_left; (intro VV hSw; (try dsimp only at hSw); go_simp; first | done | with_reducible rfl); (try simp only [Act.put, sI, sZ, sS])
              refine wpAnyH_done (by kernel_rfl) ?_ _
              clear z0 zf0 z1 zf1 z2 zf2 z3 zf3 z4 zf4
              go_wp2_with fail
              go_meet
              exact ⟨ga, ec, rfl, rfl, hpr⟩
        · rw [if_pos (by rfl)]
          go_simp
          have hga := block_alloc V0 (.cells #[.int .i8 0, .int .i64 0, .string ⟨#[]⟩, .string ⟨#[]⟩, .slice none 0 0] 44)
          have hS1 := hS.alloc hS.size (.cells #[.int .i8 0, .int .i64 0, .string ⟨#[]⟩, .string ⟨#[]⟩, .slice none 0 0] 44)
          have hge : wr.heap.size ≤ V0.heap.size := hS.size
          obtain ⟨ga, hgae⟩ : ∃ ga, ga = V0.heap.size := ⟨_, rfl⟩
          rw [← hgae] at hga hge
          refine hK.out _ _ hS1 (fun hSn => ?_)
          clear hK K hSn; (try simp only [Act.put, sI, sZ, sS])
          rw [← hgae]
          generalize hV1 : V0.alloc (.cells #[.int .i8 0, .int .i64 0, .string ⟨#[]⟩, .string ⟨#[]⟩, .slice none 0 0] 44) = V1 at hga hS1 ⊢
          have hz1 : V1.heap.size = ga + 1 := by rw [← hV1, World.size_alloc, hgae]
          clear hgae hS hV1
          have hS := hS1
          clear hS1
          refine wpAnyH_ready (rs := [6]) (by kernel_rfl) (by simp) ?_
          refine AllReadyH.cons (o := ⟨some 42, _, _, _, _, _⟩) rfl (fun K hK => ?_) AllReadyH.nil
          · rw [if_pos (by rfl)]
            have hen := HEN.out #[.agg #[.int .i8 j, .int .i64 n, .string s, .string t, .slice A ps.length cap], .slice PA pn pc] V1
            go_simp
            have hcall := HPUT.out vs V1 A cap PA pn pc (fun b => b < n0 ∨ (W2.heap.size ≤ b ∧ b < wr.heap.size)) HVL.out (HU3.out.under hS) (fun b hb => .inl hb) (fun b hb => by have := hS.size; have := HNR.out; rcases hb with h | h <;> omega) (HTR.out.keep (fun q hq => hS.block q (by have := HNR.out; rcases hq with h | h <;> omega)) (fun _ h => h))
            refine hcall.mono ?_
            rintro e V2 ⟨k9, n9, s9, t9, A9, m9, c9, ec, rfl, hv, hno, b5⟩
            have hS1 := hS.trans (b5.mono hS.size)
            have zS := hS.size
            rw [← HRR.out] at hv hno
            have hga2 := (b5.block _ (heap_lt hga)).trans hga
            have hv2 : ∀ y, rr = some y → ec = 0 ∧ TmAt (fun b => (b < n0 ∨ (W2.heap.size ≤ b ∧ b < V2.heap.size)) ∧ b ≠ ga) V2 y (.agg #[.int .i8 k9, .int .i64 n9, .string s9, .string t9, .slice A9 m9 c9]) := fun y hy => ⟨(hv y hy).1, (hv y hy).2.mono (fun q hq => by have := HNR.out; have := b5.size; have := HB.out.size; rcases hq with (h | h) | h; (exact ⟨.inl h, by omega⟩); (exact ⟨.inr ⟨by omega, by omega⟩, by omega⟩); (exact ⟨.inr ⟨by omega, by omega⟩, by omega⟩))⟩
            refine hK.out _ _ hS1 (fun hSn => ?_)
            clear hK K hSn; (try simp only [Act.put, sI, sZ, sS])
            clear hS hcall
            have hS := hS1
            clear hS1
            refine wpAnyH_take (i := 7) (oi := ⟨some 35, _, _, _, _, _⟩) (v := ?_) rfl (by kernel_rfl) (by kernel_rfl) (by kernel_rfl) (fun _ _ _ h => h) (Or.inl ⟨by kernel_rfl, ?_⟩) (by assumption) ?_; rotate_left; (intro VV hSw; (try dsimp only at hSw); go_simp; first | done | with_reducible rfl); (try simp only [Act.put, sI, sZ, sS])
            refine wpAnyH_take (i := 8) (oi := ⟨some 43, _, _, _, _, _⟩) (v := ?_) rfl (by kernel_rfl) (by kernel_rfl) (by kernel_rfl) (fun _ _ _ h => h) (Or.inl ⟨by kernel_rfl, ?_⟩) (by assumption) ?_; rotate_left; (intro VV hSw; (try dsimp only at hSw); go_simp; first | done | with_reducible rfl); (try simp only [Act.put, sI, sZ, sS])
            refine wpAnyH_take (i := 9) (oi := ⟨some 44, _, _, _, _, _⟩) (v := ?_) rfl (by kernel_rfl) (by kernel_rfl) (by kernel_rfl) (fun _ _ _ h => h) (Or.inl ⟨by kernel_rfl, ?_⟩) (by assumption) ?_; rotate_left; (intro VV hSw; (try dsimp only at hSw); go_simp; first | done | with_reducible rfl); (try simp only [Act.put, sI, sZ, sS])
            clear hga hv
            have hga := hga2
            have hv := hv2
            clear hga2 hv2
            obtain ⟨⟨z0, z1, z2, z3, z4⟩, zf0, zf1, zf2, zf3, zf4⟩ := five_fr hga
            obtain ⟨s5, m5⟩ := set_five (.int .i8 k9) (.int .i64 n9) (.string s9) (.string t9) (.slice A9 m9 c9) hga
            have hpr := Lib.hid (pr_of HNR.out hS hga hge hv hno s5 m5)
            have hS9 := hpr.out.below
            refine wpAnyH_ready (rs := [11]) (by kernel_rfl) (by simp) ?_
            refine AllReadyH.cons (o := ⟨none, _, _, _, _, _⟩) rfl (fun K hK => ?_) AllReadyH.nil
            · rw [if_pos (by rfl)]
              go_simp
              refine hK.out _ _ hS9 (fun hSn => ?_)
              clear hK K hSn; (try simp only [Act.put, sI, sZ, sS])
              refine wpAnyH_take (i := 12) (oi := ⟨some 12, _, _, _, _, _⟩) (v := ?_) rfl (by kernel_rfl) (by kernel_rfl) (by kernel_rfl) (fun _ _ _ h => h) (Or.inl ⟨by kernel_rfl, ?_⟩) (by assumption) ?_; rotate_left; (intro VV hSw; (try dsimp only at hSw); go_simp; first | done | with_reducible rfl); (try simp only [Act.put, sI, sZ, sS])
              refine wpAnyH_done (by kernel_rfl) ?_ _
              clear z0 zf0 z1 zf1 z2 zf2 z3 zf3 z4 zf4
              go_wp2_with fail
              go_meet
              exact ⟨ga, ec, rfl, rfl, hpr⟩
      case rest =>
        obtain ⟨g9, ec, rfl, rfl, hcut⟩ := hcut
        obtain ⟨W5, hW5⟩ : ∃ W5, W5 = wc := ⟨_, rfl⟩
        subst hW5
        have HPR := Lib.hid hcut.out
        have HB5 := Lib.hid (HB2.out.trans ((HB.out.trans (hcut.out.below.mono HB.out.size)).mono HB2.out.size))
        have hg1 := (hcut.out.below.block _ (heap_lt HG1R.out)).trans HG1R.out
        have HG15 := Lib.hid hg1
        obtain ⟨k9, n9, s9, t9, A9, m9, c9, hr9, hv⟩ := hcut.out.at_
        have hno := hcut.out.no
        clear hcut
        have hbind : (gvTsO f ps).bind R = rr := by rw [HVL.out, HRR.out]; rfl
        have HBIND := Lib.hid hbind
        clear hbind
        cases rr with
        | none =>
          have hec : (ec != 0) = true := by simpa using hno rfl
          clear hr9 hv hno
          go_wp2_with fail
          refine (refused11_any _ _).mono ?_
          rintro e W6 ⟨rfl, hW6⟩
          have b6 : Below W5.heap.size W5 W6 := by rw [hW6]; exact (Below.refl _ _).alloc (Nat.le_refl _) _
          have r6 : W6.heap[W5.heap.size]? = some (.cells #[.int .i64 11, .int .i64 93, .int .i64 0] 76 (0, 0)) := by rw [hW6]; exact block_alloc _ _
          have HQ := Lib.hid r6
          have HB6 := Lib.hid (HB5.out.trans (b6.mono HB5.out.size))
          have hg2 := (b6.block _ (heap_lt HG15.out)).trans HG15.out
          have HG3 := Lib.hid hg2
          clear hW6 b6 r6 hg1
          obtain ⟨⟨r0, r1, r2, r3, r4⟩, rf0, rf1, rf2, rf3, rf4⟩ := five_fr hg2
          have S5 := Lib.hid (set_five (.int .i8 0) (.int .i64 0) (.string ⟨#[]⟩) (.string ⟨#[]⟩) (.slice none 0 0) hg2)
          go_wp2_with fail
          obtain ⟨s5, m5⟩ := S5.out
          generalize ((((((W6).setCell ⟨W.heap.size + 1, 0, none⟩ (.int .i8 0)).setCell ⟨W.heap.size + 1, 1, none⟩ (.int .i64 0)).setCell ⟨W.heap.size + 1, 2, none⟩ (.string ⟨#[]⟩)).setCell ⟨W.heap.size + 1, 3, none⟩ (.string ⟨#[]⟩)).setCell ⟨W.heap.size + 1, 4, none⟩ (.slice none 0 0)) = VX at s5 m5 ⊢
          obtain ⟨z0, z1, z2, z3, z4⟩ := five_of s5
          refine bodyPost_ret (v := .tuple #[.agg #[.int .i8 0, .int .i64 0, .string ⟨#[]⟩, .string ⟨#[]⟩, .slice none 0 0], .iface 69 (.pointer (some ⟨W5.heap.size, 0, none⟩))]) (by simp [results, Tryz.f160, go_sem, z0, z1, z2, z3, z4]) rfl ?_
          rw [HBIND.out]
          refine ⟨_, _, _, _, _, _, _, _, rfl, (fun y hy => by cases hy), (fun _ => ⟨_, rfl, (m5.block _ (heap_lt HQ.out) (ref_ne HQ.out HG3.out)).trans HQ.out⟩), HB6.out.trans (m5.below HB6.out.size (fun k (e : k = _) => by omega))⟩
        | some y =>
          obtain ⟨rfl, hy⟩ := hv y rfl
          have HY := Lib.hid hy
          obtain ⟨e0, e1, e2, e3, e4⟩ := five_of hr9
          clear hr9 hv hno hy
          obtain ⟨⟨r0, r1, r2, r3, r4⟩, rf0, rf1, rf2, rf3, rf4⟩ := five_fr hg1
          have S5 := Lib.hid (set_five (.int .i8 k9) (.int .i64 n9) (.string s9) (.string t9) (.slice A9 m9 c9) hg1)
          go_wp2_with fail
          obtain ⟨s5, m5⟩ := S5.out
          generalize ((((((W5).setCell ⟨W.heap.size + 1, 0, none⟩ (.int .i8 k9)).setCell ⟨W.heap.size + 1, 1, none⟩ (.int .i64 n9)).setCell ⟨W.heap.size + 1, 2, none⟩ (.string s9)).setCell ⟨W.heap.size + 1, 3, none⟩ (.string t9)).setCell ⟨W.heap.size + 1, 4, none⟩ (.slice A9 m9 c9)) = VX at s5 m5 ⊢
          obtain ⟨z0, z1, z2, z3, z4⟩ := five_of s5
          refine bodyPost_ret (v := .tuple #[.agg #[.int .i8 k9, .int .i64 n9, .string s9, .string t9, .slice A9 m9 c9], .nilIface]) (by simp [results, Tryz.f160, go_sem, z0, z1, z2, z3, z4]) rfl ?_
          rw [HBIND.out]
          refine ⟨_, _, _, _, _, _, _, _, rfl, (fun z hz => by
            cases hz
            refine ⟨rfl, HY.out.keep (fun q hq => m5.block q ?_ ?_) (fun q hq => ?_)⟩
            · have := HB5.out.size; have := HN0.out; rcases hq with h | h <;> omega
            · have := HZ2.out; have := HN0.out; rcases hq with h | h <;> omega
            · have := m5.size; have := HZ2.out; rcases hq with h | h; (exact .inl h); (exact .inr ⟨by omega, by omega⟩)), (fun h => by cases h), HB5.out.trans (m5.below HB5.out.size (fun k (e : k = _) => by omega))⟩
set_option maxHeartbeats 16000000 in
set_option maxRecDepth 100000 in
theorem val_stepV (n0 : Nat) (w0 : World) (l : List Bd) (gv gp gm : Nat) (f : Tm → Option Tm) (j : Nat) (n : Int) (s t : ByteArray) (ps : List Tm) (hj : j < 12) (hcell : (putsRow gm)[j]? = some (.func (.func 212) #[.map (some gm)] #[])) (R : List Tm → Option Tm)
    (hput : PutC n0 w0 l gv gp gm 212 #[.map (some gm)] f j n s t ps R) (ih : ∀ y ∈ ps, ∀ v V, Und n0 w0 l gv gp gm V → TmAt (· < V.heap.size) V y v → Calls Tryz.prog 160 #[v, .pointer (some ⟨gv, 0, none⟩), .pointer (some ⟨gp, 0, none⟩)] V (ValP (f y) n0 V))
    (hpl : ps.length ≤ 100000) (v : Value) (W : World) (hU : Und n0 w0 l gv gp gm W) (hT : TmAt (· < W.heap.size) W (.mk j n s t ps) v) :
    Calls Tryz.prog 160 #[v, .pointer (some ⟨gv, 0, none⟩), .pointer (some ⟨gp, 0, none⟩)] W (ValP ((gvTsO f ps).bind R) n0 W) := by
  obtain ⟨A, cap, rfl, hR, -⟩ := hT.parts
  have g0 := there_of (.cells #[.int .i8 0, .int .i64 0, .string ⟨#[]⟩, .string ⟨#[]⟩, .slice none 0 0] 44) (block_alloc W (.cells #[.int .i8 j, .int .i64 n, .string s, .string t, .slice A ps.length cap] 25))
  have g1 := block_alloc (W.alloc (.cells #[.int .i8 j, .int .i64 n, .string s, .string t, .slice A ps.length cap] 25)) (.cells #[.int .i8 0, .int .i64 0, .string ⟨#[]⟩, .string ⟨#[]⟩, .slice none 0 0] 44)
  rw [World.size_alloc] at g1
  have b2 : Below W.heap.size W ((W.alloc (.cells #[.int .i8 j, .int .i64 n, .string s, .string t, .slice A ps.length cap] 25)).alloc (.cells #[.int .i8 0, .int .i64 0, .string ⟨#[]⟩, .string ⟨#[]⟩, .slice none 0 0] 44)) := ((Below.refl _ W).alloc (Nat.le_refl _) _).alloc (by simp) _
  have z2 : ((W.alloc (.cells #[.int .i8 j, .int .i64 n, .string s, .string t, .slice A ps.length cap] 25)).alloc (.cells #[.int .i8 0, .int .i64 0, .string ⟨#[]⟩, .string ⟨#[]⟩, .slice none 0 0] 44)).heap.size = W.heap.size + 2 := by rw [World.size_alloc, World.size_alloc]
  obtain ⟨W2, hW2⟩ : ∃ W2, W2 = (W.alloc (.cells #[.int .i8 j, .int .i64 n, .string s, .string t, .slice A ps.length cap] 25)).alloc (.cells #[.int .i8 0, .int .i64 0, .string ⟨#[]⟩, .string ⟨#[]⟩, .slice none 0 0] 44) := ⟨_, rfl⟩
  rw [← hW2] at g0 g1 b2 z2
  have HB2 := Lib.hid b2
  have HG0 := Lib.hid g0
  have HG1 := Lib.hid g1
  have HZ2 := Lib.hid z2
  have HU := Lib.hid (hU.under b2)
  have hn0 : n0 ≤ W.heap.size := Nat.le_trans hU.n0 (Nat.le_trans (by have := hU.below.size; omega) (Nat.le_refl _))
  have HN0 : Hid (n0 ≤ W.heap.size) := hn0
  have HR := Lib.hid hR
  have HIH := Lib.hid ih
  have HPUT := Lib.hid hput
  have HCELL := Lib.hid hcell
  have x4 : W2.cell? ⟨W.heap.size, 4, none⟩ = some (.slice A ps.length cap) := cell_of_row (i := 4) g0 rfl
  clear g0 g1 b2 z2 hU hT hR hn0 ih hput hcell
  go_enter Tryz.func160, Tryz.ntmps160
  go_upto_region 1 with fail
  rw [← hW2]
  clear hW2
  go_wp2_with fail
  clear x4
  go_loopw [6, 16] (fun p q wr => ∃ i : Nat, i ≤ ps.length ∧ q = .int .i64 (i : Int) ∧ (∃ vs, gvTsO f (ps.take i) = some vs ∧ OwnT W2.heap.size (PB n0 W2.heap.size wr p) wr p vs) ∧ Below W2.heap.size W2 wr) (fun _ q _ => ps.length - (intOf q).toNat)
  case atStart => exact ⟨0, Nat.zero_le _, rfl, ⟨[], rfl, OwnT.nil _ _ _⟩, Below.refl _ _⟩
  case round =>
    obtain ⟨i, hi, rfl, ⟨vs, hvs, hO⟩, hB⟩ := hrel
    have HVS := Lib.hid hvs
    have HO := Lib.hid hO
    have HB := Lib.hid hB
    clear hvs hO hB
    by_cases hlt : i < ps.length
    · obtain ⟨y, hy⟩ : ∃ y, ps[i]? = some y := ⟨ps[i], List.getElem?_eq_getElem hlt⟩
      obtain ⟨ad, u, hA, had, hE, hTy⟩ := HR.out.at_ i y hy
      subst hA
      have hEr : ElemAt wr ad i u := hE.keep ((HB.out.block ad.block (by have := HZ2.out; omega)).trans (HB2.out.block ad.block had))
      obtain ⟨k', n', s', t', L', A', cap', rfl, rfl⟩ : ∃ k' n' s' t' L' A' cap', y = Tm.mk k' n' s' t' L' ∧ u = .agg #[.int .i8 k', .int .i64 n', .string s', .string t', .slice A' L'.length cap'] := by
        cases hTy; exact ⟨_, _, _, _, _, _, _, rfl, rfl⟩
      obtain ⟨q0, q1, q2, q3, q4, hc, e0, e1, e2, e3, e4⟩ := hEr
      simp only [Value.agg.injEq, Array.mk.injEq, List.cons.injEq, and_true] at hc
      obtain ⟨rfl, rfl, rfl, rfl, rfl⟩ := hc
      go_upto_region 5 with fail
      obtain ⟨W3, hW3⟩ : ∃ W3, W3 = wr.alloc (.cells #[.int .i8 k', .int .i64 n', .string s', .string t', .slice A' L'.length cap'] 25) := ⟨_, rfl⟩
      obtain ⟨g8, hg8⟩ : ∃ g8, g8 = wr.heap.size := ⟨_, rfl⟩
      have b3 : Below wr.heap.size wr W3 := by rw [hW3]; exact (Below.refl _ _).alloc (Nat.le_refl _) _
      have r8 : W3.heap[g8]? = some (.cells #[.int .i8 k', .int .i64 n', .string s', .string t', .slice A' L'.length cap'] 25 (0, 0)) := by rw [hW3, hg8]; exact block_alloc _ _
      rw [← hW3, ← hg8]
      have hU3 := HU.out.under (HB.out.trans (b3.mono HB.out.size))
      have hn2 : n0 ≤ wr.heap.size := by have := HB.out.size; have := HZ2.out; have := HN0.out; omega
      have HU3 := Lib.hid hU3
      have HR8 := Lib.hid r8
      have HB3 := Lib.hid (HB.out.trans (b3.mono HB.out.size))
      have HO3 := Lib.hid (own_later HO.out b3 hn2)
      have HTY := Lib.hid (hTy.keep (Q := (· < W3.heap.size)) (w' := W3) (fun q hq => (HB3.out.block q (by have := HZ2.out; omega)).trans (HB2.out.block q hq)) (fun q hq => by have := HB3.out.size; have := HZ2.out; omega))
      have HMEM := Lib.hid (List.mem_of_getElem? hy)
      have HYI := Lib.hid hy
      have HN3 : Hid (n0 ≤ W3.heap.size) := Nat.le_trans hn2 b3.size
      have HG8 : Hid (g8 = wr.heap.size ∧ W3.heap.size = wr.heap.size + 1) := ⟨hg8, by rw [hW3, World.size_alloc]⟩
      clear hW3 hg8 b3 r8 hU3 hn2 hE hTy hy had e0 e1 e2 e3 e4
      obtain ⟨fy, hfy⟩ : ∃ fy, fy = f (Tm.mk k' n' s' t' L') := ⟨_, rfl⟩
      have HFY := Lib.hid hfy
      clear hfy
      have hr8 := HR8.out
      obtain ⟨y0, y1, y2, y3, y4⟩ := five_of hr8
      have hv0 : W3.cell? ⟨gv, 0, none⟩ = some (.func (.func 160) #[] #[.pointer (some ⟨gv, 0, none⟩), .pointer (some ⟨gp, 0, none⟩)]) := cell_of_row (i := 0) HU3.out.val rfl
      clear hr8
      go_wp2_with fail
      refine (HIH.out _ HMEM.out _ W3 HU3.out HTY.out).mono ?_
      rintro e V1 ⟨k9, n9, s9, t9, A9, m9, c9, ev, rfl, hv, hno, b5⟩
      rw [← HFY.out] at hv hno
      have HB5 := Lib.hid b5
      clear b5 hv0 y0 y1 y2 y3 y4
      obtain ⟨W5, hW5⟩ : ∃ W5, W5 = V1.alloc (.cells #[.int .i8 k9, .int .i64 n9, .string s9, .string t9, .slice A9 m9 c9] 44) := ⟨_, rfl⟩
      obtain ⟨g9, hg9⟩ : ∃ g9, g9 = V1.heap.size := ⟨_, rfl⟩
      have b6 : Below V1.heap.size V1 W5 := by rw [hW5]; exact (Below.refl _ _).alloc (Nat.le_refl _) _
      have r9 : W5.heap[g9]? = some (.cells #[.int .i8 k9, .int .i64 n9, .string s9, .string t9, .slice A9 m9 c9] 44 (0, 0)) := by rw [hW5, hg9]; exact block_alloc _ _
      have z9 : W5.heap.size = V1.heap.size + 1 := by rw [hW5, World.size_alloc]
      have HZ9 := Lib.hid z9
      have HB35 := Lib.hid (HB5.out.trans (b6.mono HB5.out.size))
      have HB6 := Lib.hid b6
      have HR9 := Lib.hid r9
      clear b6 r9 z9
      cases fy with
      | none =>
        obtain ⟨q, rfl, hq⟩ := hno rfl
        have HQ := Lib.hid ((HB6.out.block _ (heap_lt hq)).trans hq)
        have HNONE := Lib.hid ((gvTsO_take HYI.out HVS.out).2 HFY.out.symm)
        clear hv hno hq
        go_upto_region 7 with fail
        rw [← hW5]
        clear hW5 hg9
        have HBW5 := Lib.hid (HB2.out.trans ((HB3.out.trans (HB35.out.mono HB3.out.size)).mono HB2.out.size))
        have hg1 := ((HB3.out.trans (HB35.out.mono HB3.out.size)).block _ (heap_lt HG1.out)).trans HG1.out
        obtain ⟨⟨r0, r1, r2, r3, r4⟩, rf0, rf1, rf2, rf3, rf4⟩ := five_fr hg1
        have HG3 := Lib.hid hg1
        have S5 := Lib.hid (set_five (.int .i8 0) (.int .i64 0) (.string ⟨#[]⟩) (.string ⟨#[]⟩) (.slice none 0 0) hg1)
        go_wp2_with fail
        obtain ⟨s5, m5⟩ := S5.out
        generalize ((((((W5).setCell ⟨W.heap.size + 1, 0, none⟩ (.int .i8 0)).setCell ⟨W.heap.size + 1, 1, none⟩ (.int .i64 0)).setCell ⟨W.heap.size + 1, 2, none⟩ (.string ⟨#[]⟩)).setCell ⟨W.heap.size + 1, 3, none⟩ (.string ⟨#[]⟩)).setCell ⟨W.heap.size + 1, 4, none⟩ (.slice none 0 0)) = VX at s5 m5 ⊢
        obtain ⟨z0, z1, z2, z3, z4⟩ := five_of s5
        refine bodyPost_ret (v := .tuple #[.agg #[.int .i8 0, .int .i64 0, .string ⟨#[]⟩, .string ⟨#[]⟩, .slice none 0 0], .iface 69 (.pointer (some ⟨q, 0, none⟩))]) (by simp [results, Tryz.f160, go_sem, z0, z1, z2, z3, z4]) rfl ?_
        rw [HNONE.out]
        refine ⟨_, _, _, _, _, _, _, _, rfl, (fun y hy => by cases hy), (fun _ => ⟨q, rfl, (m5.block _ (heap_lt HQ.out) (ref_ne HQ.out HG3.out)).trans HQ.out⟩), HBW5.out.trans (m5.below HBW5.out.size (fun k (e : k = _) => by omega))⟩
      | some z =>
        obtain ⟨rfl, hz⟩ := hv z rfl
        have HZV := Lib.hid hz
        have HSOME := Lib.hid ((gvTsO_take HYI.out HVS.out).1 z HFY.out.symm)
        clear hv hno hz
        go_upto_region 8 with fail
        rw [← hW5, ← hg9]
        clear hW5 hg9
        have r9 := HR9.out
        obtain ⟨t0, t1, t2, t3, t4⟩ := five_of r9
        clear r9
        obtain ⟨W6, hW6⟩ : ∃ W6, W6 = W5.alloc (.cells #[.int .i8 k9, .int .i64 n9, .string s9, .string t9, .slice A9 m9 c9] 44) := ⟨_, rfl⟩
        have b6 : Below W5.heap.size W5 W6 := by rw [hW6]; exact (Below.refl _ _).alloc (Nat.le_refl _) _
        have r6 : W6.heap[W5.heap.size]? = some (.cells #[.int .i8 k9, .int .i64 n9, .string s9, .string t9, .slice A9 m9 c9] 44 (0, 0)) := by rw [hW6]; exact block_alloc _ _
        have HR6 := Lib.hid r6
        have HB36 := Lib.hid (HB35.out.trans (b6.mono HB35.out.size))
        have HO6 := Lib.hid (own_later HO3.out HB36.out HN3.out)
        have HP6 : Hid (∀ b, PB n0 W2.heap.size W6 u6 b → b < W6.heap.size ∧ u6.ownBlock ≠ some b) := fun b hb => ⟨by have := HB36.out.size; have := HN3.out; rcases hb.1 with h | h <;> omega, hb.2⟩
        have HZ6 : Hid (TmAt (PB n0 W2.heap.size W6 u6) W6 z (.agg #[.int .i8 k9, .int .i64 n9, .string s9, .string t9, .slice A9 m9 c9])) := HZV.out.keep (fun q hq => ((HB6.out.trans (b6.mono HB6.out.size)).block q (by have := HB5.out.size; have := HN3.out; rcases hq with h | h <;> omega))) (fun q hq => ⟨by have := HB3.out.size; have := (HB6.out.trans (b6.mono HB6.out.size)).size; rcases hq with h | h; (exact .inl h); (exact .inr ⟨by omega, by omega⟩), fun e => by
          have h1 := HO.out.own q e
          have h2 := HN0.out
          have h3 := HZ2.out
          have h4 := HG8.out
          rcases hq with h | h <;> omega⟩)
        have HL6 : Hid (vs.length + 1 ≤ 1000000) := by
          have h1 := gvTsO_len HVS.out
          rw [List.length_take] at h1
          show _ ≤ _
          omega
        have HB26 : Hid (W2.heap.size ≤ W6.heap.size) := (HB3.out.trans (HB36.out.mono HB3.out.size)).size
        have HBW6 := Lib.hid (HB3.out.trans (HB36.out.mono HB3.out.size))
        clear b6 r6
        go_wp2_with (at_builtin; rw [← hW6]; refine wpList_own_term rfl (.tmp 30) (.tmp 32) rfl HO6.out HB26.out HP6.out rfl W5.heap.size rfl HR6.out HZ6.out HL6.out ?_)
        intro v7 W7 O7 hg7 hb7
        have hz6 : W6.heap.size = W5.heap.size + 1 := by rw [hW6, World.size_alloc]
        rw [← hW6] at O7 hg7
        rw [← hz6] at hb7
        have m7 : Mod (fun g => u6.ownBlock = some g) W6 W7 := Mod.grown hg7 (fun _ _ e => e)
        have hB7 : Below W2.heap.size W2 W7 := HBW6.out.trans (m7.below HBW6.out.size (fun g e => ((HO6.out).own g e).1))
        have O8 : OwnT W2.heap.size (PB n0 W2.heap.size W7 v7) W7 v7 (vs ++ [z]) := O7.keep (.refl (fun _ => False) _) (fun _ _ f => f) (fun b hb => ⟨by have := (HP6.out b hb).1; have := m7.size; omega, fun f => f⟩) (fun b hb => ⟨by have := m7.size; rcases hb.1 with h | h; (exact .inl h); (exact .inr ⟨h.1, by omega⟩), fun e => by
          rcases hb7 with h | h
          · exact hb.2 (h.trans e)
          · rw [h] at e; injection e with e; have := (HP6.out b hb).1; omega⟩)
        have HO8 := Lib.hid O8
        have HB8 := Lib.hid hB7
        clear O7 hg7 hb7 m7 hB7 O8 t0 t1 t2 t3 t4 hW6
        go_wp2_with fail
        go_roundw
        case rel => exact ⟨i + 1, by omega, by go_num, ⟨vs ++ [z], HSOME.out, HO8.out⟩, HB8.out⟩
        case measure => (simp [intOf] <;> omega)
    · obtain rfl : i = ps.length := by omega
      have hvs := HVS.out
      rw [List.take_length] at hvs
      obtain ⟨PA, pc, rfl⟩ := HO.out.shape
      obtain ⟨-, hTR⟩ := HO.out.trow (Q := fun b => b < n0 ∨ (W2.heap.size ≤ b ∧ b < wr.heap.size)) (fun b hb => hb.1) (fun b h1 h2 _ => .inr ⟨h1, h2⟩)
      have hU3 := HU.out.under HB.out
      have HU3 := Lib.hid hU3
      have HTR := Lib.hid hTR
      have HVL := Lib.hid hvs
      have HG0R := Lib.hid ((HB.out.block _ (heap_lt HG0.out)).trans HG0.out)
      have HG1R := Lib.hid ((HB.out.block _ (heap_lt HG1.out)).trans HG1.out)
      have HNR : Hid (n0 ≤ wr.heap.size) := by have := HB.out.size; have := HZ2.out; have := HN0.out; show _ ≤ _; omega
      have hj0 : (0 : Int) ≤ (j : Int) := by omega
      have hj1 : (j : Int) < 12 := by omega
      obtain ⟨pn, hpn⟩ : ∃ pn, pn = vs.length := ⟨_, rfl⟩
      rw [← hpn] at HTR
      rw [← hpn]
      clear hvs hTR hU3 hpn HO HVS
      obtain ⟨rr, hrr⟩ : ∃ rr, rr = R vs := ⟨_, rfl⟩
      have HRR := Lib.hid hrr
      clear hrr
      go_upto_region 10 with fail
      go_cut [11, 12] (fun p q wx => ∃ g9 ec, p = .pointer (some ⟨g9, 0, none⟩) ∧ q = .int .i64 ec ∧ Hid (PR rr n0 W2.heap.size wr wx g9 ec))
      case first =>
        refine wp_region_held (S := fun V => Below wr.heap.size wr V) (by kernel_rfl) ?_
        show wpAnyH _ _ _ _ _ _ _ _ wr.drew
        have hS : Below wr.heap.size wr wr.drew := ⟨rfl, rfl, rfl, Nat.le_refl _, fun _ _ => rfl⟩
        generalize wr.drew = V0 at hS ⊢
        refine wpAnyH_take (i := 0) (oi := ⟨some 36, _, _, _, _, _⟩) (v := ?_) rfl (by kernel_rfl) (by kernel_rfl) (by kernel_rfl) (fun _ _ _ h => h) (Or.inl ⟨by kernel_rfl, ?_⟩) (by assumption) ?_; rotate_left; (intro VV hSw; (try dsimp only at hSw); go_simp; first | done | with_reducible rfl); (try simp only [Act.put, sI, sZ, sS])
        refine wpAnyH_take (i := 1) (oi := ⟨some 37, _, _, _, _, _⟩) (v := ?_) rfl (by kernel_rfl) (by kernel_rfl) (by kernel_rfl) (fun _ _ _ h => h) (Or.inl ⟨by kernel_rfl, ?_⟩) (by assumption) ?_; rotate_left; (intro VV hSw; (try dsimp only at hSw); have hr := (hSw.block _ (heap_lt HG0R.out)).trans HG0R.out; obtain ⟨y0, y1, y2, y3, y4⟩ := five_of hr; go_simp; first | done | with_reducible rfl); (try simp only [Act.put, sI, sZ, sS])
        refine wpAnyH_take (i := 2) (oi := ⟨some 38, _, _, _, _, _⟩) (v := ?_) rfl (by kernel_rfl) (by kernel_rfl) (by kernel_rfl) (fun _ _ _ h => h) (Or.inl ⟨by kernel_rfl, ?_⟩) (by assumption) ?_; rotate_left; (intro VV hSw; (try dsimp only at hSw); go_simp; first | done | with_reducible rfl); (try simp only [Act.put, sI, sZ, sS])
        refine wpAnyH_take (i := 3) (oi := ⟨some 39, _, _, _, _, _⟩) (v := ?_) rfl (by kernel_rfl) (by kernel_rfl) (by kernel_rfl) (fun _ _ _ h => h) (Or.inl ⟨by kernel_rfl, ?_⟩) (by assumption) ?_; rotate_left; (intro VV hSw; (try dsimp only at hSw); have hu := HU3.out.under hSw; have hp := cell_of_row (i := j) hu.puts HCELL.out; go_simp; first | done | with_reducible rfl); (try simp only [Act.put, sI, sZ, sS])
        refine wpAnyH_take (i := 4) (oi := ⟨some 40, _, _, _, _, _⟩) (v := ?_) rfl (by kernel_rfl) (by kernel_rfl) (by kernel_rfl) (fun _ _ _ h => h) (Or.inl ⟨by kernel_rfl, ?_⟩) (by assumption) ?_; rotate_left; (intro VV hSw; (try dsimp only at hSw); have hr := (hSw.block _ (heap_lt HG0R.out)).trans HG0R.out; obtain ⟨y0, y1, y2, y3, y4⟩ := five_of hr; go_simp; first | done | with_reducible rfl); (try simp only [Act.put, sI, sZ, sS])
        refine wpAnyH_take (i := 5) (oi := ⟨some 41, _, _, _, _, _⟩) (v := ?_) rfl (by kernel_rfl) (by kernel_rfl) (by kernel_rfl) (fun _ _ _ h => h) (Or.inl ⟨by kernel_rfl, ?_⟩) (by assumption) ?_; rotate_left; (intro VV hSw; (try dsimp only at hSw); go_simp; first | done | with_reducible rfl); (try simp only [Act.put, sI, sZ, sS])
        refine wpAnyH_ready (rs := [6, 10]) (by kernel_rfl) (by simp) ?_
        refine AllReadyH.cons (o := ⟨some 42, _, _, _, _, _⟩) rfl (fun K hK => ?_) (AllReadyH.cons (o := ⟨some 11, _, _, _, _, _⟩) rfl (fun K hK => ?_) AllReadyH.nil)
        · rw [if_pos (by rfl)]
          go_simp
          have hcall := HPUT.out vs V0 A cap PA pn pc (fun b => b < n0 ∨ (W2.heap.size ≤ b ∧ b < wr.heap.size)) HVL.out (HU3.out.under hS) (fun b hb => .inl hb) (fun b hb => by have := hS.size; have := HNR.out; rcases hb with h | h <;> omega) (HTR.out.keep (fun q hq => hS.block q (by have := HNR.out; rcases hq with h | h <;> omega)) (fun _ h => h))
          refine hcall.mono ?_
          rintro e V1 ⟨k9, n9, s9, t9, A9, m9, c9, ec, rfl, hv, hno, b5⟩
          have hS1 := hS.trans (b5.mono hS.size)
          have zS := hS.size
          rw [← HRR.out] at hv hno
          refine hK.out _ _ hS1 (fun hSn => ?_)
          clear hK K hSn; (try simp only [Act.put, sI, sZ, sS])
          clear hS hcall
          have hS := hS1
          clear hS1
          refine wpAnyH_take (i := 7) (oi := ⟨some 35, _, _, _, _, _⟩) (v := ?_) rfl (by kernel_rfl) (by kernel_rfl) (by kernel_rfl) (fun _ _ _ h => h) (Or.inl ⟨by kernel_rfl, ?_⟩) (by assumption) ?_; rotate_left; (intro VV hSw; (try dsimp only at hSw); go_simp; first | done | with_reducible rfl); (try simp only [Act.put, sI, sZ, sS])
          refine wpAnyH_take (i := 8) (oi := ⟨some 43, _, _, _, _, _⟩) (v := ?_) rfl (by kernel_rfl) (by kernel_rfl) (by kernel_rfl) (fun _ _ _ h => h) (Or.inl ⟨by kernel_rfl, ?_⟩) (by assumption) ?_; rotate_left; (intro VV hSw; (try dsimp only at hSw); go_simp; first | done | with_reducible rfl); (try simp only [Act.put, sI, sZ, sS])
          refine wpAnyH_take (i := 9) (oi := ⟨some 44, _, _, _, _, _⟩) (v := ?_) rfl (by kernel_rfl) (by kernel_rfl) (by kernel_rfl) (fun _ _ _ h => h) (Or.inl ⟨by kernel_rfl, ?_⟩) (by assumption) ?_; rotate_left; (intro VV hSw; (try dsimp only at hSw); go_simp; first | done | with_reducible rfl); (try simp only [Act.put, sI, sZ, sS])
          refine wpAnyH_ready (rs := [10]) (by kernel_rfl) (by simp) ?_
          refine AllReadyH.cons (o := ⟨some 11, _, _, _, _, _⟩) rfl (fun K hK => ?_) AllReadyH.nil
          · rw [if_pos (by rfl)]
            go_simp
            have hga := block_alloc V1 (.cells #[.int .i8 0, .int .i64 0, .string ⟨#[]⟩, .string ⟨#[]⟩, .slice none 0 0] 44)
            have hS1 := hS.alloc hS.size (.cells #[.int .i8 0, .int .i64 0, .string ⟨#[]⟩, .string ⟨#[]⟩, .slice none 0 0] 44)
            have hge : wr.heap.size ≤ V1.heap.size := hS.size
            have ba := Below.heap_alloc V1 (.cells #[.int .i8 0, .int .i64 0, .string ⟨#[]⟩, .string ⟨#[]⟩, .slice none 0 0] 44)
            have hv2 : ∀ y, rr = some y → ec = 0 ∧ TmAt (fun b => (b < n0 ∨ (W2.heap.size ≤ b ∧ b < (V1.alloc (.cells #[.int .i8 0, .int .i64 0, .string ⟨#[]⟩, .string ⟨#[]⟩, .slice none 0 0] 44)).heap.size)) ∧ b ≠ V1.heap.size) (V1.alloc (.cells #[.int .i8 0, .int .i64 0, .string ⟨#[]⟩, .string ⟨#[]⟩, .slice none 0 0] 44)) y (.agg #[.int .i8 k9, .int .i64 n9, .string s9, .string t9, .slice A9 m9 c9]) := fun y hy => ⟨(hv y hy).1, (hv y hy).2.keep (fun q hq => ba q (by have := HNR.out; have := hS.size; rcases hq with (h | h) | h <;> omega)) (fun q hq => by rw [World.size_alloc]; have := HNR.out; have := hS.size; have := HB.out.size; rcases hq with (h | h) | h; (exact ⟨.inl h, by omega⟩); (exact ⟨.inr ⟨by omega, by omega⟩, by omega⟩); (exact ⟨.inr ⟨by omega, by omega⟩, by omega⟩))⟩
            obtain ⟨ga, hgae⟩ : ∃ ga, ga = V1.heap.size := ⟨_, rfl⟩
            rw [← hgae] at hga hge hv2
            refine hK.out _ _ hS1 (fun hSn => ?_)
            clear hK K hSn; (try simp only [Act.put, sI, sZ, sS])
            rw [← hgae]
            generalize V1.alloc (.cells #[.int .i8 0, .int .i64 0, .string ⟨#[]⟩, .string ⟨#[]⟩, .slice none 0 0] 44) = V2 at hga hS1 hv2 ⊢
            clear hgae hS hv ba
            have hS := hS1
            have hv := hv2
            clear hS1 hv2
            obtain ⟨⟨z0, z1, z2, z3, z4⟩, zf0, zf1, zf2, zf3, zf4⟩ := five_fr hga
            obtain ⟨s5, m5⟩ := set_five (.int .i8 k9) (.int .i64 n9) (.string s9) (.string t9) (.slice A9 m9 c9) hga
            have hpr := Lib.hid (pr_of HNR.out hS hga hge hv hno s5 m5)
            have hS9 := hpr.out.below
            refine wpAnyH_ready (rs := [11]) (by kernel_rfl) (by simp) ?_
            refine AllReadyH.cons (o := ⟨none, _, _, _, _, _⟩) rfl (fun K hK => ?_) AllReadyH.nil
            · rw [if_pos (by rfl)]
              go_simp
              refine hK.out _ _ hS9 (fun hSn => ?_)
              clear hK K hSn; (try simp only [Act.put, sI, sZ, sS])
              refine wpAnyH_take (i := 12) (oi := ⟨some 12, _, _, _, _, _⟩) (v := ?_) rfl (by kernel_rfl) (by kernel_rfl) (by kernel_rfl) (fun _ _ _ h => h) (Or.inl ⟨by kernel_rfl, ?_⟩) (by assumption) ?_; rotate_left; (intro VV hSw; (try dsimp only at hSw); go_simp; first | done | with_reducible rfl); (try simp only [Act.put, sI, sZ, sS])
              refine wpAnyH_done (by kernel_rfl) ?_ _
              clear z0 zf0 z1 zf1 z2 zf2 z3 zf3 z4 zf4
              go_wp2_with fail
              go_meet
              exact ⟨ga, ec, rfl, rfl, hpr⟩
        · rw [if_pos (by rfl)]
          go_simp
          have hga := block_alloc V0 (.cells #[.int .i8 0, .int .i64 0, .string ⟨#[]⟩, .string ⟨#[]⟩, .slice none 0 0] 44)
          have hS1 := hS.alloc hS.size (.cells #[.int .i8 0, .int .i64 0, .string ⟨#[]⟩, .string ⟨#[]⟩, .slice none 0 0] 44)
          have hge : wr.heap.size ≤ V0.heap.size := hS.size
          obtain ⟨ga, hgae⟩ : ∃ ga, ga = V0.heap.size := ⟨_, rfl⟩
          rw [← hgae] at hga hge
          refine hK.out _ _ hS1 (fun hSn => ?_)
          clear hK K hSn; (try simp only [Act.put, sI, sZ, sS])
          rw [← hgae]
          generalize hV1 : V0.alloc (.cells #[.int .i8 0, .int .i64 0, .string ⟨#[]⟩, .string ⟨#[]⟩, .slice none 0 0] 44) = V1 at hga hS1 ⊢
          have hz1 : V1.heap.size = ga + 1 := by rw [← hV1, World.size_alloc, hgae]
          clear hgae hS hV1
          have hS := hS1
          clear hS1
          refine wpAnyH_ready (rs := [6]) (by kernel_rfl) (by simp) ?_
          refine AllReadyH.cons (o := ⟨some 42, _, _, _, _, _⟩) rfl (fun K hK => ?_) AllReadyH.nil
          · rw [if_pos (by rfl)]
            go_simp
            have hcall := HPUT.out vs V1 A cap PA pn pc (fun b => b < n0 ∨ (W2.heap.size ≤ b ∧ b < wr.heap.size)) HVL.out (HU3.out.under hS) (fun b hb => .inl hb) (fun b hb => by have := hS.size; have := HNR.out; rcases hb with h | h <;> omega) (HTR.out.keep (fun q hq => hS.block q (by have := HNR.out; rcases hq with h | h <;> omega)) (fun _ h => h))
            refine hcall.mono ?_
            rintro e V2 ⟨k9, n9, s9, t9, A9, m9, c9, ec, rfl, hv, hno, b5⟩
            have hS1 := hS.trans (b5.mono hS.size)
            have zS := hS.size
            rw [← HRR.out] at hv hno
            have hga2 := (b5.block _ (heap_lt hga)).trans hga
            have hv2 : ∀ y, rr = some y → ec = 0 ∧ TmAt (fun b => (b < n0 ∨ (W2.heap.size ≤ b ∧ b < V2.heap.size)) ∧ b ≠ ga) V2 y (.agg #[.int .i8 k9, .int .i64 n9, .string s9, .string t9, .slice A9 m9 c9]) := fun y hy => ⟨(hv y hy).1, (hv y hy).2.mono (fun q hq => by have := HNR.out; have := b5.size; have := HB.out.size; rcases hq with (h | h) | h; (exact ⟨.inl h, by omega⟩); (exact ⟨.inr ⟨by omega, by omega⟩, by omega⟩); (exact ⟨.inr ⟨by omega, by omega⟩, by omega⟩))⟩
            refine hK.out _ _ hS1 (fun hSn => ?_)
            clear hK K hSn; (try simp only [Act.put, sI, sZ, sS])
            clear hS hcall
            have hS := hS1
            clear hS1
            refine wpAnyH_take (i := 7) (oi := ⟨some 35, _, _, _, _, _⟩) (v := ?_) rfl (by kernel_rfl) (by kernel_rfl) (by kernel_rfl) (fun _ _ _ h => h) (Or.inl ⟨by kernel_rfl, ?_⟩) (by assumption) ?_; rotate_left; (intro VV hSw; (try dsimp only at hSw); go_simp; first | done | with_reducible rfl); (try simp only [Act.put, sI, sZ, sS])
            refine wpAnyH_take (i := 8) (oi := ⟨some 43, _, _, _, _, _⟩) (v := ?_) rfl (by kernel_rfl) (by kernel_rfl) (by kernel_rfl) (fun _ _ _ h => h) (Or.inl ⟨by kernel_rfl, ?_⟩) (by assumption) ?_; rotate_left; (intro VV hSw; (try dsimp only at hSw); go_simp; first | done | with_reducible rfl); (try simp only [Act.put, sI, sZ, sS])
            refine wpAnyH_take (i := 9) (oi := ⟨some 44, _, _, _, _, _⟩) (v := ?_) rfl (by kernel_rfl) (by kernel_rfl) (by kernel_rfl) (fun _ _ _ h => h) (Or.inl ⟨by kernel_rfl, ?_⟩) (by assumption) ?_; rotate_left; (intro VV hSw; (try dsimp only at hSw); go_simp; first | done | with_reducible rfl); (try simp only [Act.put, sI, sZ, sS])
            clear hga hv
            have hga := hga2
            have hv := hv2
            clear hga2 hv2
            obtain ⟨⟨z0, z1, z2, z3, z4⟩, zf0, zf1, zf2, zf3, zf4⟩ := five_fr hga
            obtain ⟨s5, m5⟩ := set_five (.int .i8 k9) (.int .i64 n9) (.string s9) (.string t9) (.slice A9 m9 c9) hga
            have hpr := Lib.hid (pr_of HNR.out hS hga hge hv hno s5 m5)
            have hS9 := hpr.out.below
            refine wpAnyH_ready (rs := [11]) (by kernel_rfl) (by simp) ?_
            refine AllReadyH.cons (o := ⟨none, _, _, _, _, _⟩) rfl (fun K hK => ?_) AllReadyH.nil
            · rw [if_pos (by rfl)]
              go_simp
              refine hK.out _ _ hS9 (fun hSn => ?_)
              clear hK K hSn; (try simp only [Act.put, sI, sZ, sS])
              refine wpAnyH_take (i := 12) (oi := ⟨some 12, _, _, _, _, _⟩) (v := ?_) rfl (by kernel_rfl) (by kernel_rfl) (by kernel_rfl) (fun _ _ _ h => h) (Or.inl ⟨by kernel_rfl, ?_⟩) (by assumption) ?_; rotate_left; (intro VV hSw; (try dsimp only at hSw); go_simp; first | done | with_reducible rfl); (try simp only [Act.put, sI, sZ, sS])
              refine wpAnyH_done (by kernel_rfl) ?_ _
              clear z0 zf0 z1 zf1 z2 zf2 z3 zf3 z4 zf4
              go_wp2_with fail
              go_meet
              exact ⟨ga, ec, rfl, rfl, hpr⟩
      case rest =>
        obtain ⟨g9, ec, rfl, rfl, hcut⟩ := hcut
        obtain ⟨W5, hW5⟩ : ∃ W5, W5 = wc := ⟨_, rfl⟩
        subst hW5
        have HPR := Lib.hid hcut.out
        have HB5 := Lib.hid (HB2.out.trans ((HB.out.trans (hcut.out.below.mono HB.out.size)).mono HB2.out.size))
        have hg1 := (hcut.out.below.block _ (heap_lt HG1R.out)).trans HG1R.out
        have HG15 := Lib.hid hg1
        obtain ⟨k9, n9, s9, t9, A9, m9, c9, hr9, hv⟩ := hcut.out.at_
        have hno := hcut.out.no
        clear hcut
        have hbind : (gvTsO f ps).bind R = rr := by rw [HVL.out, HRR.out]; rfl
        have HBIND := Lib.hid hbind
        clear hbind
        cases rr with
        | none =>
          have hec : (ec != 0) = true := by simpa using hno rfl
          clear hr9 hv hno
          go_wp2_with fail
          refine (refused11_any _ _).mono ?_
          rintro e W6 ⟨rfl, hW6⟩
          have b6 : Below W5.heap.size W5 W6 := by rw [hW6]; exact (Below.refl _ _).alloc (Nat.le_refl _) _
          have r6 : W6.heap[W5.heap.size]? = some (.cells #[.int .i64 11, .int .i64 93, .int .i64 0] 76 (0, 0)) := by rw [hW6]; exact block_alloc _ _
          have HQ := Lib.hid r6
          have HB6 := Lib.hid (HB5.out.trans (b6.mono HB5.out.size))
          have hg2 := (b6.block _ (heap_lt HG15.out)).trans HG15.out
          have HG3 := Lib.hid hg2
          clear hW6 b6 r6 hg1
          obtain ⟨⟨r0, r1, r2, r3, r4⟩, rf0, rf1, rf2, rf3, rf4⟩ := five_fr hg2
          have S5 := Lib.hid (set_five (.int .i8 0) (.int .i64 0) (.string ⟨#[]⟩) (.string ⟨#[]⟩) (.slice none 0 0) hg2)
          go_wp2_with fail
          obtain ⟨s5, m5⟩ := S5.out
          generalize ((((((W6).setCell ⟨W.heap.size + 1, 0, none⟩ (.int .i8 0)).setCell ⟨W.heap.size + 1, 1, none⟩ (.int .i64 0)).setCell ⟨W.heap.size + 1, 2, none⟩ (.string ⟨#[]⟩)).setCell ⟨W.heap.size + 1, 3, none⟩ (.string ⟨#[]⟩)).setCell ⟨W.heap.size + 1, 4, none⟩ (.slice none 0 0)) = VX at s5 m5 ⊢
          obtain ⟨z0, z1, z2, z3, z4⟩ := five_of s5
          refine bodyPost_ret (v := .tuple #[.agg #[.int .i8 0, .int .i64 0, .string ⟨#[]⟩, .string ⟨#[]⟩, .slice none 0 0], .iface 69 (.pointer (some ⟨W5.heap.size, 0, none⟩))]) (by simp [results, Tryz.f160, go_sem, z0, z1, z2, z3, z4]) rfl ?_
          rw [HBIND.out]
          refine ⟨_, _, _, _, _, _, _, _, rfl, (fun y hy => by cases hy), (fun _ => ⟨_, rfl, (m5.block _ (heap_lt HQ.out) (ref_ne HQ.out HG3.out)).trans HQ.out⟩), HB6.out.trans (m5.below HB6.out.size (fun k (e : k = _) => by omega))⟩
        | some y =>
          obtain ⟨rfl, hy⟩ := hv y rfl
          have HY := Lib.hid hy
          obtain ⟨e0, e1, e2, e3, e4⟩ := five_of hr9
          clear hr9 hv hno hy
          obtain ⟨⟨r0, r1, r2, r3, r4⟩, rf0, rf1, rf2, rf3, rf4⟩ := five_fr hg1
          have S5 := Lib.hid (set_five (.int .i8 k9) (.int .i64 n9) (.string s9) (.string t9) (.slice A9 m9 c9) hg1)
          go_wp2_with fail
          obtain ⟨s5, m5⟩ := S5.out
          generalize ((((((W5).setCell ⟨W.heap.size + 1, 0, none⟩ (.int .i8 k9)).setCell ⟨W.heap.size + 1, 1, none⟩ (.int .i64 n9)).setCell ⟨W.heap.size + 1, 2, none⟩ (.string s9)).setCell ⟨W.heap.size + 1, 3, none⟩ (.string t9)).setCell ⟨W.heap.size + 1, 4, none⟩ (.slice A9 m9 c9)) = VX at s5 m5 ⊢
          obtain ⟨z0, z1, z2, z3, z4⟩ := five_of s5
          refine bodyPost_ret (v := .tuple #[.agg #[.int .i8 k9, .int .i64 n9, .string s9, .string t9, .slice A9 m9 c9], .nilIface]) (by simp [results, Tryz.f160, go_sem, z0, z1, z2, z3, z4]) rfl ?_
          rw [HBIND.out]
          refine ⟨_, _, _, _, _, _, _, _, rfl, (fun z hz => by
            cases hz
            refine ⟨rfl, HY.out.keep (fun q hq => m5.block q ?_ ?_) (fun q hq => ?_)⟩
            · have := HB5.out.size; have := HN0.out; rcases hq with h | h <;> omega
            · have := HZ2.out; have := HN0.out; rcases hq with h | h <;> omega
            · have := m5.size; have := HZ2.out; rcases hq with h | h; (exact .inl h); (exact .inr ⟨by omega, by omega⟩)), (fun h => by cases h), HB5.out.trans (m5.below HB5.out.size (fun k (e : k = _) => by omega))⟩
end Go.Proofs.YtkceoiaaiaomoaaGreatDoor
