/- term.FromList, term.List, proper: their contracts. -/
import Derived.Test.YtohbljgagbnjoaaDoorListT
set_option linter.unusedVariables false
namespace Go.Proofs.YtohbljgagbnjoaaDoor
open Go.RowKit

theorem chain_front {a x z : Tm} {hs : List Tm} {n : Int} {s t : ByteArray} (h : Chain x hs z) : Chain (.mk 7 n s t [a, x]) (a :: hs) z := by
  induction h with
  | nil => exact .snoc (hs := []) .nil
  | @snoc hs n' s' t' c d _ ih => exact .snoc (hs := a :: hs) ih
theorem chain_roll {x z : Tm} {hs : List Tm} (hV : Valid x) (h : Chain x hs z) : x = rollT hs z := by
  induction h with
  | nil => rfl
  | @snoc hs n s t a b hc ih =>
    rw [ih]
    have hz := (hc.valid hV).1.own
    have h := valid_cases hz
    have hm : Tm.mk 7 n s t [a, b] = .mk 7 0 ⟨#[]⟩ ⟨#[]⟩ [a, b] := by
      rcases h with h | h | h | h | h | h | h | h
      all_goals first
        | (exfalso; have h1 := h.1; omega)
        | skip
      obtain ⟨_, rfl, rfl, rfl, _⟩ := h; rfl
    rw [hm]
    clear ih hc hz h hm
    induction hs with
    | nil => rfl
    | cons c hs ih => rw [rollT, ih]; rfl
theorem roll_one : ∀ {hs hs' : List Tm} {z z' : Tm}, rollT hs z = rollT hs' z' → z.k ≠ 7 → z'.k ≠ 7 → hs = hs' ∧ z = z' := by
  intro hs
  induction hs with
  | nil =>
    intro hs' z z' h hz hz'
    cases hs' with
    | nil => exact ⟨rfl, h⟩
    | cons a hs' => exfalso; apply hz; rw [show z = rollT (a :: hs') z' from h]; rfl
  | cons a hs ih =>
    intro hs' z z' h hz hz'
    cases hs' with
    | nil => exfalso; apply hz'; rw [show z' = rollT (a :: hs) z from h.symm]; rfl
    | cons b hs' =>
      simp only [rollT, Tm.mk.injEq, List.cons.injEq, and_true, true_and] at h
      obtain ⟨rfl, h⟩ := h
      obtain ⟨rfl, rfl⟩ := ih h hz hz'
      exact ⟨rfl, rfl⟩
theorem chain_one {x z z' : Tm} {hs hs' : List Tm} (hV : Valid x) (h : Chain x hs z) (h' : Chain x hs' z') (hz : z.k ≠ 7) (hz' : z'.k ≠ 7) : hs = hs' ∧ z = z' :=
  roll_one ((chain_roll hV h).symm.trans (chain_roll hV h')) hz hz'
theorem roll_nodes (hs : List Tm) (z : Tm) : (rollT hs z).nodes = (Tm.pres hs).length + z.nodes + hs.length := by
  induction hs with
  | nil => simp [rollT, Tm.pres]
  | cons a hs ih =>
    have : (rollT (a :: hs) z).nodes = 1 + a.nodes + (rollT hs z).nodes := by
      unfold Tm.nodes; rw [rollT, Tm.pre, Tm.pres, Tm.pres, Tm.pres]; simp; omega
    rw [this, ih, Tm.pres, List.length_append, List.length_cons]; unfold Tm.nodes; omega
theorem fit_roll (hs : List Tm) (hV : ∀ y ∈ hs, Valid y) (h : (rollT hs nilT).nodes ≤ 256) : fitN (hs.length + 1) hs = 0 := by
  rw [roll_nodes] at h
  have h1 : nilT.nodes = 1 := rfl
  have small : ∀ l : List Tm, (Tm.pres l).length ≤ 256 → sumN l = (Tm.pres l).length := by
    intro l
    induction l with
    | nil => intro _; rfl
    | cons a l ih =>
      intro h
      rw [Tm.pres, List.length_append] at h ⊢
      rw [sumN, ih (by omega)]; unfold Tm.nodes; omega
  have hs2 := small hs (by omega)
  unfold fitN
  rw [if_neg, if_neg (by omega)]
  rw [Bool.not_eq_true, List.any_eq_false]
  intro y hy e
  have hn : y.nodes ≤ 256 := by have := pres_node hy; omega
  rw [check_of (hV y hy) hn] at e
  exact absurd e (by decide)

set_option maxHeartbeats 4000000 in
set_option maxRecDepth 100000 in
theorem FromList_ok (l : List Tm) (A : Option Addr) (cap : Nat) (w : World) (hR : TRow (· < w.heap.size) w A l.length cap l) (hS : Spans w) (hf : fitN (l.length + 1) l = 0) (hll : l.length ≤ 1000) :
    Calls Tryd.prog 17 #[.slice A l.length cap] w fun e w' => ∃ v, e = .returned (.tuple #[v, .int .i64 0]) ∧ TmAt (· < w'.heap.size) w' (rollT l nilT) v ∧ Below w.heap.size w w' := by
  have B1 : Below w.heap.size w (w.alloc termZ) := (Below.refl _ w).alloc (Nat.le_refl _) _
  have HC := Lib.hid (fit_any (l.length + 1) (by omega) A l.length cap l (by omega) _ (hR.later B1) (hS.below B1 hS.lt))
  have HR := Lib.hid hR
  have HF := Lib.hid hf
  have HB1 := Lib.hid B1
  have HG1 : Hid ((w.alloc termZ).heap[w.heap.size]? = some termZ) := block_alloc _ _
  clear hR hS hf B1
  have he : (l.length : Int) + 1 = ((l.length + 1 : Nat) : Int) := by omega
  have HE := Lib.hid he
  clear he
  go_enter Tryd.func17, Tryd.ntmps17
  go_wp2_with fail
  rw [HE.out]
  refine HC.out.mono ?_
  rintro e V1 ⟨rfl, b1⟩
  rw [HF.out]
  have HB2 := Lib.hid (HB1.out.trans (b1.mono HB1.out.size))
  have HG2 := Lib.hid ((b1.block _ (heap_lt HG1.out)).trans HG1.out)
  clear b1
  go_wp2_with fail
  refine (termOf_empty 0 ⟨#[]⟩ ⟨#[]⟩ none 0 0 _).mono ?_
  rintro e V2 ⟨rfl, b2⟩
  have HB3 := Lib.hid (HB2.out.trans (b2.mono HB2.out.size))
  have HG3 := Lib.hid ((b2.block _ (heap_lt HG2.out)).trans HG2.out)
  clear b2
  go_wp2_with fail
  refine (roll_any (fun b => b < w.heap.size) l nilT A cap _ V2 (fun b hb => Nat.lt_of_lt_of_le hb HB3.out.size) (HR.out.keep (fun b hb => HB3.out.block b hb) (fun _ h => h)) (nilT_at _ _)).mono ?_
  rintro e V3 ⟨v, rfl, hT, b3⟩
  obtain ⟨ku, nu, su, tu, Lu, Au, capu, hc⟩ : ∃ k' n' s' t' L' A' cap', v = .agg #[.int .i8 k', .int .i64 n', .string s', .string t', .slice A' (List.length (α := Tm) L') cap'] := by
    have h2 := hT
    generalize rollT l nilT = q at h2
    cases h2; exact ⟨_, _, _, _, _, _, _, rfl⟩
  subst hc
  have g4 := (b3.block _ (heap_lt HG3.out)).trans HG3.out
  unfold termZ at g4
  have r0 : (V3).cell? ⟨w.heap.size, 0, none⟩ = some (.int .i8 0) := cell_of_row g4 rfl
  have r1 : (V3).cell? ⟨w.heap.size, 1, none⟩ = some (.int .i64 0) := cell_of_row g4 rfl
  have r2 : (V3).cell? ⟨w.heap.size, 2, none⟩ = some (.string ⟨#[]⟩) := cell_of_row g4 rfl
  have r3 : (V3).cell? ⟨w.heap.size, 3, none⟩ = some (.string ⟨#[]⟩) := cell_of_row g4 rfl
  have r4 : (V3).cell? ⟨w.heap.size, 4, none⟩ = some (.slice none 0 0) := cell_of_row g4 rfl
  have f0 : (V3).frozen? ⟨w.heap.size, 0, none⟩ = false := free_of_row g4
  have f1 : (V3).frozen? ⟨w.heap.size, 1, none⟩ = false := free_of_row g4
  have f2 : (V3).frozen? ⟨w.heap.size, 2, none⟩ = false := free_of_row g4
  have f3 : (V3).frozen? ⟨w.heap.size, 3, none⟩ = false := free_of_row g4
  have f4 : (V3).frozen? ⟨w.heap.size, 4, none⟩ = false := free_of_row g4
  have S5 := Lib.hid (set_five (.int .i8 ku) (.int .i64 nu) (.string su) (.string tu) (.slice Au Lu.length capu) g4)
  have HB4 := Lib.hid (HB3.out.trans (b3.mono HB3.out.size))
  have HT := Lib.hid hT
  have HZ := Lib.hid b3.size
  have HZ2 : Hid (w.heap.size < V2.heap.size) := heap_lt HG3.out
  clear g4 b3 hT
  go_wp2_with fail
  obtain ⟨s5, m5⟩ := S5.out
  generalize ((((((V3).setCell ⟨w.heap.size, 0, none⟩ (.int .i8 ku)).setCell ⟨w.heap.size, 1, none⟩ (.int .i64 nu)).setCell ⟨w.heap.size, 2, none⟩ (.string su)).setCell ⟨w.heap.size, 3, none⟩ (.string tu)).setCell ⟨w.heap.size, 4, none⟩ (.slice Au Lu.length capu)) = VX at s5 m5 ⊢
  have z0 : VX.cell? ⟨w.heap.size, 0, none⟩ = some (.int .i8 ku) := cell_of_row s5 rfl
  have z1 : VX.cell? ⟨w.heap.size, 1, none⟩ = some (.int .i64 nu) := cell_of_row s5 rfl
  have z2 : VX.cell? ⟨w.heap.size, 2, none⟩ = some (.string su) := cell_of_row s5 rfl
  have z3 : VX.cell? ⟨w.heap.size, 3, none⟩ = some (.string tu) := cell_of_row s5 rfl
  have z4 : VX.cell? ⟨w.heap.size, 4, none⟩ = some (.slice Au Lu.length capu) := cell_of_row s5 rfl
  refine bodyPost_ret (v := .tuple #[.agg #[(.int .i8 ku), (.int .i64 nu), (.string su), (.string tu), (.slice Au Lu.length capu)], (.int .i64 0)]) (by simp [results, Tryd.f17, go_sem, z0, z1, z2, z3, z4]) rfl ?_
  have hz := m5.size
  have hz2 := HZ2.out
  have hz3 := HZ.out
  refine ⟨_, rfl, HT.out.keep (fun b hb => m5.block b ?_ ?_) (fun b hb => ?_), HB4.out.trans (m5.below HB4.out.size (fun k (e : k = _) => by omega))⟩
  · rcases hb with hb | hb
    · have h1 : b < w.heap.size := hb; omega
    · exact hb.2
  · rcases hb with hb | hb
    · have h1 : b < w.heap.size := hb; omega
    · have h1 := hb.1; omega
  · rcases hb with hb | hb
    · have h1 : b < w.heap.size := hb; omega
    · have h1 := hb.2; omega

/-- What List hands back, at a term that may be. -/
def ListP (x : Tm) (w : World) (e : Ending) (w' : World) : Prop :=
  ∃ hs z, Chain x hs z ∧ z.k ≠ 7 ∧ Below w.heap.size w w' ∧ ((z.k = 6 ∧ ∃ A cap, e = .returned (.tuple #[.slice A hs.length cap, .bool true]) ∧ TRow (· < w'.heap.size) w' A hs.length cap hs) ∨ (z.k ≠ 6 ∧ e = .returned (.tuple #[.slice none 0 0, .bool false])))

set_option maxHeartbeats 4000000 in
set_option maxRecDepth 100000 in
theorem List_ok (x : Tm) (v : Value) (w : World) (hx : TmAt (· < w.heap.size) w x v) (hV : Valid x) (hn : x.nodes ≤ 256) (hS : Spans w) :
    Calls Tryd.prog 16 #[v] w (ListP x w) := by
  obtain ⟨kx, nx, sx, tx, Lx, Ax, capx, ex, rfl⟩ : ∃ k' n' s' t' L' A' cap', x = Tm.mk k' n' s' t' L' ∧ v = .agg #[.int .i8 k', .int .i64 n', .string s', .string t', .slice A' L'.length cap'] := by
    cases hx; exact ⟨_, _, _, _, _, _, _, rfl, rfl⟩
  clear ex
  obtain ⟨w1, hw1⟩ : ∃ w1, w1 = w.alloc (.cells #[(.int .i8 kx), (.int .i64 nx), (.string sx), (.string tx), (.slice Ax Lx.length capx)] 25) := ⟨_, rfl⟩
  have B1 : Below w.heap.size w w1 := by rw [hw1]; exact (Below.refl _ w).alloc (Nat.le_refl _) _
  have g1 : w1.heap[w.heap.size]? = some (.cells #[(.int .i8 kx), (.int .i64 nx), (.string sx), (.string tx), (.slice Ax Lx.length capx)] 25 (0, 0)) := by rw [hw1]; exact block_alloc _ _
  have HC : Hid (Calls Tryd.prog 10 #[.agg #[(.int .i8 kx), (.int .i64 nx), (.string sx), (.string tx), (.slice Ax Lx.length capx)]] w1 fun e w' => e = .returned (.int .i64 0) ∧ Below w1.heap.size w1 w') := by
    have := Check_any x _ w1 (hx.later B1) (hS.below B1 hS.lt)
    rwa [check_of hV hn] at this
  have HX := Lib.hid hx
  have HV := Lib.hid hV
  have HB1 := Lib.hid B1
  have HG1 := Lib.hid g1
  have x0 : w1.cell? ⟨w.heap.size, 0, none⟩ = some (.int .i8 kx) := cell_of_row g1 rfl
  have x1 : w1.cell? ⟨w.heap.size, 1, none⟩ = some (.int .i64 nx) := cell_of_row g1 rfl
  have x2 : w1.cell? ⟨w.heap.size, 2, none⟩ = some (.string sx) := cell_of_row g1 rfl
  have x3 : w1.cell? ⟨w.heap.size, 3, none⟩ = some (.string tx) := cell_of_row g1 rfl
  have x4 : w1.cell? ⟨w.heap.size, 4, none⟩ = some (.slice Ax Lx.length capx) := cell_of_row g1 rfl
  clear hx hV hS B1 g1
  subst hw1
  go_enter Tryd.func16, Tryd.ntmps16
  go_wp2_with fail
  refine HC.out.mono ?_
  rintro e V1 ⟨rfl, b1⟩
  have g1 := (b1.block _ (heap_lt HG1.out)).trans HG1.out
  have HB2 := Lib.hid (HB1.out.trans (b1.mono HB1.out.size))
  clear x0 x1 x2 x3 x4 b1
  have x0 : V1.cell? ⟨w.heap.size, 0, none⟩ = some (.int .i8 kx) := cell_of_row g1 rfl
  have x1 : V1.cell? ⟨w.heap.size, 1, none⟩ = some (.int .i64 nx) := cell_of_row g1 rfl
  have x2 : V1.cell? ⟨w.heap.size, 2, none⟩ = some (.string sx) := cell_of_row g1 rfl
  have x3 : V1.cell? ⟨w.heap.size, 3, none⟩ = some (.string tx) := cell_of_row g1 rfl
  have x4 : V1.cell? ⟨w.heap.size, 4, none⟩ = some (.slice Ax Lx.length capx) := cell_of_row g1 rfl
  clear g1
  go_wp2_with fail
  refine (unroll_any (fun b => b < V1.heap.size) x _ V1 (fun _ h => h) (HX.out.later HB2.out) HV.out (by omega)).mono ?_
  rintro e V2 ⟨A, n, cap, tv, hs, z, rfl, hch, hz7, hR, hT, b2⟩
  have HB3 := Lib.hid (HB2.out.trans (b2.mono HB2.out.size))
  have HR := Lib.hid hR
  have HZ7 := Lib.hid hz7
  have HCH := Lib.hid hch
  obtain rfl := hR.len
  obtain ⟨kz, nz, sz, tz, Lz, Az, capz, ez, rfl⟩ : ∃ k' n' s' t' L' A' cap', z = Tm.mk k' n' s' t' L' ∧ tv = .agg #[.int .i8 k', .int .i64 n', .string s', .string t', .slice A' L'.length cap'] := by
    cases hT; exact ⟨_, _, _, _, _, _, _, rfl, rfl⟩
  have HTZ : Hid (∃ L', z = Tm.mk kz nz sz tz L') := ⟨_, ez⟩
  clear ez
  have HB2S := Lib.hid b2.size
  have x0' : (V2.alloc (.cells #[(.int .i8 kz), (.int .i64 nz), (.string sz), (.string tz), (.slice Az Lz.length capz)] 25)).cell? ⟨V2.heap.size, 0, none⟩ = some (.int .i8 kz) := cell_of_row (block_alloc _ _) rfl
  clear hT hR hz7 hch b2 x0 x1 x2 x3 x4
  by_cases h6 : kz = 6
  · have h61 : (kz != 6) = false := by simpa using h6
    have H6 := Lib.hid h6
    clear h6
    go_wp2_with fail
    go_ret2
    refine ⟨hs, z, HCH.out, HZ7.out, HB3.out.alloc HB3.out.size _, .inl ⟨by obtain ⟨L', e⟩ := HTZ.out; rw [e]; exact H6.out, A, cap, rfl, HR.out.keep (fun b hb => Below.heap_alloc _ _ _ ?_) (fun b hb => ?_)⟩⟩
    · rcases hb with hb | ⟨h1, c, fz, h2⟩
      · have h3 : b < V1.heap.size := hb; have := HB2S.out; omega
      · exact heap_lt h2
    · rw [World.size_alloc]
      rcases hb with hb | ⟨h1, c, fz, h2⟩
      · have h3 : b < V1.heap.size := hb; have := HB2S.out; omega
      · have := heap_lt h2; omega
  · have h61 : (kz != 6) = true := by simpa using h6
    have H6 := Lib.hid h6
    clear h6
    go_wp2_with fail
    go_ret2
    exact ⟨hs, z, HCH.out, HZ7.out, HB3.out.alloc HB3.out.size _, .inr ⟨by obtain ⟨L', e⟩ := HTZ.out; rw [e]; exact H6.out, rfl⟩⟩

/-- How many nodes the term in a box has: there is a number that tells it. -/
theorem boxN_is (P : Nat → Prop) (b : Nat) : ∃ bn : World → Nat, ∀ (w : World) (z : Tm) (c : Array Value), w.heap[b]? = some (.cells c 25 (0, 0)) → TmAt P w z (.agg c) → bn w = z.nodes := by
  refine ⟨fun w => @dite Nat (∃ z c, w.heap[b]? = some (.cells c 25 (0, 0)) ∧ TmAt P w z (.agg c)) (Classical.propDecidable _) (fun h => (Classical.choose h).nodes) (fun _ => 0), fun w z c hb hT => ?_⟩
  have h : ∃ z c, w.heap[b]? = some (.cells c 25 (0, 0)) ∧ TmAt P w z (.agg c) := ⟨z, c, hb, hT⟩
  show @dite Nat _ (Classical.propDecidable _) _ _ = _
  rw [dif_pos h]
  obtain ⟨c', h1, h2⟩ := Classical.choose_spec h
  rw [hb] at h1
  cases h1
  rw [h2.one hT]

/-- What proper hands back. -/
def ProperP (x : Tm) (w : World) (e : Ending) (w' : World) : Prop := ∃ hs z, Chain x hs z ∧ z.k ≠ 7 ∧ e = .returned (.bool (z.k == 6)) ∧ Below w.heap.size w w'

set_option maxHeartbeats 4000000 in
set_option maxRecDepth 100000 in
theorem proper_ok (x : Tm) (v : Value) (w : World) (hx : TmAt (· < w.heap.size) w x v) (hV : Valid x) :
    Calls Tryd.prog 18 #[v] w (ProperP x w) := by
  obtain ⟨kx, nx, sx, tx, Lx, Ax, capx, ex, rfl⟩ : ∃ k' n' s' t' L' A' cap', x = Tm.mk k' n' s' t' L' ∧ v = .agg #[.int .i8 k', .int .i64 n', .string s', .string t', .slice A' L'.length cap'] := by
    cases hx; exact ⟨_, _, _, _, _, _, _, rfl, rfl⟩
  clear ex
  obtain ⟨w1, hw1⟩ : ∃ w1, w1 = w.alloc (.cells #[(.int .i8 kx), (.int .i64 nx), (.string sx), (.string tx), (.slice Ax Lx.length capx)] 25) := ⟨_, rfl⟩
  have B1 : Below w.heap.size w w1 := by rw [hw1]; exact (Below.refl _ w).alloc (Nat.le_refl _) _
  have g1 : w1.heap[w.heap.size]? = some (.cells #[(.int .i8 kx), (.int .i64 nx), (.string sx), (.string tx), (.slice Ax Lx.length capx)] 25 (0, 0)) := by rw [hw1]; exact block_alloc _ _
  have HX := Lib.hid (hx.keep (Q := (· < w.heap.size)) (fun b hb => B1.block b hb) (fun _ h => h))
  have HV := Lib.hid hV
  have HB1 := Lib.hid B1
  have HG1 := Lib.hid g1
  clear hx hV B1 g1
  go_enter Tryd.func18, Tryd.ntmps18
  go_wp2_with fail
  rw [← hw1]
  clear hw1
  obtain ⟨bn, hbn⟩ := boxN_is (· < w.heap.size) w.heap.size
  have HBN := Lib.hid hbn
  clear hbn
  go_loopw [4] (fun _ wr => ∃ (hs : List Tm) (z : Tm) (c : Array Value), Chain x hs z ∧ TmAt (· < w.heap.size) wr z (.agg c) ∧ wr.heap[w.heap.size]? = some (.cells c 25 (0, 0)) ∧ Below w.heap.size w wr) (fun _ wr => bn wr)
  case atStart => exact ⟨[], x, _, .nil, HX.out, HG1.out, HB1.out⟩
  case round =>
    obtain ⟨hs, z, c, hch, hTz, hbx, hB⟩ := hrel
    obtain ⟨k', n', s', t', l', A', cap', hz, hc⟩ : ∃ k' n' s' t' L' A' cap', z = Tm.mk k' n' s' t' L' ∧ Value.agg c = .agg #[.int .i8 k', .int .i64 n', .string s', .string t', .slice A' L'.length cap'] := by
      cases hTz; exact ⟨_, _, _, _, _, _, _, rfl, rfl⟩
    simp only [Value.agg.injEq] at hc
    subst hc hz
    have x0 : wr.cell? ⟨w.heap.size, 0, none⟩ = some (.int .i8 k') := cell_of_row hbx rfl
    have x4 : wr.cell? ⟨w.heap.size, 4, none⟩ = some (.slice A' l'.length cap') := cell_of_row hbx rfl
    have HM := Lib.hid (HBN.out _ _ _ hbx hTz)
    have HCH := Lib.hid hch
    have HBX := Lib.hid hbx
    have HB := Lib.hid hB
    have HTz := Lib.hid hTz
    clear hch hbx hB hTz
    by_cases hk : k' = 7
    · subst hk
      obtain ⟨ya, yb, rfl⟩ := cons_two (HCH.out.valid HV.out).1.own
      obtain ⟨A3, cap3, e3, hR, _⟩ := HTz.out.parts
      simp only [Value.agg.injEq, Array.mk.injEq, List.cons.injEq, and_true, true_and, Value.slice.injEq] at e3
      obtain ⟨rfl, rfl⟩ := e3
      obtain ⟨ad, ub, rfl, hadb, hEb, hTb⟩ := hR.at_ 1 yb rfl
      obtain ⟨kb, nb, sb, tb, lb, Ab, capb, hyb, rfl⟩ : ∃ k' n' s' t' L' A' cap', yb = Tm.mk k' n' s' t' L' ∧ ub = .agg #[.int .i8 k', .int .i64 n', .string s', .string t', .slice A' L'.length cap'] := by
        cases hTb; exact ⟨_, _, _, _, _, _, _, rfl, rfl⟩
      clear hyb
      have HTb := Lib.hid hTb
      obtain ⟨d0, d1, d2, d3, d4, hd, g0, g1, g2, g3, g4⟩ := hEb
      simp only [Value.agg.injEq, Array.mk.injEq, List.cons.injEq, and_true] at hd
      obtain ⟨rfl, rfl, rfl, rfl, rfl⟩ := hd
      have ea1 : ad.add (1 * 5) = ⟨ad.block, ad.off + 5, none⟩ := by simp [Addr.add]
      rw [ea1] at g0 g1 g2 g3 g4
      dsimp only at g0 g1 g2 g3 g4
      have f0 : wr.frozen? ⟨w.heap.size, 0, none⟩ = false := free_of_row HBX.out
      have f1 : wr.frozen? ⟨w.heap.size, 1, none⟩ = false := free_of_row HBX.out
      have f2 : wr.frozen? ⟨w.heap.size, 2, none⟩ = false := free_of_row HBX.out
      have f3 : wr.frozen? ⟨w.heap.size, 3, none⟩ = false := free_of_row HBX.out
      have f4 : wr.frozen? ⟨w.heap.size, 4, none⟩ = false := free_of_row HBX.out
      have x1 : wr.cell? ⟨w.heap.size, 1, none⟩ = some (.int .i64 n') := cell_of_row HBX.out rfl
      have x2 : wr.cell? ⟨w.heap.size, 2, none⟩ = some (.string s') := cell_of_row HBX.out rfl
      have x3 : wr.cell? ⟨w.heap.size, 3, none⟩ = some (.string t') := cell_of_row HBX.out rfl
      have HLT := Lib.hid (nodes_part (k := 7) (n := n') (s := s') (t := t') (l := [ya, yb]) (y := yb) (by simp))
      clear ea1 hTb hR hadb
      have S5 := Lib.hid (set_five (.int .i8 kb) (.int .i64 nb) (.string sb) (.string tb) (.slice Ab lb.length capb) HBX.out)
      go_wp2_with fail
      obtain ⟨s5, m5⟩ := S5.out
      have hwr := HB.out.size
      have hT5 := HTb.out.keep (Q := (· < w.heap.size)) (fun b hb => m5.block b (by omega) (by omega)) (fun _ h => h)
      refine ⟨⟨hs ++ [ya], yb, _, .snoc HCH.out, hT5, s5, HB.out.trans (m5.below hwr (fun g (e : g = w.heap.size) => by omega))⟩, ?_⟩
      rw [HBN.out _ _ _ s5 hT5, HM.out]
      exact HLT.out
    · have hk1 : (k' == 7) = false := by rw [beq_eq_false_iff_ne]; exact hk
      have HNK : Hid ((Tm.mk k' n' s' t' l').k ≠ 7) := hk
      clear hk
      go_wp2_with fail
      go_ret
      exact ⟨hs, _, HCH.out, HNK.out, rfl, HB.out⟩
end Go.Proofs.YtohbljgagbnjoaaDoor
