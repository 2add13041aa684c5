/- The program's own scan.tokens: an iterator over the tokens of a text, and the first flaw behind them. -/
import Derived.Test.YtkaijnbefbggeaaDoorScanZ
import Derived.Test.YtkaijnbefbggeaaDoorScanV
set_option linter.unusedVariables false
namespace Go.Proofs.YtkaijnbefbggeaaDoor
open Go.RowKit

/-- The block of the row that the box Lb holds. -/
def rowIn (Lb : Nat) (A : World) (k : Nat) : Prop := ∃ v, A.cell? ⟨Lb, 0, none⟩ = some v ∧ v.ownBlock = some k
/-- What a round may turn: the box Lb and the row in it. -/
structure KpL (Lb : Nat) (A B : World) : Prop where
  size : A.heap.size ≤ B.heap.size
  keep : ∀ k o, A.heap[k]? = some o → o.isCells = true → k ≠ Lb → ¬ rowIn Lb A k → B.heap[k]? = some o
  row : ∀ k, rowIn Lb B k → rowIn Lb A k ∨ (A.heap.size ≤ k ∧ k < B.heap.size)
theorem KpL.trans {Lb : Nat} {A B C : World} (h : KpL Lb A B) (g : KpL Lb B C) : KpL Lb A C :=
  ⟨Nat.le_trans h.size g.size, fun k o hk ho hL hr => g.keep k o (h.keep k o hk ho hL hr) ho hL (fun hb => by
      rcases h.row k hb with h1 | h1
      · exact hr h1
      · have := heap_lt hk; omega),
   fun k hk => by
      have h1 := h.size
      have h2 := g.size
      rcases g.row k hk with h3 | h3
      · rcases h.row k h3 with h4 | h4
        · exact .inl h4
        · exact .inr (by omega)
      · exact .inr (by omega)⟩
theorem rowIn_eq {Lb : Nat} {A B : World} (h : B.heap[Lb]? = A.heap[Lb]?) (k : Nat) : rowIn Lb B k ↔ rowIn Lb A k := by
  have : B.cell? ⟨Lb, 0, none⟩ = A.cell? ⟨Lb, 0, none⟩ := World.cell?_of_block h
  unfold rowIn; rw [this]
theorem KpL.of_below {Lb : Nat} {A B : World} (h : Below A.heap.size A B) (hl : Lb < A.heap.size) : KpL Lb A B :=
  ⟨h.size, fun k o hk _ _ _ => (h.block k (heap_lt hk)).trans hk, fun k hk => .inl ((rowIn_eq (h.block Lb hl) k).1 hk)⟩
theorem KpL.put {Lb : Nat} {W : World} {l : Nat} {o o' : Obj} (hl : Lb ≠ l) (h : W.heap[l]? = some o) (ho : o.isCells = false) : KpL Lb W (W.putObj l o') :=
  ⟨by simp, fun k u hk hu _ _ => by
      have : k ≠ l := fun e => by subst e; rw [h] at hk; cases hk; rw [ho] at hu; cases hu
      exact (World.putObj_heap_other this).trans hk,
   fun k hk => .inl ((rowIn_eq (World.putObj_heap_other hl) k).1 hk)⟩

/-- What the iterator's rounds stand on. -/
structure Itr (Lb Bs : Nat) (s : ByteArray) (W V : World) : Prop where
  lo : Lb < W.heap.size ∧ Lb ≠ Bs ∧ Lb ≠ 2 ∧ Lb ≠ 1 ∧ Lb ≠ 0
  hi : Bs < W.heap.size ∧ 2 < W.heap.size ∧ 1 < W.heap.size ∧ 0 < W.heap.size
  size : W.heap.size ≤ V.heap.size
  box : V.heap[Bs]? = some (.cells #[.string s] 9 (0, 0))
  env : ScanE V
  row : ∀ k, rowIn Lb V k → W.heap.size ≤ k ∧ k < V.heap.size
theorem Itr.kp {Lb Bs : Nat} {s : ByteArray} {W V V' : World} (h : Itr Lb Bs s W V) (k : KpL Lb V V') : Itr Lb Bs s W V' := by
  have kk : ∀ b o, b ≠ Lb → b < W.heap.size → o.isCells = true → V.heap[b]? = some o → V'.heap[b]? = some o := fun b o hL hb ho hv => k.keep b o hv ho hL (fun hr => by have := (h.row b hr).1; omega)
  obtain ⟨⟨t1, f1, h1⟩, ⟨t2, f2, h2⟩, ⟨t3, f3, h3⟩⟩ := h.env
  refine ⟨h.lo, h.hi, Nat.le_trans h.size k.size, kk _ _ (Ne.symm h.lo.2.1) h.hi.1 rfl h.box,
    ⟨⟨t1, f1, kk _ _ (Ne.symm h.lo.2.2.1) h.hi.2.1 rfl h1⟩, ⟨t2, f2, kk _ _ (Ne.symm h.lo.2.2.2.1) h.hi.2.2.1 rfl h2⟩, ⟨t3, f3, kk _ _ (Ne.symm h.lo.2.2.2.2) h.hi.2.2.2 rfl h3⟩⟩, fun b hb => ?_⟩
  have hz := h.size
  have hz2 := k.size
  rcases k.row b hb with h4 | h4
  · have := h.row b h4; omega
  · omega
theorem Itr.under {Lb Bs : Nat} {s : ByteArray} {W V V' : World} (h : Itr Lb Bs s W V) (b : Below V.heap.size V V') : Itr Lb Bs s W V' := h.kp (KpL.of_below b (Nat.lt_of_lt_of_le h.lo.1 h.size))
theorem Itr.fresh {Lb Bs : Nat} {s : ByteArray} {W V D B : World} (h : Itr Lb Bs s W V) (b : Below V.heap.size V D) (g : KpL Lb D B) {k : Nat} {o : Obj} (hk : V.heap.size ≤ k) (hD : D.heap[k]? = some o) (ho : o.isCells = true) : B.heap[k]? = some o :=
  g.keep k o hD ho (fun e => by have h1 := h.lo.1; have h2 := h.size; omega) (fun hr => by
    have := h.row k ((rowIn_eq (b.block Lb (Nat.lt_of_lt_of_le h.lo.1 h.size)) k).1 hr)
    omega)

/-- Two boxes, a token's and a flaw's, just made. -/
theorem boxes_of (w : World) (c0 c1 c2 c3 d0 d1 : Value) :
    ((w.alloc (.cells #[c0, c1, c2, c3] 25)).alloc (.cells #[d0, d1] 28)).heap[w.heap.size]? = some (.cells #[c0, c1, c2, c3] 25 (0, 0)) ∧
    ((w.alloc (.cells #[c0, c1, c2, c3] 25)).alloc (.cells #[d0, d1] 28)).heap[w.heap.size + 1]? = some (.cells #[d0, d1] 28 (0, 0)) ∧
    Below w.heap.size w ((w.alloc (.cells #[c0, c1, c2, c3] 25)).alloc (.cells #[d0, d1] 28)) := by
  have h1 := block_alloc (w.alloc (.cells #[c0, c1, c2, c3] 25)) (.cells #[d0, d1] 28)
  rw [World.size_alloc] at h1
  exact ⟨(Below.heap_alloc _ _ _ (by simp)).trans (block_alloc _ _), h1, ((Below.refl _ w).alloc (Nat.le_refl _) _).alloc (by simp) _⟩

def encI (x : Itm) : Array Value := #[x.1.v, .agg #[.int .i64 x.2.1, .int .i64 x.2.2]]

set_option maxRecDepth 100000 in
set_option maxHeartbeats 4000000 in
theorem tokens1_in (s : ByteArray) (hs : s.size ≤ 1000000) (n : Nat) (hn : 1 ≤ n) (l Lb Bs : Nat) (J Jx : List Itm → World → Prop)
    (hJa : ∀ pre W W', J pre W → Below W.heap.size W W' → J pre W')
    (hY : ∀ pre x W, J pre W → pre.length < (itemsV s).length → YieldAt Fence.wide (n - 1) Tryd.prog l (encI x) W fun e W' =>
      (e = .returned (.bool true) ∧ J (pre ++ [x]) W' ∧ KpL Lb W W') ∨ (e = .returned (.bool false) ∧ Jx (pre ++ [x]) W'))
    (W : World) (hI : Itr Lb Bs s W W) (h0 : J [] W) :
    CallsIn Fence.wide n Tryd.prog 26 #[.func (.yield l) #[] #[], .pointer (some ⟨Bs, 0, none⟩)] W fun e W' => (∃ v, e = .returned v) ∧
      ((∃ ys, ys = itemsV s ∧ J ys W') ∨ (∃ pre, (∃ k, pre = (itemsV s).take k) ∧ Jx pre W')) := by
  have hc0 : W.cell? ⟨Bs, 0, none⟩ = some (.string s) := cell_of_row hI.box rfl
  have HJ := Lib.hid hJa
  have HY := Lib.hid hY
  have HI := Lib.hid hI
  have H0 := Lib.hid h0
  clear hJa hY hI h0
  refine callsIn_of_wp Tryd.func26 rfl trivial ?_ rfl
  simp only [Tryd.ntmps26, List.size_toArray, List.length_cons, List.length_nil, Nat.reduceAdd, Nat.reduceSub, Array.replicate_succ, Array.replicate_zero, List.push_toArray, List.append_toArray, List.nil_append, List.cons_append]
  by_cases hbig : 8192 < s.size
  · have hit : itemsV s = [(tk0, 3, 0)] := by unfold itemsV; rw [if_pos hbig]
    obtain ⟨fn, tmps, assign, body, hy, hR⟩ := HY.out [] (tk0, 3, 0) W H0.out (by rw [hit]; decide)
    simp only [encI, Tk.v, tk0] at hy
    gi_wp2_with fail
    refine hR.mono ?_
    rintro e W3 (⟨rfl, hJ3, -⟩ | ⟨rfl, hJx3⟩)
    · have HJ3 := Lib.hid hJ3
      clear hJ3 hR hy
      gi_wp2_with fail
      refine bodyPost_ret (results_none rfl _ _ _) rfl ?_
      exact ⟨⟨_, rfl⟩, .inl ⟨_, hit.symm, HJ3.out⟩⟩
    · have HJ3 := Lib.hid hJx3
      clear hJx3 hR hy
      gi_wp2_with fail
      refine bodyPost_ret (results_none rfl _ _ _) rfl ?_
      exact ⟨⟨_, rfl⟩, .inr ⟨_, ⟨1, by rw [hit]; rfl⟩, HJ3.out⟩⟩
  · have hit : itemsV s = (scanL s.size 0 s.data.toList).1.map tkI ++ flI (scanL s.size 0 s.data.toList).2 := by unfold itemsV; rw [if_neg hbig]
    obtain ⟨ALL, hall⟩ : ∃ ALL, ALL = scanL s.size 0 s.data.toList := ⟨_, rfl⟩
    rw [← hall] at hit
    have HIT := Lib.hid hit
    have HALL := Lib.hid hall
    clear hit hall
    gi_wp2_with fail
    refine ⟨trivial, ?_⟩
    gi_at_call 9
    refine (callsIn_wide.2 (sBlank_any s 0 W hs)).mono ?_
    rintro e w1 ⟨rfl, hq⟩
    subst w1
    gi_wp2_with fail
    gi_loopw [3] (fun i wr => ∃ (o : Nat) (pre xs : List PT) (fl : Option (Int × Nat)), o ≤ s.size ∧ i = .int .i64 (blankR s o) ∧ Hid (scanL s.size o (s.data.toList.drop o) = (xs, fl)) ∧ Hid (ALL = (pre ++ xs, fl)) ∧ Hid (J (pre.map tkI) wr) ∧ Hid (Itr Lb Bs s W wr))
      (fun i _ => s.size - (intOf i).toNat)
    case atStart => exact ⟨0, [], ALL.1, ALL.2, Nat.zero_le _, rfl, by show _ = _; rw [List.drop_zero, ← HALL.out], rfl, H0, HI⟩
    case round =>
      obtain ⟨o, pre, xs, fl, ho, rfl, HL, HA, HJr, HIr⟩ := hrel
      have hc0 : wr.cell? ⟨Bs, 0, none⟩ = some (.string s) := cell_of_row HIr.out.box rfl
      cases xs with
      | nil =>
        cases fl with
        | none =>
          have hB : blankR s o = (s.size : Nat) := scan_end ho HL.out
          rw [hB]
          gi_wp2_with fail
          go_end0
          refine ⟨⟨_, rfl⟩, .inl ⟨_, ?_, HJr.out⟩⟩
          rw [HIT.out, HA.out]
          simp [flI]
        | some q =>
          obtain ⟨er, a⟩ := q
          obtain ⟨hB, halt, hN, her⟩ := go_flaw ho HL.out
          have her0 : (er == 0) = false := by rcases her with h | h <;> rw [h] <;> rfl
          clear her
          rw [hB]
          have hlt : (a : Int) < s.size := by omega
          gi_wp2_with fail
          refine ⟨trivial, ?_⟩
          gi_at_call 7
          refine (callsIn_wide.2 (sNext_any s a wr hs HIr.out.env)).mono ?_
          rintro e' w1 ⟨rfl, b1⟩
          rw [hN]
          simp only [NR.v, Tk.v, tk0]
          clear hN
          obtain ⟨g4, g6, bz⟩ := boxes_of w1 (.int .i8 0) (.int .i64 0) (.string ⟨#[]⟩) (.int .i64 0) (.int .i64 0) (.int .i64 0)
          have zx0 : ((w1.alloc (.cells #[.int .i8 0, .int .i64 0, .string ⟨#[]⟩, .int .i64 0] 25)).alloc (.cells #[.int .i64 0, .int .i64 0] 28)).cell? ⟨w1.heap.size, 0, none⟩ = some (.int .i8 0) := cell_of_row g4 rfl
          have zf0 : ((w1.alloc (.cells #[.int .i8 0, .int .i64 0, .string ⟨#[]⟩, .int .i64 0] 25)).alloc (.cells #[.int .i64 0, .int .i64 0] 28)).frozen? ⟨w1.heap.size, 0, none⟩ = false := free_of_row g4
          have zx1 : ((w1.alloc (.cells #[.int .i8 0, .int .i64 0, .string ⟨#[]⟩, .int .i64 0] 25)).alloc (.cells #[.int .i64 0, .int .i64 0] 28)).cell? ⟨w1.heap.size, 1, none⟩ = some (.int .i64 0) := cell_of_row g4 rfl
          have zf1 : ((w1.alloc (.cells #[.int .i8 0, .int .i64 0, .string ⟨#[]⟩, .int .i64 0] 25)).alloc (.cells #[.int .i64 0, .int .i64 0] 28)).frozen? ⟨w1.heap.size, 1, none⟩ = false := free_of_row g4
          have zx2 : ((w1.alloc (.cells #[.int .i8 0, .int .i64 0, .string ⟨#[]⟩, .int .i64 0] 25)).alloc (.cells #[.int .i64 0, .int .i64 0] 28)).cell? ⟨w1.heap.size, 2, none⟩ = some (.string ⟨#[]⟩) := cell_of_row g4 rfl
          have zf2 : ((w1.alloc (.cells #[.int .i8 0, .int .i64 0, .string ⟨#[]⟩, .int .i64 0] 25)).alloc (.cells #[.int .i64 0, .int .i64 0] 28)).frozen? ⟨w1.heap.size, 2, none⟩ = false := free_of_row g4
          have zx3 : ((w1.alloc (.cells #[.int .i8 0, .int .i64 0, .string ⟨#[]⟩, .int .i64 0] 25)).alloc (.cells #[.int .i64 0, .int .i64 0] 28)).cell? ⟨w1.heap.size, 3, none⟩ = some (.int .i64 0) := cell_of_row g4 rfl
          have zf3 : ((w1.alloc (.cells #[.int .i8 0, .int .i64 0, .string ⟨#[]⟩, .int .i64 0] 25)).alloc (.cells #[.int .i64 0, .int .i64 0] 28)).frozen? ⟨w1.heap.size, 3, none⟩ = false := free_of_row g4
          have zy0 : ((w1.alloc (.cells #[.int .i8 0, .int .i64 0, .string ⟨#[]⟩, .int .i64 0] 25)).alloc (.cells #[.int .i64 0, .int .i64 0] 28)).cell? ⟨w1.heap.size + 1, 0, none⟩ = some (.int .i64 0) := cell_of_row g6 rfl
          have zg0 : ((w1.alloc (.cells #[.int .i8 0, .int .i64 0, .string ⟨#[]⟩, .int .i64 0] 25)).alloc (.cells #[.int .i64 0, .int .i64 0] 28)).frozen? ⟨w1.heap.size + 1, 0, none⟩ = false := free_of_row g6
          have zy1 : ((w1.alloc (.cells #[.int .i8 0, .int .i64 0, .string ⟨#[]⟩, .int .i64 0] 25)).alloc (.cells #[.int .i64 0, .int .i64 0] 28)).cell? ⟨w1.heap.size + 1, 1, none⟩ = some (.int .i64 0) := cell_of_row g6 rfl
          have zg1 : ((w1.alloc (.cells #[.int .i8 0, .int .i64 0, .string ⟨#[]⟩, .int .i64 0] 25)).alloc (.cells #[.int .i64 0, .int .i64 0] 28)).frozen? ⟨w1.heap.size + 1, 1, none⟩ = false := free_of_row g6
          clear g4 g6 bz
          obtain ⟨g4, g6, bz⟩ := boxes_of w1 (.int .i8 0) (.int .i64 0) (.string ⟨#[]⟩) (.int .i64 0) (.int .i64 er) (.int .i64 a)
          have vx0 : ((w1.alloc (.cells #[.int .i8 0, .int .i64 0, .string ⟨#[]⟩, .int .i64 0] 25)).alloc (.cells #[.int .i64 er, .int .i64 a] 28)).cell? ⟨w1.heap.size, 0, none⟩ = some (.int .i8 0) := cell_of_row g4 rfl
          have vf0 : ((w1.alloc (.cells #[.int .i8 0, .int .i64 0, .string ⟨#[]⟩, .int .i64 0] 25)).alloc (.cells #[.int .i64 er, .int .i64 a] 28)).frozen? ⟨w1.heap.size, 0, none⟩ = false := free_of_row g4
          have vx1 : ((w1.alloc (.cells #[.int .i8 0, .int .i64 0, .string ⟨#[]⟩, .int .i64 0] 25)).alloc (.cells #[.int .i64 er, .int .i64 a] 28)).cell? ⟨w1.heap.size, 1, none⟩ = some (.int .i64 0) := cell_of_row g4 rfl
          have vf1 : ((w1.alloc (.cells #[.int .i8 0, .int .i64 0, .string ⟨#[]⟩, .int .i64 0] 25)).alloc (.cells #[.int .i64 er, .int .i64 a] 28)).frozen? ⟨w1.heap.size, 1, none⟩ = false := free_of_row g4
          have vx2 : ((w1.alloc (.cells #[.int .i8 0, .int .i64 0, .string ⟨#[]⟩, .int .i64 0] 25)).alloc (.cells #[.int .i64 er, .int .i64 a] 28)).cell? ⟨w1.heap.size, 2, none⟩ = some (.string ⟨#[]⟩) := cell_of_row g4 rfl
          have vf2 : ((w1.alloc (.cells #[.int .i8 0, .int .i64 0, .string ⟨#[]⟩, .int .i64 0] 25)).alloc (.cells #[.int .i64 er, .int .i64 a] 28)).frozen? ⟨w1.heap.size, 2, none⟩ = false := free_of_row g4
          have vx3 : ((w1.alloc (.cells #[.int .i8 0, .int .i64 0, .string ⟨#[]⟩, .int .i64 0] 25)).alloc (.cells #[.int .i64 er, .int .i64 a] 28)).cell? ⟨w1.heap.size, 3, none⟩ = some (.int .i64 0) := cell_of_row g4 rfl
          have vf3 : ((w1.alloc (.cells #[.int .i8 0, .int .i64 0, .string ⟨#[]⟩, .int .i64 0] 25)).alloc (.cells #[.int .i64 er, .int .i64 a] 28)).frozen? ⟨w1.heap.size, 3, none⟩ = false := free_of_row g4
          have vy0 : ((w1.alloc (.cells #[.int .i8 0, .int .i64 0, .string ⟨#[]⟩, .int .i64 0] 25)).alloc (.cells #[.int .i64 er, .int .i64 a] 28)).cell? ⟨w1.heap.size + 1, 0, none⟩ = some (.int .i64 er) := cell_of_row g6 rfl
          have vg0 : ((w1.alloc (.cells #[.int .i8 0, .int .i64 0, .string ⟨#[]⟩, .int .i64 0] 25)).alloc (.cells #[.int .i64 er, .int .i64 a] 28)).frozen? ⟨w1.heap.size + 1, 0, none⟩ = false := free_of_row g6
          have vy1 : ((w1.alloc (.cells #[.int .i8 0, .int .i64 0, .string ⟨#[]⟩, .int .i64 0] 25)).alloc (.cells #[.int .i64 er, .int .i64 a] 28)).cell? ⟨w1.heap.size + 1, 1, none⟩ = some (.int .i64 a) := cell_of_row g6 rfl
          have vg1 : ((w1.alloc (.cells #[.int .i8 0, .int .i64 0, .string ⟨#[]⟩, .int .i64 0] 25)).alloc (.cells #[.int .i64 er, .int .i64 a] 28)).frozen? ⟨w1.heap.size + 1, 1, none⟩ = false := free_of_row g6
          have hbd : Below wr.heap.size wr ((w1.alloc (.cells #[.int .i8 0, .int .i64 0, .string ⟨#[]⟩, .int .i64 0] 25)).alloc (.cells #[.int .i64 er, .int .i64 a] 28)) := b1.trans (bz.mono b1.size)
          have HBD := Lib.hid hbd
          have HF6 := Lib.hid g6
          have HSZ := Lib.hid b1.size
          obtain ⟨fn, tmps, assign, body, hy, hR⟩ := HY.out (pre.map tkI) (tk0, er, (a : Int)) ((w1.alloc (.cells #[.int .i8 0, .int .i64 0, .string ⟨#[]⟩, .int .i64 0] 25)).alloc (.cells #[.int .i64 er, .int .i64 a] 28)) (HJ.out _ _ _ HJr.out hbd) (by rw [HIT.out, HA.out]; simp [flI])
          simp only [encI, Tk.v, tk0] at hy
          clear g4 g6 bz hbd b1
          gi_wp2_with fail
          refine hR.mono ?_
          clear zx0 zf0 zx1 zf1 zx2 zf2 zx3 zf3 zy0 zg0 zy1 zg1
          clear vx0 vf0 vx1 vf1 vx2 vf2 vx3 vf3 vy0 vg0 vy1 vg1
          rintro e3 W3 (⟨rfl, hJ3, hK3⟩ | ⟨rfl, hJx3⟩)
          · have hy0 : W3.cell? ⟨w1.heap.size + 1, 0, none⟩ = some (.int .i64 er) := cell_of_row (HIr.out.fresh HBD.out hK3 (by have := HSZ.out; omega) HF6.out rfl) rfl
            have HJ3 := Lib.hid hJ3
            clear hJ3 hR hy hK3
            gi_wp2_with fail
            refine bodyPost_ret (results_none rfl _ _ _) rfl ?_
            refine ⟨⟨_, rfl⟩, .inl ⟨_, ?_, HJ3.out⟩⟩
            rw [HIT.out, HA.out]
            simp [flI]
          · have HJ3 := Lib.hid hJx3
            clear hJx3 hR hy
            gi_wp2_with fail
            refine bodyPost_ret (results_none rfl _ _ _) rfl ?_
            refine ⟨⟨_, rfl⟩, .inr ⟨_, ⟨pre.length + 1, ?_⟩, HJ3.out⟩⟩
            rw [HIT.out, HA.out]
            simp [flI, List.take_of_length_le]
      | cons x xs =>
        obtain ⟨hB, halt, hN, hoa, he1, hae, hrest⟩ := go_tok ho HL.out
        have HRS := Lib.hid hrest
        clear hrest
        obtain ⟨k, m, qs, a, e⟩ := x
        dsimp only at hB halt hN hoa he1 hae HRS
        obtain ⟨q, hqq⟩ : ∃ q : ByteArray, q = ⟨qs.toArray⟩ := ⟨_, rfl⟩
        rw [hB]
        have hlt : (a : Int) < s.size := by omega
        gi_wp2_with fail
        refine ⟨trivial, ?_⟩
        gi_at_call 7
        refine (callsIn_wide.2 (sNext_any s a wr hs HIr.out.env)).mono ?_
        rintro e' w1 ⟨rfl, b1⟩
        rw [hN]
        simp only [NR.v, PT.tk, Tk.v]
        rw [← hqq]
        clear hN
        obtain ⟨g4, g6, bz⟩ := boxes_of w1 (.int .i8 0) (.int .i64 0) (.string ⟨#[]⟩) (.int .i64 0) (.int .i64 0) (.int .i64 0)
        have zx0 : ((w1.alloc (.cells #[.int .i8 0, .int .i64 0, .string ⟨#[]⟩, .int .i64 0] 25)).alloc (.cells #[.int .i64 0, .int .i64 0] 28)).cell? ⟨w1.heap.size, 0, none⟩ = some (.int .i8 0) := cell_of_row g4 rfl
        have zf0 : ((w1.alloc (.cells #[.int .i8 0, .int .i64 0, .string ⟨#[]⟩, .int .i64 0] 25)).alloc (.cells #[.int .i64 0, .int .i64 0] 28)).frozen? ⟨w1.heap.size, 0, none⟩ = false := free_of_row g4
        have zx1 : ((w1.alloc (.cells #[.int .i8 0, .int .i64 0, .string ⟨#[]⟩, .int .i64 0] 25)).alloc (.cells #[.int .i64 0, .int .i64 0] 28)).cell? ⟨w1.heap.size, 1, none⟩ = some (.int .i64 0) := cell_of_row g4 rfl
        have zf1 : ((w1.alloc (.cells #[.int .i8 0, .int .i64 0, .string ⟨#[]⟩, .int .i64 0] 25)).alloc (.cells #[.int .i64 0, .int .i64 0] 28)).frozen? ⟨w1.heap.size, 1, none⟩ = false := free_of_row g4
        have zx2 : ((w1.alloc (.cells #[.int .i8 0, .int .i64 0, .string ⟨#[]⟩, .int .i64 0] 25)).alloc (.cells #[.int .i64 0, .int .i64 0] 28)).cell? ⟨w1.heap.size, 2, none⟩ = some (.string ⟨#[]⟩) := cell_of_row g4 rfl
        have zf2 : ((w1.alloc (.cells #[.int .i8 0, .int .i64 0, .string ⟨#[]⟩, .int .i64 0] 25)).alloc (.cells #[.int .i64 0, .int .i64 0] 28)).frozen? ⟨w1.heap.size, 2, none⟩ = false := free_of_row g4
        have zx3 : ((w1.alloc (.cells #[.int .i8 0, .int .i64 0, .string ⟨#[]⟩, .int .i64 0] 25)).alloc (.cells #[.int .i64 0, .int .i64 0] 28)).cell? ⟨w1.heap.size, 3, none⟩ = some (.int .i64 0) := cell_of_row g4 rfl
        have zf3 : ((w1.alloc (.cells #[.int .i8 0, .int .i64 0, .string ⟨#[]⟩, .int .i64 0] 25)).alloc (.cells #[.int .i64 0, .int .i64 0] 28)).frozen? ⟨w1.heap.size, 3, none⟩ = false := free_of_row g4
        have zy0 : ((w1.alloc (.cells #[.int .i8 0, .int .i64 0, .string ⟨#[]⟩, .int .i64 0] 25)).alloc (.cells #[.int .i64 0, .int .i64 0] 28)).cell? ⟨w1.heap.size + 1, 0, none⟩ = some (.int .i64 0) := cell_of_row g6 rfl
        have zg0 : ((w1.alloc (.cells #[.int .i8 0, .int .i64 0, .string ⟨#[]⟩, .int .i64 0] 25)).alloc (.cells #[.int .i64 0, .int .i64 0] 28)).frozen? ⟨w1.heap.size + 1, 0, none⟩ = false := free_of_row g6
        have zy1 : ((w1.alloc (.cells #[.int .i8 0, .int .i64 0, .string ⟨#[]⟩, .int .i64 0] 25)).alloc (.cells #[.int .i64 0, .int .i64 0] 28)).cell? ⟨w1.heap.size + 1, 1, none⟩ = some (.int .i64 0) := cell_of_row g6 rfl
        have zg1 : ((w1.alloc (.cells #[.int .i8 0, .int .i64 0, .string ⟨#[]⟩, .int .i64 0] 25)).alloc (.cells #[.int .i64 0, .int .i64 0] 28)).frozen? ⟨w1.heap.size + 1, 1, none⟩ = false := free_of_row g6
        clear g4 g6 bz
        obtain ⟨g4, g6, bz⟩ := boxes_of w1 (.int .i8 k) (.int .i64 m) (.string q) (.int .i64 a) (.int .i64 0) (.int .i64 0)
        have vx0 : ((w1.alloc (.cells #[.int .i8 k, .int .i64 m, .string q, .int .i64 a] 25)).alloc (.cells #[.int .i64 0, .int .i64 0] 28)).cell? ⟨w1.heap.size, 0, none⟩ = some (.int .i8 k) := cell_of_row g4 rfl
        have vf0 : ((w1.alloc (.cells #[.int .i8 k, .int .i64 m, .string q, .int .i64 a] 25)).alloc (.cells #[.int .i64 0, .int .i64 0] 28)).frozen? ⟨w1.heap.size, 0, none⟩ = false := free_of_row g4
        have vx1 : ((w1.alloc (.cells #[.int .i8 k, .int .i64 m, .string q, .int .i64 a] 25)).alloc (.cells #[.int .i64 0, .int .i64 0] 28)).cell? ⟨w1.heap.size, 1, none⟩ = some (.int .i64 m) := cell_of_row g4 rfl
        have vf1 : ((w1.alloc (.cells #[.int .i8 k, .int .i64 m, .string q, .int .i64 a] 25)).alloc (.cells #[.int .i64 0, .int .i64 0] 28)).frozen? ⟨w1.heap.size, 1, none⟩ = false := free_of_row g4
        have vx2 : ((w1.alloc (.cells #[.int .i8 k, .int .i64 m, .string q, .int .i64 a] 25)).alloc (.cells #[.int .i64 0, .int .i64 0] 28)).cell? ⟨w1.heap.size, 2, none⟩ = some (.string q) := cell_of_row g4 rfl
        have vf2 : ((w1.alloc (.cells #[.int .i8 k, .int .i64 m, .string q, .int .i64 a] 25)).alloc (.cells #[.int .i64 0, .int .i64 0] 28)).frozen? ⟨w1.heap.size, 2, none⟩ = false := free_of_row g4
        have vx3 : ((w1.alloc (.cells #[.int .i8 k, .int .i64 m, .string q, .int .i64 a] 25)).alloc (.cells #[.int .i64 0, .int .i64 0] 28)).cell? ⟨w1.heap.size, 3, none⟩ = some (.int .i64 a) := cell_of_row g4 rfl
        have vf3 : ((w1.alloc (.cells #[.int .i8 k, .int .i64 m, .string q, .int .i64 a] 25)).alloc (.cells #[.int .i64 0, .int .i64 0] 28)).frozen? ⟨w1.heap.size, 3, none⟩ = false := free_of_row g4
        have vy0 : ((w1.alloc (.cells #[.int .i8 k, .int .i64 m, .string q, .int .i64 a] 25)).alloc (.cells #[.int .i64 0, .int .i64 0] 28)).cell? ⟨w1.heap.size + 1, 0, none⟩ = some (.int .i64 0) := cell_of_row g6 rfl
        have vg0 : ((w1.alloc (.cells #[.int .i8 k, .int .i64 m, .string q, .int .i64 a] 25)).alloc (.cells #[.int .i64 0, .int .i64 0] 28)).frozen? ⟨w1.heap.size + 1, 0, none⟩ = false := free_of_row g6
        have vy1 : ((w1.alloc (.cells #[.int .i8 k, .int .i64 m, .string q, .int .i64 a] 25)).alloc (.cells #[.int .i64 0, .int .i64 0] 28)).cell? ⟨w1.heap.size + 1, 1, none⟩ = some (.int .i64 0) := cell_of_row g6 rfl
        have vg1 : ((w1.alloc (.cells #[.int .i8 k, .int .i64 m, .string q, .int .i64 a] 25)).alloc (.cells #[.int .i64 0, .int .i64 0] 28)).frozen? ⟨w1.heap.size + 1, 1, none⟩ = false := free_of_row g6
        have hbd : Below wr.heap.size wr ((w1.alloc (.cells #[.int .i8 k, .int .i64 m, .string q, .int .i64 a] 25)).alloc (.cells #[.int .i64 0, .int .i64 0] 28)) := b1.trans (bz.mono b1.size)
        have HBD := Lib.hid hbd
        have HF6 := Lib.hid g6
        have HSZ := Lib.hid b1.size
        obtain ⟨fn, tmps, assign, body, hy, hR⟩ := HY.out (pre.map tkI) (tkI ⟨k, m, qs, a, e⟩) ((w1.alloc (.cells #[.int .i8 k, .int .i64 m, .string q, .int .i64 a] 25)).alloc (.cells #[.int .i64 0, .int .i64 0] 28)) (HJ.out _ _ _ HJr.out hbd) (by rw [HIT.out, HA.out]; simp)
        simp only [encI, Tk.v, tkI, PT.tk, ← hqq] at hy
        clear g4 g6 bz hbd b1
        have HQQ := Lib.hid hqq
        clear hqq
        gi_wp2_with fail
        refine hR.mono ?_
        clear zx0 zf0 zx1 zf1 zx2 zf2 zx3 zf3 zy0 zg0 zy1 zg1
        clear vx0 vf0 vx1 vf1 vx2 vf2 vx3 vf3 vy0 vg0 vy1 vg1
        rintro e3 W3 (⟨rfl, hJ3, hK3⟩ | ⟨rfl, hJx3⟩)
        · have hy0 : W3.cell? ⟨w1.heap.size + 1, 0, none⟩ = some (.int .i64 0) := cell_of_row (HIr.out.fresh HBD.out hK3 (by have := HSZ.out; omega) HF6.out rfl) rfl
          have hi3 := (HIr.out.under HBD.out).kp hK3
          have hc0 : W3.cell? ⟨Bs, 0, none⟩ = some (.string s) := cell_of_row hi3.box rfl
          have HI3 := Lib.hid hi3
          have HJ3 := Lib.hid hJ3
          clear hJ3 hR hy hK3 hi3
          gi_wp2_with fail
          refine ⟨trivial, ?_⟩
          gi_at_call 9
          refine (callsIn_wide.2 (sBlank_any s (a + e : Nat) W3 hs)).mono ?_
          rintro e4 w4 ⟨rfl, hq4⟩
          subst w4
          gi_wp2_with fail
          go_roundw
          case rel => exact ⟨a + e, pre ++ [⟨k, m, qs, a, e⟩], xs, fl, hae, rfl, HRS.out, by show _ = _; rw [HA.out]; simp, by rw [List.map_append]; exact HJ3.out, HI3.out⟩
          case measure =>
            have hb : ((a + e : Nat) : Int) ≤ blankR s ((a + e : Nat) : Int) := by unfold blankR; rw [if_neg (by omega), Int.toNat_natCast]; omega
            have hb2 : (a : Int) + e ≤ blankR s ((a : Int) + e) := by rw [← Int.natCast_add]; exact hb
            simp only [intOf]
            omega
        · have HJ3 := Lib.hid hJx3
          clear hJx3 hR hy
          gi_wp2_with fail
          refine bodyPost_ret (results_none rfl _ _ _) rfl ?_
          refine ⟨⟨_, rfl⟩, .inr ⟨_, ⟨pre.length + 1, ?_⟩, HJ3.out⟩⟩
          rw [HIT.out, HA.out]
          simp [List.take_append]
          exact (List.take_of_length_le (by simp)).symm
end Go.Proofs.YtkaijnbefbggeaaDoor
