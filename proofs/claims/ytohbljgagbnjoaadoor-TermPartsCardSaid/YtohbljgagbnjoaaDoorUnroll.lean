/- term.unroll: the heads of a term's conses, and the tail behind the last one. -/
import Derived.Test.YtohbljgagbnjoaaDoorOwnT
import Derived.Test.YtohbljgagbnjoaaDoorSuch
import Derived.LoopTactic
import Derived.LoopNIn
import Derived.StillTailTactics
import Derived.RegionTactic
import Derived.Outline
set_option linter.unusedVariables false
namespace Go.Proofs.YtohbljgagbnjoaaDoor
open Go.RowKit

/-- Each node is such as a term may have. -/
def Valid (x : Tm) : Prop := ∀ y ∈ x.pre, okB y = true
theorem Valid.own {x : Tm} (h : Valid x) : okB x = true := h x (by cases x; simp [Tm.pre])
theorem Tm.pre_sub {y : Tm} {l : List Tm} (h : y ∈ l) : ∀ z ∈ y.pre, z ∈ Tm.pres l := by
  induction l with
  | nil => simp at h
  | cons a l ih =>
    intro z hz
    rw [Tm.pres]
    rcases List.mem_cons.1 h with rfl | h
    · exact List.mem_append_left _ hz
    · exact List.mem_append_right _ (ih h z hz)
theorem Valid.part {k n : Int} {s t : ByteArray} {l : List Tm} (h : Valid (.mk k n s t l)) {y : Tm} (hy : y ∈ l) : Valid y := fun z hz => h z (by rw [Tm.pre]; exact List.mem_cons_of_mem _ (Tm.pre_sub hy z hz))
theorem nodes_part {k n : Int} {s t : ByteArray} {l : List Tm} {y : Tm} (hy : y ∈ l) : y.nodes < (Tm.mk k n s t l).nodes := by
  unfold Tm.nodes
  rw [Tm.pre, List.length_cons]
  have : ∀ l : List Tm, y ∈ l → y.pre.length ≤ (Tm.pres l).length := by
    intro l
    induction l with
    | nil => intro h; simp at h
    | cons a l ih =>
      intro h
      rw [Tm.pres, List.length_append]
      rcases List.mem_cons.1 h with rfl | h
      · omega
      · have := ih h; omega
  have := this l hy
  omega

/-- What a valid node is, kind by kind. -/
theorem cons_two {n : Int} {s t : ByteArray} {l : List Tm} (h : okB (.mk 7 n s t l) = true) : ∃ a b, l = [a, b] := by
  unfold okB okN at h
  dsimp only [Tm.k, Tm.n, Tm.s, Tm.t, Tm.l] at h
  simp [ok_cons] at h
  match l, h with
  | [a, b], _ => exact ⟨a, b, rfl⟩
  | [], h => simp at h
  | [a], h => simp at h
  | a :: b :: c :: l, h => simp at h; omega

/-- From x over the tails of conses with those heads to z. -/
inductive Chain (x : Tm) : List Tm → Tm → Prop
  | nil : Chain x [] x
  | snoc {hs : List Tm} {n : Int} {s t : ByteArray} {h tl : Tm} : Chain x hs (.mk 7 n s t [h, tl]) → Chain x (hs ++ [h]) tl

theorem Chain.nodes {x : Tm} {hs : List Tm} {z : Tm} (h : Chain x hs z) : hs.length + z.nodes ≤ x.nodes := by
  induction h with
  | nil => simp
  | @snoc hs n s t a b _ ih => have := nodes_part (k := 7) (n := n) (s := s) (t := t) (l := [a, b]) (y := b) (by simp); simp; omega
theorem Chain.valid {x : Tm} {hs : List Tm} {z : Tm} (h : Chain x hs z) (hv : Valid x) : Valid z ∧ ∀ y ∈ hs, Valid y := by
  induction h with
  | nil => exact ⟨hv, fun y h => by simp at h⟩
  | @snoc hs n s t a b _ ih =>
    refine ⟨ih.1.part (by simp), fun y hy => ?_⟩
    rcases List.mem_append.1 hy with hy | hy
    · exact ih.2 y hy
    · simp at hy; subst hy; exact ih.1.part (by simp)

def lenOf (v : Value) : Nat := match v with | .slice _ n _ => n | _ => 0

/-- What unroll hands back. -/
def UnrollP (P : Nat → Prop) (x : Tm) (w : World) (e : Ending) (w' : World) : Prop :=
  ∃ A n cap tv hs z, e = .returned (.tuple #[.slice A n cap, tv]) ∧ Chain x hs z ∧ z.k ≠ 7 ∧ TRow (fun b => P b ∨ (w.heap.size ≤ b ∧ ∃ c fz, w'.heap[b]? = some (.cells c 25 fz))) w' A n cap hs ∧ TmAt P w' z tv ∧ Below w.heap.size w w'

set_option maxHeartbeats 4000000 in
set_option maxRecDepth 100000 in
theorem unroll_any (P : Nat → Prop) (x : Tm) (v : Value) (w : World) (hP : ∀ b, P b → b < w.heap.size) (hT : TmAt P w x v) (hv : Valid x) (hn : x.nodes ≤ 100000) :
    Calls Tryd.prog 43 #[v] w (UnrollP P x w) := by
  obtain ⟨k, n, s, t, l, A, cap, hx, rfl⟩ : ∃ k' n' s' t' L' A' cap', x = Tm.mk k' n' s' t' L' ∧ v = .agg #[.int .i8 k', .int .i64 n', .string s', .string t', .slice A' L'.length cap'] := by
    cases hT; exact ⟨_, _, _, _, _, _, _, rfl, rfl⟩
  clear hx
  obtain ⟨w1, hw1⟩ : ∃ w1, w1 = (w.alloc (.cells #[.int .i8 k, .int .i64 n, .string s, .string t, .slice A l.length cap] 25)).alloc (.cells #[.int .i8 0, .int .i64 0, .string ⟨#[]⟩, .string ⟨#[]⟩, .slice none 0 0] 25) := ⟨_, rfl⟩
  have B1 : Below w.heap.size w w1 := by rw [hw1]; exact ((Below.refl _ w).alloc (Nat.le_refl _) _).alloc (by simp) _
  have hs1 : w1.heap.size = w.heap.size + 2 := by rw [hw1]; simp
  have xb : w1.heap[w.heap.size]? = some (.cells #[.int .i8 k, .int .i64 n, .string s, .string t, .slice A l.length cap] 25 (0, 0)) := by rw [hw1]; exact (Below.heap_alloc _ _ _ (by simp)).trans (block_alloc _ _)
  have rb : w1.heap[w.heap.size + 1]? = some (.cells #[.int .i8 0, .int .i64 0, .string ⟨#[]⟩, .string ⟨#[]⟩, .slice none 0 0] 25 (0, 0)) := by
    rw [hw1]
    have := block_alloc (w.alloc (.cells #[.int .i8 k, .int .i64 n, .string s, .string t, .slice A l.length cap] 25)) (.cells #[.int .i8 0, .int .i64 0, .string ⟨#[]⟩, .string ⟨#[]⟩, .slice none 0 0] 25)
    rwa [World.size_alloc] at this
  have HT1 := Lib.hid (hT.keep (w' := w1) (fun b hb => B1.block b (hP b hb)) (fun _ h => h))
  have HV := Lib.hid hv
  have HP := Lib.hid hP
  have HB1 := Lib.hid B1
  have HS1 := Lib.hid hs1
  have HXB := Lib.hid xb
  have HRB := Lib.hid rb
  clear hT hv hP B1 hs1 xb rb
  go_enter Tryd.func43, Tryd.ntmps43
  go_wp2_with fail
  rw [← hw1]
  clear hw1
  go_loopw [4] (fun vl wr => ∃ (hs : List Tm) (z : Tm) (u : Value), Chain x hs z ∧ TmAt P wr z u ∧ (∃ c, u = .agg c ∧ wr.heap[w.heap.size]? = some (.cells c 25 (0, 0))) ∧ wr.heap[w.heap.size + 1]? = some (.cells #[.int .i8 0, .int .i64 0, .string ⟨#[]⟩, .string ⟨#[]⟩, .slice none 0 0] 25 (0, 0)) ∧ OwnT (w.heap.size + 2) P wr vl hs ∧ Below w.heap.size w wr) (fun vl _ => x.nodes - lenOf vl)
  case atStart => exact ⟨[], x, _, .nil, HT1.out, ⟨_, rfl, HXB.out⟩, HRB.out, OwnT.nil _ _ _, HB1.out⟩
  case round =>
    obtain ⟨hs, z, u, hch, hTz, ⟨c, rfl, hbx⟩, hrb, hO, hB⟩ := hrel
    obtain ⟨k', n', s', t', l', A', cap', hz, hc⟩ : ∃ k' n' s' t' L' A' cap', z = Tm.mk k' n' s' t' L' ∧ Value.agg c = .agg #[.int .i8 k', .int .i64 n', .string s', .string t', .slice A' L'.length cap'] := by
      cases hTz; exact ⟨_, _, _, _, _, _, _, rfl, rfl⟩
    simp only [Value.agg.injEq] at hc
    subst hc hz
    obtain ⟨A2, cap2, rfl⟩ := hO.shape
    have hnod := hch.nodes
    have x0 : wr.cell? ⟨w.heap.size, 0, none⟩ = some (.int .i8 k') := cell_of_row hbx rfl
    have x1 : wr.cell? ⟨w.heap.size, 1, none⟩ = some (.int .i64 n') := cell_of_row hbx rfl
    have x2 : wr.cell? ⟨w.heap.size, 2, none⟩ = some (.string s') := cell_of_row hbx rfl
    have x3 : wr.cell? ⟨w.heap.size, 3, none⟩ = some (.string t') := cell_of_row hbx rfl
    have x4 : wr.cell? ⟨w.heap.size, 4, none⟩ = some (.slice A' l'.length cap') := cell_of_row hbx rfl
    have HCH := Lib.hid hch
    have HBX := Lib.hid hbx
    have HRR := Lib.hid hrb
    have HO := Lib.hid hO
    have HB := Lib.hid hB
    have HTz := Lib.hid hTz
    clear hch hbx hrb hO hB hTz
    by_cases hk : k' = 7
    · subst hk
      obtain ⟨ya, yb, rfl⟩ := cons_two (HCH.out.valid HV.out).1.own
      obtain ⟨A3, cap3, e3, hR, _⟩ := HTz.out.parts
      simp only [Value.agg.injEq, Array.mk.injEq, List.cons.injEq, and_true, true_and, Value.slice.injEq] at e3
      obtain ⟨rfl, rfl⟩ := e3
      obtain ⟨ad, ua, rfl, hada, hEa, hTa⟩ := hR.at_ 0 ya rfl
      obtain ⟨ad', ub, e4, hadb, hEb, hTb⟩ := hR.at_ 1 yb rfl
      cases e4
      obtain ⟨ka, na, sa, ta, la, Aa, capa, hya, rfl⟩ : ∃ k' n' s' t' L' A' cap', ya = Tm.mk k' n' s' t' L' ∧ ua = .agg #[.int .i8 k', .int .i64 n', .string s', .string t', .slice A' L'.length cap'] := by
        cases hTa; exact ⟨_, _, _, _, _, _, _, rfl, rfl⟩
      obtain ⟨kb, nb, sb, tb, lb, Ab, capb, hyb, rfl⟩ : ∃ k' n' s' t' L' A' cap', yb = Tm.mk k' n' s' t' L' ∧ ub = .agg #[.int .i8 k', .int .i64 n', .string s', .string t', .slice A' L'.length cap'] := by
        cases hTb; exact ⟨_, _, _, _, _, _, _, rfl, rfl⟩
      clear hya hyb
      have HTa := Lib.hid hTa
      have HTb := Lib.hid hTb
      have HEb := Lib.hid hEb
      obtain ⟨c0, c1, c2, c3, c4, hc, e0, e1, e2, e3, e4⟩ := hEa
      simp only [Value.agg.injEq, Array.mk.injEq, List.cons.injEq, and_true] at hc
      obtain ⟨rfl, rfl, rfl, rfl, rfl⟩ := hc
      have ea0 : ad.add (0 * 5) = ad := by simp [Addr.add]
      rw [ea0] at e0 e1 e2 e3 e4
      clear hTa hTb hEb ea0
      have hads : ad.block < w.heap.size := HP.out _ hada
      obtain ⟨W1, hW1⟩ : ∃ W1, W1 = wr.alloc (.cells #[.int .i8 ka, .int .i64 na, .string sa, .string ta, .slice Aa la.length capa] 25) := ⟨_, rfl⟩
      have mW1 : Mod (fun _ => False) wr W1 := by rw [hW1]; exact Mod.alloc _ _ _
      have gW1 : W1.heap[wr.heap.size]? = some (.cells #[.int .i8 ka, .int .i64 na, .string sa, .string ta, .slice Aa la.length capa] 25 (0, 0)) := by rw [hW1]; exact block_alloc _ _
      have hwr : w.heap.size + 1 < wr.heap.size := heap_lt HRR.out
      have noown : ∀ b, P b → (Value.slice A2 hs.length cap2).ownBlock ≠ some b := fun b hb e => by
        obtain ⟨us, ho, _⟩ := HO.out.row
        have := (ho.lt b e).1
        have := HP.out b hb
        omega
      have HNO := Lib.hid noown
      have OW1 : OwnT (w.heap.size + 2) P W1 (.slice A2 hs.length cap2) hs := HO.out.keep mW1 (fun _ _ h => h) (fun b hb => ⟨by have := HP.out b hb; omega, fun h => h⟩) (fun _ h => h)
      have TW1 : TmAt P W1 ya _ := HTa.out.keep (fun b hb => mW1.block b (by have := HP.out b hb; omega) (fun h => h)) (fun _ h => h)
      have HW1 := Lib.hid hW1
      have hsW1 : W1.heap.size = wr.heap.size + 1 := by rw [hW1]; simp
      have HSW1 := Lib.hid hsW1
      have hPW : ∀ b, P b → b < W1.heap.size ∧ (Value.slice A2 hs.length cap2).ownBlock ≠ some b := fun b hb => ⟨by rw [hsW1]; have := HP.out b hb; omega, HNO.out b hb⟩
      have HOW1 := Lib.hid OW1
      have HTW1 := Lib.hid TW1
      have HGW1 := Lib.hid gW1
      have HMW1 := Lib.hid mW1
      have HPW := Lib.hid hPW
      clear hsW1 hPW OW1 TW1 gW1 mW1 noown
      go_wp2_with (rw [← hW1]; refine wpList_own_term rfl (.tmp 8) (.tmp 13) rfl HOW1.out (by rw [HSW1.out]; omega) HPW.out rfl wr.heap.size rfl HGW1.out HTW1.out (by have := (HCH.out.nodes); omega) ?_)
      clear hW1
      intro v' w' O' hg hwh
      rw [← HW1.out] at hg
      have hown2 : ∀ g, (Value.slice A2 hs.length cap2).ownBlock = some g → w.heap.size + 2 ≤ g := fun g hg => by
        obtain ⟨us, ho, _⟩ := HO.out.row
        exact (ho.lt g hg).1
      have mg : Mod (fun g => w.heap.size + 2 ≤ g) wr w' := (HMW1.out.mono (fun _ _ h => h.elim)).trans (Mod.grown (F := fun g => w.heap.size + 2 ≤ g) hg (fun g _ e => hown2 g e)) (fun _ _ h => h)
      have Bw' : Below w.heap.size wr w' := mg.below (by omega) (fun g h => by omega)
      have bx' : w'.heap[w.heap.size]? = _ := (mg.block _ (by omega) (by omega)).trans HBX.out
      have rr' : w'.heap[w.heap.size + 1]? = _ := (mg.block _ (by omega) (by omega)).trans HRR.out
      have x4' : w'.cell? ⟨w.heap.size, 4, none⟩ = some (.slice (some ad) 2 cap') := cell_of_row bx' rfl
      have x0' : w'.cell? ⟨w.heap.size, 0, none⟩ = some (.int .i8 7) := cell_of_row bx' rfl
      have x1' : w'.cell? ⟨w.heap.size, 1, none⟩ = some (.int .i64 n') := cell_of_row bx' rfl
      have x2' : w'.cell? ⟨w.heap.size, 2, none⟩ = some (.string s') := cell_of_row bx' rfl
      have x3' : w'.cell? ⟨w.heap.size, 3, none⟩ = some (.string t') := cell_of_row bx' rfl
      have f0 : w'.frozen? ⟨w.heap.size, 0, none⟩ = false := free_of_row bx'
      have f1 : w'.frozen? ⟨w.heap.size, 1, none⟩ = false := free_of_row bx'
      have f2 : w'.frozen? ⟨w.heap.size, 2, none⟩ = false := free_of_row bx'
      have f3 : w'.frozen? ⟨w.heap.size, 3, none⟩ = false := free_of_row bx'
      have f4 : w'.frozen? ⟨w.heap.size, 4, none⟩ = false := free_of_row bx'
      have Eb' := HEb.out.keep (w' := w') (Bw'.block ad.block hads)
      obtain ⟨d0, d1, d2, d3, d4, hd, g0, g1, g2, g3, g4⟩ := Eb'
      simp only [Value.agg.injEq, Array.mk.injEq, List.cons.injEq, and_true] at hd
      obtain ⟨rfl, rfl, rfl, rfl, rfl⟩ := hd
      have ea1 : ad.add (1 * 5) = ⟨ad.block, ad.off + 5, none⟩ := by simp [Addr.add]
      rw [ea1] at g0 g1 g2 g3 g4
      dsimp only at g0 g1 g2 g3 g4
      clear ea1
      have HO' := Lib.hid O'
      have HG := Lib.hid hg
      have HWH := Lib.hid hwh
      have HMG := Lib.hid mg
      have HBX' := Lib.hid bx'
      have HRR' := Lib.hid rr'
      have HBW' := Lib.hid Bw'
      clear O' hg hwh mg bx' rr' Bw' hown2 x0 x1 x2 x3 x4 e0 e1 e2 e3 e4
      have S5 := Lib.hid (set_five (.int .i8 kb) (.int .i64 nb) (.string sb) (.string tb) (.slice Ab lb.length capb) HBX'.out)
      go_wp2_with fail
      obtain ⟨s5, m5⟩ := S5.out
      have hvb : ∀ g, v'.ownBlock = some g → w.heap.size + 2 ≤ g := fun g hg => by
        obtain ⟨us, ho, _⟩ := HO'.out.row
        exact (ho.lt g hg).1
      refine ⟨⟨hs ++ [ya], yb, _, .snoc HCH.out, ?_, ⟨_, rfl, s5⟩, ?_, ?_, ?_⟩, ?_⟩
      · refine HTb.out.keep (fun b hb => ?_) (fun _ h => h)
        have := HP.out b hb
        exact (m5.block b (by have := HMG.out.size; omega) (by omega)).trans (HMG.out.block b (by omega) (by omega))
      · exact (m5.block _ (heap_lt HRR'.out) (by omega)).trans HRR'.out
      · refine HO'.out.keep m5 (fun g hg e => by have := hvb g hg; omega) (fun b hb => ?_) (fun _ h => h)
        have := HP.out b hb
        exact ⟨by have := HMG.out.size; omega, by omega⟩
      · exact HB.out.trans (HBW'.out.trans (m5.below (by have := HMG.out.size; omega) (fun g (e : g = w.heap.size) => by omega)))
      · obtain ⟨A5, cap5, rfl⟩ := HO'.out.shape
        have hn1 := Tm.pre_ne (Tm.mk 7 n' s' t' [ya, yb])
        unfold Tm.nodes at hnod
        simp only [lenOf, List.length_append, List.length_cons, List.length_nil]
        unfold Tm.nodes
        omega
    · have hk1 : (k' == 7) = false := by rw [beq_eq_false_iff_ne]; exact hk
      have HNK : Hid ((Tm.mk k' n' s' t' l').k ≠ 7) := hk
      clear hk
      go_wp2_with fail
      go_still_tail 3, (by kernel_rfl)
      obtain ⟨W3, hW3⟩ : ∃ W3, W3 = { wr with drawn := wr.drawn + 1 } := ⟨_, rfl⟩
      have m3 : Mod (fun _ => False) wr W3 := by rw [hW3]; exact ⟨rfl, rfl, rfl, Nat.le_refl _, fun _ _ _ => rfl⟩
      rw [← hW3]
      clear hW3 x0 x1 x2 x3 x4 hk1
      have rb3 : W3.heap[w.heap.size + 1]? = _ := (m3.block _ (heap_lt HRR.out) (fun h => h)).trans HRR.out
      have r0 : W3.cell? ⟨w.heap.size + 1, 0, none⟩ = some (.int .i8 0) := cell_of_row rb3 rfl
      have r1 : W3.cell? ⟨w.heap.size + 1, 1, none⟩ = some (.int .i64 0) := cell_of_row rb3 rfl
      have r2 : W3.cell? ⟨w.heap.size + 1, 2, none⟩ = some (.string ⟨#[]⟩) := cell_of_row rb3 rfl
      have r3 : W3.cell? ⟨w.heap.size + 1, 3, none⟩ = some (.string ⟨#[]⟩) := cell_of_row rb3 rfl
      have r4 : W3.cell? ⟨w.heap.size + 1, 4, none⟩ = some (.slice none 0 0) := cell_of_row rb3 rfl
      have f0 : W3.frozen? ⟨w.heap.size + 1, 0, none⟩ = false := free_of_row rb3
      have f1 : W3.frozen? ⟨w.heap.size + 1, 1, none⟩ = false := free_of_row rb3
      have f2 : W3.frozen? ⟨w.heap.size + 1, 2, none⟩ = false := free_of_row rb3
      have f3 : W3.frozen? ⟨w.heap.size + 1, 3, none⟩ = false := free_of_row rb3
      have f4 : W3.frozen? ⟨w.heap.size + 1, 4, none⟩ = false := free_of_row rb3
      have S5 := Lib.hid (set_five (.int .i8 k') (.int .i64 n') (.string s') (.string t') (.slice A' l'.length cap') rb3)
      have HM3 := Lib.hid m3
      clear rb3 m3
      go_wp2_with fail
      obtain ⟨s5, m5⟩ := S5.out
      generalize hV : (((((W3.setCell ⟨w.heap.size + 1, 0, none⟩ (.int .i8 k')).setCell ⟨w.heap.size + 1, 1, none⟩ (.int .i64 n')).setCell ⟨w.heap.size + 1, 2, none⟩ (.string s')).setCell ⟨w.heap.size + 1, 3, none⟩ (.string t')).setCell ⟨w.heap.size + 1, 4, none⟩ (.slice A' l'.length cap')) = V at s5 m5 ⊢
      have z0 : V.cell? ⟨w.heap.size + 1, 0, none⟩ = some (.int .i8 k') := cell_of_row s5 rfl
      have z1 : V.cell? ⟨w.heap.size + 1, 1, none⟩ = some (.int .i64 n') := cell_of_row s5 rfl
      have z2 : V.cell? ⟨w.heap.size + 1, 2, none⟩ = some (.string s') := cell_of_row s5 rfl
      have z3 : V.cell? ⟨w.heap.size + 1, 3, none⟩ = some (.string t') := cell_of_row s5 rfl
      have z4 : V.cell? ⟨w.heap.size + 1, 4, none⟩ = some (.slice A' l'.length cap') := cell_of_row s5 rfl
      refine bodyPost_ret (v := .tuple #[.slice A2 hs.length cap2, .agg #[.int .i8 k', .int .i64 n', .string s', .string t', .slice A' l'.length cap']]) (by simp [results, Tryd.f43, go_sem, z0, z1, z2, z3, z4]) rfl ?_
      have mall : Mod (fun k => k = w.heap.size + 1) wr V := (HM3.out.mono (fun _ _ h => h.elim)).trans m5 (fun _ _ h => h)
      have hvb : ∀ g, (Value.slice A2 hs.length cap2).ownBlock = some g → w.heap.size + 2 ≤ g := fun g hg => by
        obtain ⟨us, ho, _⟩ := HO.out.row
        exact (ho.lt g hg).1
      have hwr : w.heap.size + 1 < wr.heap.size := heap_lt HRR.out
      have OV : OwnT (w.heap.size + 2) P V (.slice A2 hs.length cap2) hs := HO.out.keep mall (fun g hg e => by have := hvb g hg; omega) (fun b hb => by have := HP.out b hb; exact ⟨by omega, by omega⟩) (fun _ h => h)
      refine ⟨A2, hs.length, cap2, _, hs, _, rfl, HCH.out, HNK.out, (OV.trow (fun b hb => .inl hb) (fun b h1 _ h3 => .inr ⟨by omega, h3⟩)).2, ?_, ?_⟩
      · refine HTz.out.keep (fun b hb => ?_) (fun _ h => h)
        have := HP.out b hb
        exact mall.block b (by omega) (by omega)
      · exact HB.out.trans (mall.below (by omega) (fun g (e : g = w.heap.size + 1) => by omega))
end Go.Proofs.YtohbljgagbnjoaaDoor
