/- Layer 9: the program's walk: a name is told; a name is bound. -/
import Derived.Test.YtmdcdhdjojimeaaGreatDoorKLay9
set_option linter.unusedVariables false
set_option linter.unusedSimpArgs false
namespace Go.Proofs.YtmdcdhdjojimeaaGreatDoor
open Go.RowKit

def WalkTo (X : WCtx) (st : Wk) (V : World) (e : Ending) (V' : World) : Prop := e = .returned (.tuple #[]) ∧ WkAt X st V' ∧ KeepT X.mb X.me V V'
theorem walk_same {X : WCtx} {st : Wk} {V V' : World} (h : WkAt X st V) (b : Below V.heap.size V V') : WalkTo X st V (.returned (.tuple #[])) V' := ⟨rfl, h.under b, .of_below b⟩
theorem zero_unit9 (w : World) : (zeroValue 119).run Tryz.prog w = .ok (.agg #[]) w := by kernel_rfl
theorem add6 (b p : Nat) : (⟨b, 0, none⟩ : Addr).add (p * 6) = ⟨b, p * 6, none⟩ := by unfold Addr.add; split <;> simp_all
structure Look (X : WCtx) (nv ov fv : Value) (p : Nat) (y : Tm) (W : World) : Prop where
 b0 : W.cell? ⟨X.B, 0, none⟩ = some (.slice (some ⟨X.LB, 0, none⟩) X.P.length X.lc)
 b1 : W.cell? ⟨X.B, 1, none⟩ = some (.int .i64 X.most)
 b2 : W.cell? ⟨X.B, 2, none⟩ = some (.map (some X.mb))
 b3 : W.cell? ⟨X.B, 3, none⟩ = some nv
 b4 : W.cell? ⟨X.B, 4, none⟩ = some (.map (some X.me))
 b5 : W.cell? ⟨X.B, 5, none⟩ = some ov
 b6 : W.cell? ⟨X.B, 6, none⟩ = some fv
 f3 : W.frozen? ⟨X.B, 3, none⟩ = false
 f5 : W.frozen? ⟨X.B, 5, none⟩ = false
 f6 : W.frozen? ⟨X.B, 6, none⟩ = false
 s0 : W.cell? ⟨X.LB, p * 6, none⟩ = some (.int .i8 y.k)
 s1 : W.cell? ⟨X.LB, p * 6 + 1, none⟩ = some (.int .i64 y.n)
 s2 : W.cell? ⟨X.LB, p * 6 + 2, none⟩ = some (.string y.s)
 s3 : W.cell? ⟨X.LB, p * 6 + 3, none⟩ = some (.string y.t)
 s4 : ∃ A cap, W.cell? ⟨X.LB, p * 6 + 4, none⟩ = some (.slice A y.l.length cap)
 s5 : W.cell? ⟨X.LB, p * 6 + 5, none⟩ = some (.int .i64 ((p + y.nodes : Nat) : Int))
section
variable {X : WCtx} {bset bound aset all : List ByteArray} {fl : List (Int × Nat)} {es es' : Array MapEntry} {c c' : Nat} {nv ov fv : Value} {fs : List Value} {V V' : World}
theorem WR.look (h : WR X bset bound aset all fl es es' c c' nv ov fv fs V) (hX : X.Ok) {p : Nat} {y : Tm} (hy : X.P[p]? = some y) : Look X nv ov fv p y V := by
 have hl := hX.lay.keep (h.below.block _ hX.LB)
 obtain ⟨A, cap, s0, s1, s2, s3, s4, s5⟩ := hl.spot hy
 have hb := h.box
 unfold WCtx.nv at hb
 exact ⟨cell_of_row hb rfl, cell_of_row hb rfl, cell_of_row hb rfl, cell_of_row hb rfl, cell_of_row hb rfl, cell_of_row hb rfl, cell_of_row hb rfl, free_of_row hb, free_of_row hb, free_of_row hb, s0, s1, s2, s3, ⟨A, cap, s4⟩, s5⟩
theorem WR.lookb (h : WR X bset bound aset all fl es es' c c' nv ov fv fs V) (s : ByteArray) : (Instr.lookup 67 (.map (some X.mb)) (.string s) true).run Tryz.prog V = .ok (.tuple #[.agg #[], .bool (decide (s ∈ bset))]) V := by
 by_cases hs : s ∈ bset
 ·obtain ⟨j, e, h1, _⟩ := h.sb.hit hs
  rw [run_look_hit Tryz.underlying67 Tryz.underlying9 V X.mb _ _ s j _ h.bm h1, decide_eq_true hs]
 ·rw [run_look_miss Tryz.underlying67 Tryz.underlying9 V X.mb _ _ s (.agg #[]) h.bm zero_unit9 (h.sb.miss hs), decide_eq_false hs]
theorem WR.looka (h : WR X bset bound aset all fl es es' c c' nv ov fv fs V) (s : ByteArray) : (Instr.lookup 67 (.map (some X.me)) (.string s) true).run Tryz.prog V = .ok (.tuple #[.agg #[], .bool (decide (s ∈ aset))]) V := by
 by_cases hs : s ∈ aset
 ·obtain ⟨j, e, h1, _⟩ := h.sa.hit hs
  rw [run_look_hit Tryz.underlying67 Tryz.underlying9 V X.me _ _ s j _ h.am h1, decide_eq_true hs]
 ·rw [run_look_miss Tryz.underlying67 Tryz.underlying9 V X.me _ _ s (.agg #[]) h.am zero_unit9 (h.sa.miss hs), decide_eq_false hs]
theorem own_box (h : WR X bset bound aset all fl es es' c c' nv ov fv fs V) {V4 : World} (g : V.grownBy V4 fv.ownBlock) : V4.heap[X.B]? = some (.cells #[X.nv, .int .i64 X.most, .map (some X.mb), nv, .map (some X.me), ov, fv] 70 (0, 0)) :=
 (g.block _ (heap_lt h.box) (fun e' => by
  obtain ⟨_, cur, h2⟩ := own_blk h.faults e'.symm
  rw [h.box] at h2; cases h2)).trans h.box
theorem ErrRow.snoc {base : Nat} (h : ErrRow base V fs fl) {r : Nat} {e : Int} {p : Nat} (hr : base ≤ r) (hb : V.heap[r]? = some (.cells #[.int .i64 9, .int .i64 e, .int .i64 ((p : Nat) : Int)] 51 (0, 0))) :
  ErrRow base V (fs ++ [.iface 44 (.pointer (some ⟨r, 0, none⟩))]) (fl ++ [(e, p)]) := by
 refine ⟨by rw [List.length_append, List.length_append, h.1]; rfl, fun i e' p' hi => ?_⟩
 rw [List.getElem?_append] at hi ⊢
 rw [h.1]
 by_cases hlt : i < fl.length
 ·rw [if_pos hlt] at hi ⊢; exact h.2 i e' p' hi
 ·rw [if_neg hlt] at hi ⊢
  have h0 : i - fl.length = 0 := by
   have := (List.getElem?_eq_some_iff.1 hi).1
   simp at this; omega
  rw [h0] at hi ⊢
  simp only [List.getElem?_cons_zero, Option.some.injEq, Prod.mk.injEq] at hi
  obtain ⟨rfl, rfl⟩ := hi
  exact ⟨r, rfl, hr, hb⟩
end

set_option maxHeartbeats 4000000 in
set_option maxRecDepth 100000 in
theorem told_any (X : WCtx) (st : Wk) (V : World) (p : Nat) (y : Tm) (h : WkAt X st V) (hy : X.P[p]? = some y) (hm : st.lee 100000) :
  Calls Tryz.prog 71 #[.pointer (some ⟨X.B, 0, none⟩), .int .i64 (p : Int)] V (WalkTo X (toldW st y.s p) V) := by
 obtain ⟨hX, hn, es, es', c, c', nv, ov, fv, fs, hR⟩ := h
 have hp1 : (p : Int) < (X.P.length : Int) := by have := (List.getElem?_eq_some_iff.1 hy).1; omega
 have hp0 : (0 : Int) ≤ (p : Int) := by omega
 have HLK : Hid (∀ W, Below V.heap.size V W → Look X nv ov fv p y W) := fun W hW => (hR.under hX hW).look hX hy
 have HLB : Hid (∀ W, Below V.heap.size V W → (Instr.lookup 67 (.map (some X.mb)) (.string y.s) true).run Tryz.prog W = .ok (.tuple #[.agg #[], .bool (decide (y.s ∈ st.bound))]) W) := fun W hW => (hR.under hX hW).lookb y.s
 have HR := Lib.hid hR
 have HX := Lib.hid hX
 have HN := Lib.hid hn
 have HM := Lib.hid hm
 have had := add6 X.LB p
 clear hR hX hn hm hy
 cases hd : decide (y.s ∈ st.bound)
 ·have HD : Hid (toldW st y.s p = { st with fl := st.fl ++ [(90, p)] }) := if_neg (of_decide_eq_false hd)
  go_enter Tryz.func71, Tryz.ntmps71
  go_wp2_with fail
  refine wp_region_E (S := fun W => Below V.heap.size V W) [] (by kernel_rfl) ((Below.refl _ _).drew) (fun hS0 => ?_)
  refine wpAnyE_take (i := 0) (oi := ⟨some 7, _, _, _, _, _⟩) (v := ?_) rfl (by kernel_rfl) (by kernel_rfl) (by kernel_rfl) (by kernel_rfl) (fun _ _ _ h => h) (Or.inl ⟨by kernel_rfl, ?_⟩) (by assumption) ?_; rotate_left; (intro w hSw; (try dsimp only at hSw); go_simp; first | done | with_reducible rfl); (try simp only [Act.put, sI, sZ, sS])
  refine wpAnyE_take (i := 1) (oi := ⟨some 8, _, _, _, _, _⟩) (v := ?_) rfl (by kernel_rfl) (by kernel_rfl) (by kernel_rfl) (by kernel_rfl) (fun _ _ _ h => h) (Or.inl ⟨by kernel_rfl, ?_⟩) (by assumption) ?_; rotate_left; (intro w hSw; (try dsimp only at hSw); go_simp; first | done | with_reducible rfl); (try simp only [Act.put, sI, sZ, sS])
  refine wpAnyE_take (i := 2) (oi := ⟨some 9, _, _, _, _, _⟩) (v := ?_) rfl (by kernel_rfl) (by kernel_rfl) (by kernel_rfl) (by kernel_rfl) (fun _ _ _ h => h) (Or.inl ⟨by kernel_rfl, ?_⟩) (by assumption) ?_; rotate_left; (intro w hSw; (try dsimp only at hSw); go_simp; first | done | with_reducible rfl); (try simp only [Act.put, sI, sZ, sS])
  refine wpAnyE_take (i := 3) (oi := ⟨some 10, _, _, _, _, _⟩) (v := ?_) rfl (by kernel_rfl) (by kernel_rfl) (by kernel_rfl) (by kernel_rfl) (fun _ _ _ h => h) (Or.inl ⟨by kernel_rfl, ?_⟩) (by assumption) ?_; rotate_left; (intro w hSw; (try dsimp only at hSw); obtain ⟨-, -, b2, -, -, -, -, -, -, -, -, -, -, -, -, -⟩ := HLK.out w (hSw); go_simp; first | done | with_reducible rfl); (try simp only [Act.put, sI, sZ, sS])
  refine wpAnyE_take (i := 4) (oi := ⟨some 11, _, _, _, _, _⟩) (v := ?_) rfl (by kernel_rfl) (by kernel_rfl) (by kernel_rfl) (by kernel_rfl) (fun _ _ _ h => h) (Or.inl ⟨by kernel_rfl, ?_⟩) (by assumption) ?_; rotate_left; (intro w hSw; (try dsimp only at hSw); go_simp; first | done | with_reducible rfl); (try simp only [Act.put, sI, sZ, sS])
  refine wpAnyE_take (i := 5) (oi := ⟨some 12, _, _, _, _, _⟩) (v := ?_) rfl (by kernel_rfl) (by kernel_rfl) (by kernel_rfl) (by kernel_rfl) (fun _ _ _ h => h) (Or.inl ⟨by kernel_rfl, ?_⟩) (by assumption) ?_; rotate_left; (intro w hSw; (try dsimp only at hSw); go_simp; first | done | with_reducible rfl); (try simp only [Act.put, sI, sZ, sS])
  refine wpAnyE_take (i := 6) (oi := ⟨some 13, _, _, _, _, _⟩) (v := ?_) rfl (by kernel_rfl) (by kernel_rfl) (by kernel_rfl) (by kernel_rfl) (fun _ _ _ h => h) (Or.inl ⟨by kernel_rfl, ?_⟩) (by assumption) ?_; rotate_left; (intro w hSw; (try dsimp only at hSw); go_simp; first | done | with_reducible rfl); (try simp only [Act.put, sI, sZ, sS])
  refine wpAnyE_take (i := 7) (oi := ⟨some 14, _, _, _, _, _⟩) (v := ?_) rfl (by kernel_rfl) (by kernel_rfl) (by kernel_rfl) (by kernel_rfl) (fun _ _ _ h => h) (Or.inl ⟨by kernel_rfl, ?_⟩) (by assumption) ?_; rotate_left; (intro w hSw; (try dsimp only at hSw); obtain ⟨b0, -, -, -, -, -, -, -, -, -, -, -, -, -, -, -⟩ := HLK.out w (hSw); go_simp; first | done | with_reducible rfl); (try simp only [Act.put, sI, sZ, sS])
  refine wpAnyE_take (i := 8) (oi := ⟨some 15, _, _, _, _, _⟩) (v := ?_) rfl (by kernel_rfl) (by kernel_rfl) (by kernel_rfl) (by kernel_rfl) (fun _ _ _ h => h) (Or.inl ⟨by kernel_rfl, ?_⟩) (by assumption) ?_; rotate_left; (intro w hSw; (try dsimp only at hSw); go_simp; first | done | with_reducible rfl); (try simp only [Act.put, sI, sZ, sS])
  refine wpAnyE_take (i := 9) (oi := ⟨some 16, _, _, _, _, _⟩) (v := ?_) rfl (by kernel_rfl) (by kernel_rfl) (by kernel_rfl) (by kernel_rfl) (fun _ _ _ h => h) (Or.inl ⟨by kernel_rfl, ?_⟩) (by assumption) ?_; rotate_left; (intro w hSw; (try dsimp only at hSw); go_simp; first | done | with_reducible rfl); (try simp only [Act.put, sI, sZ, sS])
  refine wpAnyE_take (i := 10) (oi := ⟨some 17, _, _, _, _, _⟩) (v := ?_) rfl (by kernel_rfl) (by kernel_rfl) (by kernel_rfl) (by kernel_rfl) (fun _ _ _ h => h) (Or.inl ⟨by kernel_rfl, ?_⟩) (by assumption) ?_; rotate_left; (intro w hSw; (try dsimp only at hSw); go_simp; first | done | with_reducible rfl); (try simp only [Act.put, sI, sZ, sS])
  refine wpAnyE_take (i := 11) (oi := ⟨some 18, _, _, _, _, _⟩) (v := ?_) rfl (by kernel_rfl) (by kernel_rfl) (by kernel_rfl) (by kernel_rfl) (fun _ _ _ h => h) (Or.inl ⟨by kernel_rfl, ?_⟩) (by assumption) ?_; rotate_left; (intro w hSw; (try dsimp only at hSw); go_simp; first | done | with_reducible rfl); (try simp only [Act.put, sI, sZ, sS])
  refine wpAnyE_take (i := 12) (oi := ⟨some 19, _, _, _, _, _⟩) (v := ?_) rfl (by kernel_rfl) (by kernel_rfl) (by kernel_rfl) (by kernel_rfl) (fun _ _ _ h => h) (Or.inl ⟨by kernel_rfl, ?_⟩) (by assumption) ?_; rotate_left; (intro w hSw; (try dsimp only at hSw); obtain ⟨-, -, -, -, -, -, -, -, -, -, -, -, s2, -, -, -⟩ := HLK.out w (hSw); go_simp; first | done | with_reducible rfl); (try simp only [Act.put, sI, sZ, sS])
  refine wpAnyE_take (i := 13) (oi := ⟨some 20, _, _, _, _, _⟩) (v := ?_) rfl (by kernel_rfl) (by kernel_rfl) (by kernel_rfl) (by kernel_rfl) (fun _ _ _ h => h) (Or.inl ⟨by kernel_rfl, ?_⟩) (by assumption) ?_; rotate_left; (intro w hSw; (try dsimp only at hSw); have ql := HLB.out w hSw; rw [hd] at ql; go_simp; first | done | with_reducible rfl); (try simp only [Act.put, sI, sZ, sS])
  refine wpAnyE_take (i := 14) (oi := ⟨some 6, _, _, _, _, _⟩) (v := ?_) rfl (by kernel_rfl) (by kernel_rfl) (by kernel_rfl) (by kernel_rfl) (fun _ _ _ h => h) (Or.inl ⟨by kernel_rfl, ?_⟩) (by assumption) ?_; rotate_left; (intro w hSw; (try dsimp only at hSw); go_simp; first | done | with_reducible rfl); (try simp only [Act.put, sI, sZ, sS])
  refine wpAnyE_take (i := 15) (oi := ⟨some 21, _, _, _, _, _⟩) (v := ?_) rfl (by kernel_rfl) (by kernel_rfl) (by kernel_rfl) (by kernel_rfl) (fun _ _ _ h => h) (Or.inl ⟨by kernel_rfl, ?_⟩) (by assumption) ?_; rotate_left; (intro w hSw; (try dsimp only at hSw); go_simp; first | done | with_reducible rfl); (try simp only [Act.put, sI, sZ, sS])
  refine wpAnyE_take (i := 16) (oi := ⟨some 22, _, _, _, _, _⟩) (v := ?_) rfl (by kernel_rfl) (by kernel_rfl) (by kernel_rfl) (by kernel_rfl) (fun _ _ _ h => h) (Or.inl ⟨by kernel_rfl, ?_⟩) (by assumption) ?_; rotate_left; (intro w hSw; (try dsimp only at hSw); go_simp; first | done | with_reducible rfl); (try simp only [Act.put, sI, sZ, sS])
  refine wpAnyE_one (i := 17) (o := ⟨some 4, _, _, _, _, _⟩) (by kernel_rfl) rfl (fun K hK => ?_)
  rw [if_pos (by rfl)]
  go_simp
  refine hK.out _ _ (hS0.alloc (by have := hS0.size; omega) _) (fun hSn => ?_)
  clear hK K; (try simp only [Act.put, sI, sZ, sS])
  refine wpAnyE_one (i := 18) (o := ⟨none, _, _, _, _, _⟩) (by kernel_rfl) rfl (fun K hK => ?_)
  rw [if_pos (by rfl)]
  go_simp
  refine hK.out _ _ hSn (fun hSn => ?_)
  clear hK K; (try simp only [Act.put, sI, sZ, sS])
  refine wpAnyE_take (i := 19) (oi := ⟨some 5, _, _, _, _, _⟩) (v := ?_) rfl (by kernel_rfl) (by kernel_rfl) (by kernel_rfl) (by kernel_rfl) (fun _ _ _ h => h) (Or.inl ⟨by kernel_rfl, ?_⟩) (by assumption) ?_; rotate_left; (intro w hSw; (try dsimp only at hSw); go_simp; first | done | with_reducible rfl); (try simp only [Act.put, sI, sZ, sS])
  refine wpAnyE_done (by kernel_rfl) ?_ _
  go_wp2_with fail
  have HB1 := Lib.hid (((Below.refl V.heap.size V).alloc (Nat.le_refl _) (.cells #[] 119)).drew)
  clear hS0
  generalize (V.alloc (.cells #[] 119)).drew = V1 at HB1 ⊢
  have HR1 := Lib.hid (HR.out.under HX.out HB1.out)
  have HFL : Hid (fs.length + 1 ≤ 2000000) := by show _ ≤ _; have h1 := HR.out.errs.1; have h2 := HM.out.2.2; omega
  refine wp_region_E (S := fun W => Below V1.heap.size V1 W) [8, 11] (by kernel_rfl) ((Below.refl _ _).drew) (fun hS0 => ?_)
  generalize V1.drew = V0 at hS0 ⊢
  refine te0 0 ?_; (try simp only [Act.put, sI, sZ, sS])
  refine te0 1 ?_; (try simp only [Act.put, sI, sZ, sS])
  refine te0 2 ?_; (try simp only [Act.put, sI, sZ, sS])
  refine te0 3 ?_; (try simp only [Act.put, sI, sZ, sS])
  refine wpAnyE_take (i := 4) (oi := ⟨some 29, _, _, _, _, _⟩) (v := ?_) rfl (by kernel_rfl) (by kernel_rfl) (by kernel_rfl) (by kernel_rfl) (fun _ _ _ h => h) (Or.inl ⟨by kernel_rfl, ?_⟩) (by assumption) ?_; rotate_left; (intro w hSw; (try dsimp only at hSw); obtain ⟨-, -, -, -, -, -, b6, -, -, -, -, -, -, -, -, -⟩ := HLK.out w (HB1.out.trans (hSw.mono HB1.out.size)); go_simp; first | done | with_reducible rfl); (try simp only [Act.put, sI, sZ, sS])
  refine te0 5 ?_; (try simp only [Act.put, sI, sZ, sS])
  refine wpAnyE_one (i := 6) (o := ⟨some 31, _, _, _, _, _⟩) (by kernel_rfl) rfl (fun K hK => ?_)
  rw [if_pos (by rfl)]
  go_simp
  refine (refused_any _ _ _).mono ?_
  rintro e w1 ⟨rfl, rfl⟩
  go_wp2_with fail
  refine hK.out _ _ (hS0.alloc (by have := hS0.size; omega) _) (fun hSn => ?_)
  clear hK K; (try simp only [Act.put, sI, sZ, sS])
  have hb2 : (V0.alloc (.cells #[.int .i64 9, .int .i64 90, .int .i64 (p : Int)] 51)).heap[V0.heap.size]? = some (.cells #[.int .i64 9, .int .i64 90, .int .i64 (p : Int)] 51 (0, 0)) := block_alloc V0 _
  have hz0 := hS0.size
  clear hS0
  generalize V0.alloc (.cells #[.int .i64 9, .int .i64 90, .int .i64 (p : Int)] 51) = V2 at hSn hb2 ⊢
  refine wpAnyE_one (i := 7) (o := ⟨some 32, _, _, _, _, _⟩) (by kernel_rfl) rfl (fun K hK => ?_)
  rw [if_pos (by rfl)]
  go_simp
  refine hK.out _ _ (hSn.alloc (by have := hSn.size; omega) _) (fun hSn => ?_)
  clear hK K; (try simp only [Act.put, sI, sZ, sS])
  have hb3 : (V2.alloc (.cells #[.iface 44 (.pointer (some ⟨V0.heap.size, 0, none⟩))] 47)).heap[V0.heap.size]? = _ := (Below.heap_alloc _ _ _ (heap_lt hb2)).trans hb2
  have hb4 : (V2.alloc (.cells #[.iface 44 (.pointer (some ⟨V0.heap.size, 0, none⟩))] 47)).heap[V2.heap.size]? = some (.cells #[.iface 44 (.pointer (some ⟨V0.heap.size, 0, none⟩))] 47 (0, 0)) := block_alloc V2 _
  generalize V2.alloc (.cells #[.iface 44 (.pointer (some ⟨V0.heap.size, 0, none⟩))] 47) = V3 at hSn hb3 hb4 ⊢
  have hR3 := HR1.out.under HX.out hSn
  have hBL := Nat.le_trans HX.out.base hR3.below.size
  refine wpAnyE_late (i := 8) (o := ⟨some 33, _, _, _, _, _⟩) (by kernel_rfl) rfl (by kernel_rfl) (fun K hK => ?_)
  rw [if_pos (by rfl)]
  refine wp_own1 elt_err _ _ rfl hR3.faults hBL rfl V2.heap.size rfl hb4 rfl (by simp [Value.oneCell']) HFL.out (fun v' V4 O4 G4 A4 => ?_)
  obtain ⟨A5, cp5, rfl, -⟩ := own_slice O4
  obtain ⟨hR5, kt5⟩ := hR3.setf HX.out (fs2 := fs ++ [.iface 44 (.pointer (some ⟨V0.heap.size, 0, none⟩))]) G4 (by rw [List.length_append]; exact O4) A4 (hR3.errs.snoc (by have := HR1.out.below.size; have := HX.out.base; omega) hb3)
  have f6 : V4.frozen? ⟨X.B, 6, none⟩ = false := free_of_row (own_box hR3 G4)
  have c6 : V4.cell? ⟨X.B, 6, none⟩ = some fv := cell_of_row (own_box hR3 G4) rfl
  refine hK.out _ _ ?_
  clear hK K; (try simp only [Act.put, sI, sZ, sS])
  refine wpAny_take (i := 9) (oi := ⟨some 34, _, _, _, _, _⟩) (v := ?_) rfl (by kernel_rfl) (by kernel_rfl) (by kernel_rfl) (fun _ _ _ h => h) (Or.inl ⟨by kernel_rfl, ?_⟩) ?_; rotate_left; (intro w; go_simp; first | done | with_reducible rfl); (try simp only [Act.put, sI, sZ, sS])
  refine wpAny_take (i := 10) (oi := ⟨some 35, _, _, _, _, _⟩) (v := ?_) rfl (by kernel_rfl) (by kernel_rfl) (by kernel_rfl) (fun _ _ _ h => h) (Or.inl ⟨by kernel_rfl, ?_⟩) ?_; rotate_left; (intro w; go_simp; first | done | with_reducible rfl); (try simp only [Act.put, sI, sZ, sS])
  refine wpAny_ready (rs := [11]) (by kernel_rfl) (by simp) ?_
  refine AllReady.cons rfl (fun K hK => ?_) AllReady.nil
  go_simp
  refine hK _ _ ?_
  clear hK K; (try simp only [Act.put, sI, sZ, sS])
  refine wpAny_done (by kernel_rfl) ?_ _
  go_wp2_with fail
  go_end0
  rw [HD.out]
  exact ⟨rfl, ⟨HX.out, HN.out, es, es', c, c', nv, ov, _, _, hR5⟩, (KeepT.of_below (HB1.out.trans (hSn.mono HB1.out.size))).trans kt5⟩
 ·have HD : Hid (toldW st y.s p = st) := if_pos (of_decide_eq_true hd)
  go_enter Tryz.func71, Tryz.ntmps71
  go_wp2_with fail
  refine wp_region_E (S := fun W => Below V.heap.size V W) [] (by kernel_rfl) ((Below.refl _ _).drew) (fun hS0 => ?_)
  refine wpAnyE_take (i := 0) (oi := ⟨some 7, _, _, _, _, _⟩) (v := ?_) rfl (by kernel_rfl) (by kernel_rfl) (by kernel_rfl) (by kernel_rfl) (fun _ _ _ h => h) (Or.inl ⟨by kernel_rfl, ?_⟩) (by assumption) ?_; rotate_left; (intro w hSw; (try dsimp only at hSw); go_simp; first | done | with_reducible rfl); (try simp only [Act.put, sI, sZ, sS])
  refine wpAnyE_take (i := 1) (oi := ⟨some 8, _, _, _, _, _⟩) (v := ?_) rfl (by kernel_rfl) (by kernel_rfl) (by kernel_rfl) (by kernel_rfl) (fun _ _ _ h => h) (Or.inl ⟨by kernel_rfl, ?_⟩) (by assumption) ?_; rotate_left; (intro w hSw; (try dsimp only at hSw); go_simp; first | done | with_reducible rfl); (try simp only [Act.put, sI, sZ, sS])
  refine wpAnyE_take (i := 2) (oi := ⟨some 9, _, _, _, _, _⟩) (v := ?_) rfl (by kernel_rfl) (by kernel_rfl) (by kernel_rfl) (by kernel_rfl) (fun _ _ _ h => h) (Or.inl ⟨by kernel_rfl, ?_⟩) (by assumption) ?_; rotate_left; (intro w hSw; (try dsimp only at hSw); go_simp; first | done | with_reducible rfl); (try simp only [Act.put, sI, sZ, sS])
  refine wpAnyE_take (i := 3) (oi := ⟨some 10, _, _, _, _, _⟩) (v := ?_) rfl (by kernel_rfl) (by kernel_rfl) (by kernel_rfl) (by kernel_rfl) (fun _ _ _ h => h) (Or.inl ⟨by kernel_rfl, ?_⟩) (by assumption) ?_; rotate_left; (intro w hSw; (try dsimp only at hSw); obtain ⟨-, -, b2, -, -, -, -, -, -, -, -, -, -, -, -, -⟩ := HLK.out w (hSw); go_simp; first | done | with_reducible rfl); (try simp only [Act.put, sI, sZ, sS])
  refine wpAnyE_take (i := 4) (oi := ⟨some 11, _, _, _, _, _⟩) (v := ?_) rfl (by kernel_rfl) (by kernel_rfl) (by kernel_rfl) (by kernel_rfl) (fun _ _ _ h => h) (Or.inl ⟨by kernel_rfl, ?_⟩) (by assumption) ?_; rotate_left; (intro w hSw; (try dsimp only at hSw); go_simp; first | done | with_reducible rfl); (try simp only [Act.put, sI, sZ, sS])
  refine wpAnyE_take (i := 5) (oi := ⟨some 12, _, _, _, _, _⟩) (v := ?_) rfl (by kernel_rfl) (by kernel_rfl) (by kernel_rfl) (by kernel_rfl) (fun _ _ _ h => h) (Or.inl ⟨by kernel_rfl, ?_⟩) (by assumption) ?_; rotate_left; (intro w hSw; (try dsimp only at hSw); go_simp; first | done | with_reducible rfl); (try simp only [Act.put, sI, sZ, sS])
  refine wpAnyE_take (i := 6) (oi := ⟨some 13, _, _, _, _, _⟩) (v := ?_) rfl (by kernel_rfl) (by kernel_rfl) (by kernel_rfl) (by kernel_rfl) (fun _ _ _ h => h) (Or.inl ⟨by kernel_rfl, ?_⟩) (by assumption) ?_; rotate_left; (intro w hSw; (try dsimp only at hSw); go_simp; first | done | with_reducible rfl); (try simp only [Act.put, sI, sZ, sS])
  refine wpAnyE_take (i := 7) (oi := ⟨some 14, _, _, _, _, _⟩) (v := ?_) rfl (by kernel_rfl) (by kernel_rfl) (by kernel_rfl) (by kernel_rfl) (fun _ _ _ h => h) (Or.inl ⟨by kernel_rfl, ?_⟩) (by assumption) ?_; rotate_left; (intro w hSw; (try dsimp only at hSw); obtain ⟨b0, -, -, -, -, -, -, -, -, -, -, -, -, -, -, -⟩ := HLK.out w (hSw); go_simp; first | done | with_reducible rfl); (try simp only [Act.put, sI, sZ, sS])
  refine wpAnyE_take (i := 8) (oi := ⟨some 15, _, _, _, _, _⟩) (v := ?_) rfl (by kernel_rfl) (by kernel_rfl) (by kernel_rfl) (by kernel_rfl) (fun _ _ _ h => h) (Or.inl ⟨by kernel_rfl, ?_⟩) (by assumption) ?_; rotate_left; (intro w hSw; (try dsimp only at hSw); go_simp; first | done | with_reducible rfl); (try simp only [Act.put, sI, sZ, sS])
  refine wpAnyE_take (i := 9) (oi := ⟨some 16, _, _, _, _, _⟩) (v := ?_) rfl (by kernel_rfl) (by kernel_rfl) (by kernel_rfl) (by kernel_rfl) (fun _ _ _ h => h) (Or.inl ⟨by kernel_rfl, ?_⟩) (by assumption) ?_; rotate_left; (intro w hSw; (try dsimp only at hSw); go_simp; first | done | with_reducible rfl); (try simp only [Act.put, sI, sZ, sS])
  refine wpAnyE_take (i := 10) (oi := ⟨some 17, _, _, _, _, _⟩) (v := ?_) rfl (by kernel_rfl) (by kernel_rfl) (by kernel_rfl) (by kernel_rfl) (fun _ _ _ h => h) (Or.inl ⟨by kernel_rfl, ?_⟩) (by assumption) ?_; rotate_left; (intro w hSw; (try dsimp only at hSw); go_simp; first | done | with_reducible rfl); (try simp only [Act.put, sI, sZ, sS])
  refine wpAnyE_take (i := 11) (oi := ⟨some 18, _, _, _, _, _⟩) (v := ?_) rfl (by kernel_rfl) (by kernel_rfl) (by kernel_rfl) (by kernel_rfl) (fun _ _ _ h => h) (Or.inl ⟨by kernel_rfl, ?_⟩) (by assumption) ?_; rotate_left; (intro w hSw; (try dsimp only at hSw); go_simp; first | done | with_reducible rfl); (try simp only [Act.put, sI, sZ, sS])
  refine wpAnyE_take (i := 12) (oi := ⟨some 19, _, _, _, _, _⟩) (v := ?_) rfl (by kernel_rfl) (by kernel_rfl) (by kernel_rfl) (by kernel_rfl) (fun _ _ _ h => h) (Or.inl ⟨by kernel_rfl, ?_⟩) (by assumption) ?_; rotate_left; (intro w hSw; (try dsimp only at hSw); obtain ⟨-, -, -, -, -, -, -, -, -, -, -, -, s2, -, -, -⟩ := HLK.out w (hSw); go_simp; first | done | with_reducible rfl); (try simp only [Act.put, sI, sZ, sS])
  refine wpAnyE_take (i := 13) (oi := ⟨some 20, _, _, _, _, _⟩) (v := ?_) rfl (by kernel_rfl) (by kernel_rfl) (by kernel_rfl) (by kernel_rfl) (fun _ _ _ h => h) (Or.inl ⟨by kernel_rfl, ?_⟩) (by assumption) ?_; rotate_left; (intro w hSw; (try dsimp only at hSw); have ql := HLB.out w hSw; rw [hd] at ql; go_simp; first | done | with_reducible rfl); (try simp only [Act.put, sI, sZ, sS])
  refine wpAnyE_take (i := 14) (oi := ⟨some 6, _, _, _, _, _⟩) (v := ?_) rfl (by kernel_rfl) (by kernel_rfl) (by kernel_rfl) (by kernel_rfl) (fun _ _ _ h => h) (Or.inl ⟨by kernel_rfl, ?_⟩) (by assumption) ?_; rotate_left; (intro w hSw; (try dsimp only at hSw); go_simp; first | done | with_reducible rfl); (try simp only [Act.put, sI, sZ, sS])
  refine wpAnyE_take (i := 15) (oi := ⟨some 21, _, _, _, _, _⟩) (v := ?_) rfl (by kernel_rfl) (by kernel_rfl) (by kernel_rfl) (by kernel_rfl) (fun _ _ _ h => h) (Or.inl ⟨by kernel_rfl, ?_⟩) (by assumption) ?_; rotate_left; (intro w hSw; (try dsimp only at hSw); go_simp; first | done | with_reducible rfl); (try simp only [Act.put, sI, sZ, sS])
  refine wpAnyE_take (i := 16) (oi := ⟨some 22, _, _, _, _, _⟩) (v := ?_) rfl (by kernel_rfl) (by kernel_rfl) (by kernel_rfl) (by kernel_rfl) (fun _ _ _ h => h) (Or.inl ⟨by kernel_rfl, ?_⟩) (by assumption) ?_; rotate_left; (intro w hSw; (try dsimp only at hSw); go_simp; first | done | with_reducible rfl); (try simp only [Act.put, sI, sZ, sS])
  refine wpAnyE_one (i := 17) (o := ⟨some 4, _, _, _, _, _⟩) (by kernel_rfl) rfl (fun K hK => ?_)
  rw [if_pos (by rfl)]
  go_simp
  refine hK.out _ _ (hS0.alloc (by have := hS0.size; omega) _) (fun hSn => ?_)
  clear hK K; (try simp only [Act.put, sI, sZ, sS])
  refine wpAnyE_one (i := 18) (o := ⟨none, _, _, _, _, _⟩) (by kernel_rfl) rfl (fun K hK => ?_)
  rw [if_pos (by rfl)]
  go_simp
  refine hK.out _ _ hSn (fun hSn => ?_)
  clear hK K; (try simp only [Act.put, sI, sZ, sS])
  refine wpAnyE_take (i := 19) (oi := ⟨some 5, _, _, _, _, _⟩) (v := ?_) rfl (by kernel_rfl) (by kernel_rfl) (by kernel_rfl) (by kernel_rfl) (fun _ _ _ h => h) (Or.inl ⟨by kernel_rfl, ?_⟩) (by assumption) ?_; rotate_left; (intro w hSw; (try dsimp only at hSw); go_simp; first | done | with_reducible rfl); (try simp only [Act.put, sI, sZ, sS])
  refine wpAnyE_done (by kernel_rfl) ?_ _
  go_wp2_with fail
  go_end0
  rw [HD.out]
  exact walk_same ⟨HX.out, HN.out, es, es', c, c', nv, ov, fv, fs, HR.out⟩ (((Below.refl _ _).alloc (Nat.le_refl _) _).drew)
end Go.Proofs.YtmdcdhdjojimeaaGreatDoor
