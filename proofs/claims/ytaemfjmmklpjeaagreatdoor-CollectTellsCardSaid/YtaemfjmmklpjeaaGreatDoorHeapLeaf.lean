/- package heap: own, Leaf. package heap: Leaf. -/
import Derived.Test.YtaemfjmmklpjeaaGreatDoorHeapB
import Derived.StillTailTactics
set_option linter.unusedVariables false
namespace Go.Proofs.YtaemfjmmklpjeaaGreatDoor
open Go.RowKit

theorem set_seven {w : World} {b : Nat} {T : TypeId} {a0 a1 a2 a3 a4 a5 a6 : Value} (c0 c1 c2 c3 c4 c5 c6 : Value) (h : w.heap[b]? = some (.cells #[a0, a1, a2, a3, a4, a5, a6] T (0, 0))) :
    (((((((w.setCell ⟨b, 0, none⟩ c0).setCell ⟨b, 1, none⟩ c1).setCell ⟨b, 2, none⟩ c2).setCell ⟨b, 3, none⟩ c3).setCell ⟨b, 4, none⟩ c4).setCell ⟨b, 5, none⟩ c5).setCell ⟨b, 6, none⟩ c6).heap[b]? = some (.cells #[c0, c1, c2, c3, c4, c5, c6] T (0, 0)) ∧ Mod (fun k => k = b) w (((((((w.setCell ⟨b, 0, none⟩ c0).setCell ⟨b, 1, none⟩ c1).setCell ⟨b, 2, none⟩ c2).setCell ⟨b, 3, none⟩ c3).setCell ⟨b, 4, none⟩ c4).setCell ⟨b, 5, none⟩ c5).setCell ⟨b, 6, none⟩ c6) := by
  have s0 : (w.setCell ⟨b, 0, none⟩ c0).heap[b]? = some (.cells #[c0, a1, a2, a3, a4, a5, a6] T (0, 0)) := set_row c0 (i := 0) h
  have s1 : ((w.setCell ⟨b, 0, none⟩ c0).setCell ⟨b, 1, none⟩ c1).heap[b]? = some (.cells #[c0, c1, a2, a3, a4, a5, a6] T (0, 0)) := set_row c1 (i := 1) s0
  have s2 : (((w.setCell ⟨b, 0, none⟩ c0).setCell ⟨b, 1, none⟩ c1).setCell ⟨b, 2, none⟩ c2).heap[b]? = some (.cells #[c0, c1, c2, a3, a4, a5, a6] T (0, 0)) := set_row c2 (i := 2) s1
  have s3 : ((((w.setCell ⟨b, 0, none⟩ c0).setCell ⟨b, 1, none⟩ c1).setCell ⟨b, 2, none⟩ c2).setCell ⟨b, 3, none⟩ c3).heap[b]? = some (.cells #[c0, c1, c2, c3, a4, a5, a6] T (0, 0)) := set_row c3 (i := 3) s2
  have s4 : (((((w.setCell ⟨b, 0, none⟩ c0).setCell ⟨b, 1, none⟩ c1).setCell ⟨b, 2, none⟩ c2).setCell ⟨b, 3, none⟩ c3).setCell ⟨b, 4, none⟩ c4).heap[b]? = some (.cells #[c0, c1, c2, c3, c4, a5, a6] T (0, 0)) := set_row c4 (i := 4) s3
  have s5 : ((((((w.setCell ⟨b, 0, none⟩ c0).setCell ⟨b, 1, none⟩ c1).setCell ⟨b, 2, none⟩ c2).setCell ⟨b, 3, none⟩ c3).setCell ⟨b, 4, none⟩ c4).setCell ⟨b, 5, none⟩ c5).heap[b]? = some (.cells #[c0, c1, c2, c3, c4, c5, a6] T (0, 0)) := set_row c5 (i := 5) s4
  have s6 : (((((((w.setCell ⟨b, 0, none⟩ c0).setCell ⟨b, 1, none⟩ c1).setCell ⟨b, 2, none⟩ c2).setCell ⟨b, 3, none⟩ c3).setCell ⟨b, 4, none⟩ c4).setCell ⟨b, 5, none⟩ c5).setCell ⟨b, 6, none⟩ c6).heap[b]? = some (.cells #[c0, c1, c2, c3, c4, c5, c6] T (0, 0)) := set_row c6 (i := 6) s5
  refine ⟨s6, ?_⟩
  · have m : ∀ (W : World) (i : Nat) (c : Value), Mod (fun k => k = b) W (W.setCell ⟨b, i, none⟩ c) := fun W i c => Mod.setCell _ _ _ (.inl rfl)
    exact (((((((m _ 0 _).trans (m _ 1 _) (fun _ _ h => h)).trans (m _ 2 _) (fun _ _ h => h)).trans (m _ 3 _) (fun _ _ h => h)).trans (m _ 4 _) (fun _ _ h => h)).trans (m _ 5 _) (fun _ _ h => h)).trans (m _ 6 _) (fun _ _ h => h))

theorem set_word_term {w : World} {b : Nat} {T : TypeId} {a0 a1 a2 a3 a4 a5 a6 : Value} (c2 c3 c4 c5 c6 : Value) (h : w.heap[b]? = some (.cells #[a0, a1, a2, a3, a4, a5, a6] T (0, 0))) :
    (((((w.setCell ⟨b, 2, none⟩ c2).setCell ⟨b, 3, none⟩ c3).setCell ⟨b, 4, none⟩ c4).setCell ⟨b, 5, none⟩ c5).setCell ⟨b, 6, none⟩ c6).heap[b]? = some (.cells #[a0, a1, c2, c3, c4, c5, c6] T (0, 0)) ∧ Mod (fun k => k = b) w (((((w.setCell ⟨b, 2, none⟩ c2).setCell ⟨b, 3, none⟩ c3).setCell ⟨b, 4, none⟩ c4).setCell ⟨b, 5, none⟩ c5).setCell ⟨b, 6, none⟩ c6) := by
  have s2 : (w.setCell ⟨b, 2, none⟩ c2).heap[b]? = some (.cells #[a0, a1, c2, a3, a4, a5, a6] T (0, 0)) := set_row c2 (i := 2) h
  have s3 : ((w.setCell ⟨b, 2, none⟩ c2).setCell ⟨b, 3, none⟩ c3).heap[b]? = some (.cells #[a0, a1, c2, c3, a4, a5, a6] T (0, 0)) := set_row c3 (i := 3) s2
  have s4 : (((w.setCell ⟨b, 2, none⟩ c2).setCell ⟨b, 3, none⟩ c3).setCell ⟨b, 4, none⟩ c4).heap[b]? = some (.cells #[a0, a1, c2, c3, c4, a5, a6] T (0, 0)) := set_row c4 (i := 4) s3
  have s5 : ((((w.setCell ⟨b, 2, none⟩ c2).setCell ⟨b, 3, none⟩ c3).setCell ⟨b, 4, none⟩ c4).setCell ⟨b, 5, none⟩ c5).heap[b]? = some (.cells #[a0, a1, c2, c3, c4, c5, a6] T (0, 0)) := set_row c5 (i := 5) s4
  have s6 : (((((w.setCell ⟨b, 2, none⟩ c2).setCell ⟨b, 3, none⟩ c3).setCell ⟨b, 4, none⟩ c4).setCell ⟨b, 5, none⟩ c5).setCell ⟨b, 6, none⟩ c6).heap[b]? = some (.cells #[a0, a1, c2, c3, c4, c5, c6] T (0, 0)) := set_row c6 (i := 6) s5
  refine ⟨s6, ?_⟩
  · have m : ∀ (W : World) (i : Nat) (c : Value), Mod (fun k => k = b) W (W.setCell ⟨b, i, none⟩ c) := fun W i c => Mod.setCell _ _ _ (.inl rfl)
    exact (((((m _ 2 _).trans (m _ 3 _) (fun _ _ h => h)).trans (m _ 4 _) (fun _ _ h => h)).trans (m _ 5 _) (fun _ _ h => h)).trans (m _ 6 _) (fun _ _ h => h))

structure OwnS (w V : World) (ct : Array Value) : Prop where
  below : Below w.heap.size w V
  bt : V.heap[w.heap.size + 1 + 1]? = some (.cells ct 27 (0, 0))
theorem OwnS.on {w V V' : World} {ct : Array Value} (h : OwnS w V ct) (hb : Below V.heap.size V V') : OwnS w V' ct :=
  ⟨h.below.trans (hb.mono h.below.size), (hb.block _ (heap_lt h.bt)).trans h.bt⟩

set_option maxHeartbeats 4000000 in
set_option maxRecDepth 100000 in
theorem own_any (c : Bool) (a k n : Int) (s t : ByteArray) (A : Option Addr) (len cap : Nat) (hs : s.size ≤ 281474976710656) (ht : t.size ≤ 281474976710656) (w : World) :
    Calls Tryz.prog 62 #[.agg #[(.bool c), (.int .i64 a), (.int .i8 k), (.int .i64 n), (.string s), (.string t), (.slice A len cap)]] w fun e w' => e = .returned (.agg #[(.bool c), (.int .i64 a), (.int .i8 k), (.int .i64 n), (.string s), (.string t), (.slice none 0 0)]) ∧ Below w.heap.size w w' := by
  obtain ⟨w1, hw1⟩ : ∃ w1, w1 = ((w.alloc (.cells #[(.bool c), (.int .i64 a), (.int .i8 k), (.int .i64 n), (.string s), (.string t), (.slice A len cap)] 51)).alloc (.cells #[(.bool false), (.int .i64 0), (.int .i8 0), (.int .i64 0), (.string ⟨#[]⟩), (.string ⟨#[]⟩), (.slice none 0 0)] 51)).alloc (.cells #[(.int .i8 k), (.int .i64 n), (.string s), (.string t), (.slice A len cap)] 27) := ⟨_, rfl⟩
  have h0 : OwnS w w1 #[(.int .i8 k), (.int .i64 n), (.string s), (.string t), (.slice A len cap)] ∧ w1.heap[w.heap.size]? = some (.cells #[(.bool c), (.int .i64 a), (.int .i8 k), (.int .i64 n), (.string s), (.string t), (.slice A len cap)] 51 (0, 0)) ∧ w1.heap[w.heap.size + 1]? = some (.cells #[(.bool false), (.int .i64 0), (.int .i8 0), (.int .i64 0), (.string ⟨#[]⟩), (.string ⟨#[]⟩), (.slice none 0 0)] 51 (0, 0)) := by
    have z1 : (w.alloc (.cells #[(.bool c), (.int .i64 a), (.int .i8 k), (.int .i64 n), (.string s), (.string t), (.slice A len cap)] 51)).heap.size = w.heap.size + 1 := World.size_alloc _ _
    have z2 : ((w.alloc (.cells #[(.bool c), (.int .i64 a), (.int .i8 k), (.int .i64 n), (.string s), (.string t), (.slice A len cap)] 51)).alloc (.cells #[(.bool false), (.int .i64 0), (.int .i8 0), (.int .i64 0), (.string ⟨#[]⟩), (.string ⟨#[]⟩), (.slice none 0 0)] 51)).heap.size = w.heap.size + 1 + 1 := by rw [World.size_alloc, z1]
    rw [hw1]
    refine ⟨⟨(((Below.refl _ w).alloc (Nat.le_refl _) _).alloc (by omega) _).alloc (by omega) _, ?_⟩, ?_, ?_⟩
    · rw [← z2]; exact block_alloc _ _
    · rw [Below.heap_alloc _ _ _ (by omega), Below.heap_alloc _ _ _ (by omega)]; exact block_alloc _ _
    · rw [Below.heap_alloc _ _ _ (by omega), ← z1]; exact block_alloc _ _
  have H0 := Lib.hid h0
  have CL1 : Hid (∀ V, Calls Tryz.prog 78 #[.string s] V fun e w' => e = .returned (.string s) ∧ Below V.heap.size V w') := fun V => Clone_any s V hs
  have CL2 : Hid (∀ V, Calls Tryz.prog 78 #[.string t] V fun e w' => e = .returned (.string t) ∧ Below V.heap.size V w') := fun V => Clone_any t V ht
  clear hs ht h0
  obtain ⟨w0, hw0⟩ : ∃ w0, w0 = (w.alloc (.cells #[(.bool c), (.int .i64 a), (.int .i8 k), (.int .i64 n), (.string s), (.string t), (.slice A len cap)] 51)).alloc (.cells #[(.bool false), (.int .i64 0), (.int .i8 0), (.int .i64 0), (.string ⟨#[]⟩), (.string ⟨#[]⟩), (.slice none 0 0)] 51) := ⟨_, rfl⟩
  have gw0 : w0.heap[w.heap.size]? = some (.cells #[(.bool c), (.int .i64 a), (.int .i8 k), (.int .i64 n), (.string s), (.string t), (.slice A len cap)] 51 (0, 0)) := by rw [hw0, Below.heap_alloc _ _ _ (by simp)]; exact block_alloc _ _
  have x0 : w0.cell? ⟨w.heap.size, 0, none⟩ = some (.bool c) := cell_of_row gw0 rfl
  have x1 : w0.cell? ⟨w.heap.size, 1, none⟩ = some (.int .i64 a) := cell_of_row gw0 rfl
  have x2 : w0.cell? ⟨w.heap.size, 2, none⟩ = some (.int .i8 k) := cell_of_row gw0 rfl
  have x3 : w0.cell? ⟨w.heap.size, 3, none⟩ = some (.int .i64 n) := cell_of_row gw0 rfl
  have x4 : w0.cell? ⟨w.heap.size, 4, none⟩ = some (.string s) := cell_of_row gw0 rfl
  have x5 : w0.cell? ⟨w.heap.size, 5, none⟩ = some (.string t) := cell_of_row gw0 rfl
  have x6 : w0.cell? ⟨w.heap.size, 6, none⟩ = some (.slice A len cap) := cell_of_row gw0 rfl
  clear gw0
  subst hw0
  go_enter Tryz.func62, Tryz.ntmps62
  go_wp2_with fail
  rw [← hw1]
  clear hw1 x0 x1 x2 x3 x4 x5 x6
  have hS0 : OwnS w w1.drew #[(.int .i8 k), (.int .i64 n), (.string s), (.string t), (.slice A len cap)] := H0.out.1.on ⟨rfl, rfl, rfl, Nat.le_refl _, fun _ _ => rfl⟩
  have hw1 : w1.drew.heap[w.heap.size]? = some (.cells #[(.bool c), (.int .i64 a), (.int .i8 k), (.int .i64 n), (.string s), (.string t), (.slice A len cap)] 51 (0, 0)) := H0.out.2.1
  have hr1 : w1.drew.heap[w.heap.size + 1]? = some (.cells #[(.bool false), (.int .i64 0), (.int .i8 0), (.int .i64 0), (.string ⟨#[]⟩), (.string ⟨#[]⟩), (.slice none 0 0)] 51 (0, 0)) := H0.out.2.2
  refine wp_region_held (S := fun V => OwnS w V #[(.int .i8 k), (.int .i64 n), (.string s), (.string t), (.slice A len cap)]) (by kernel_rfl) ?_
  refine wpAnyH_take (i := 0) (oi := ⟨some 6, _, _, _, _, _⟩) (v := ?_) rfl (by kernel_rfl) (by kernel_rfl) (by kernel_rfl) (fun _ _ _ h => h) (Or.inl ⟨by kernel_rfl, ?_⟩) (by assumption) ?_; rotate_left; (intro w hSw; (try dsimp only at hSw); have z0 := cell_of_row (i := 0) hSw.bt rfl; have z1 := cell_of_row (i := 1) hSw.bt rfl; have z2 := cell_of_row (i := 2) hSw.bt rfl; have z3 := cell_of_row (i := 3) hSw.bt rfl; have z4 := cell_of_row (i := 4) hSw.bt rfl; go_simp; first | done | with_reducible rfl); (try simp only [Act.put, List.setIfInBounds_toArray, List.set_cons_zero, List.set_cons_succ])
  refine wpAnyH_take (i := 1) (oi := ⟨some 7, _, _, _, _, _⟩) (v := ?_) rfl (by kernel_rfl) (by kernel_rfl) (by kernel_rfl) (fun _ _ _ h => h) (Or.inl ⟨by kernel_rfl, ?_⟩) (by assumption) ?_; rotate_left; (intro w hSw; (try dsimp only at hSw); have z0 := cell_of_row (i := 0) hSw.bt rfl; have z1 := cell_of_row (i := 1) hSw.bt rfl; have z2 := cell_of_row (i := 2) hSw.bt rfl; have z3 := cell_of_row (i := 3) hSw.bt rfl; have z4 := cell_of_row (i := 4) hSw.bt rfl; go_simp; first | done | with_reducible rfl); (try simp only [Act.put, List.setIfInBounds_toArray, List.set_cons_zero, List.set_cons_succ])
  refine wpAnyH_take (i := 2) (oi := ⟨some 8, _, _, _, _, _⟩) (v := ?_) rfl (by kernel_rfl) (by kernel_rfl) (by kernel_rfl) (fun _ _ _ h => h) (Or.inl ⟨by kernel_rfl, ?_⟩) (by assumption) ?_; rotate_left; (intro w hSw; (try dsimp only at hSw); have z0 := cell_of_row (i := 0) hSw.bt rfl; have z1 := cell_of_row (i := 1) hSw.bt rfl; have z2 := cell_of_row (i := 2) hSw.bt rfl; have z3 := cell_of_row (i := 3) hSw.bt rfl; have z4 := cell_of_row (i := 4) hSw.bt rfl; go_simp; first | done | with_reducible rfl); (try simp only [Act.put, List.setIfInBounds_toArray, List.set_cons_zero, List.set_cons_succ])
  refine wpAnyH_take (i := 3) (oi := ⟨some 9, _, _, _, _, _⟩) (v := ?_) rfl (by kernel_rfl) (by kernel_rfl) (by kernel_rfl) (fun _ _ _ h => h) (Or.inl ⟨by kernel_rfl, ?_⟩) (by assumption) ?_; rotate_left; (intro w hSw; (try dsimp only at hSw); have z0 := cell_of_row (i := 0) hSw.bt rfl; have z1 := cell_of_row (i := 1) hSw.bt rfl; have z2 := cell_of_row (i := 2) hSw.bt rfl; have z3 := cell_of_row (i := 3) hSw.bt rfl; have z4 := cell_of_row (i := 4) hSw.bt rfl; go_simp; first | done | with_reducible rfl); (try simp only [Act.put, List.setIfInBounds_toArray, List.set_cons_zero, List.set_cons_succ])
  refine wpAnyH_take (i := 4) (oi := ⟨some 10, _, _, _, _, _⟩) (v := ?_) rfl (by kernel_rfl) (by kernel_rfl) (by kernel_rfl) (fun _ _ _ h => h) (Or.inl ⟨by kernel_rfl, ?_⟩) (by assumption) ?_; rotate_left; (intro w hSw; (try dsimp only at hSw); have z0 := cell_of_row (i := 0) hSw.bt rfl; have z1 := cell_of_row (i := 1) hSw.bt rfl; have z2 := cell_of_row (i := 2) hSw.bt rfl; have z3 := cell_of_row (i := 3) hSw.bt rfl; have z4 := cell_of_row (i := 4) hSw.bt rfl; go_simp; first | done | with_reducible rfl); (try simp only [Act.put, List.setIfInBounds_toArray, List.set_cons_zero, List.set_cons_succ])
  refine wpAnyH_take (i := 5) (oi := ⟨some 11, _, _, _, _, _⟩) (v := ?_) rfl (by kernel_rfl) (by kernel_rfl) (by kernel_rfl) (fun _ _ _ h => h) (Or.inl ⟨by kernel_rfl, ?_⟩) (by assumption) ?_; rotate_left; (intro w hSw; (try dsimp only at hSw); have z0 := cell_of_row (i := 0) hSw.bt rfl; have z1 := cell_of_row (i := 1) hSw.bt rfl; have z2 := cell_of_row (i := 2) hSw.bt rfl; have z3 := cell_of_row (i := 3) hSw.bt rfl; have z4 := cell_of_row (i := 4) hSw.bt rfl; go_simp; first | done | with_reducible rfl); (try simp only [Act.put, List.setIfInBounds_toArray, List.set_cons_zero, List.set_cons_succ])
  refine wpAnyH_take (i := 7) (oi := ⟨some 13, _, _, _, _, _⟩) (v := ?_) rfl (by kernel_rfl) (by kernel_rfl) (by kernel_rfl) (fun _ _ _ h => h) (Or.inl ⟨by kernel_rfl, ?_⟩) (by assumption) ?_; rotate_left; (intro w hSw; (try dsimp only at hSw); have z0 := cell_of_row (i := 0) hSw.bt rfl; have z1 := cell_of_row (i := 1) hSw.bt rfl; have z2 := cell_of_row (i := 2) hSw.bt rfl; have z3 := cell_of_row (i := 3) hSw.bt rfl; have z4 := cell_of_row (i := 4) hSw.bt rfl; go_simp; first | done | with_reducible rfl); (try simp only [Act.put, List.setIfInBounds_toArray, List.set_cons_zero, List.set_cons_succ])
  refine wpAnyH_take (i := 8) (oi := ⟨some 14, _, _, _, _, _⟩) (v := ?_) rfl (by kernel_rfl) (by kernel_rfl) (by kernel_rfl) (fun _ _ _ h => h) (Or.inl ⟨by kernel_rfl, ?_⟩) (by assumption) ?_; rotate_left; (intro w hSw; (try dsimp only at hSw); have z0 := cell_of_row (i := 0) hSw.bt rfl; have z1 := cell_of_row (i := 1) hSw.bt rfl; have z2 := cell_of_row (i := 2) hSw.bt rfl; have z3 := cell_of_row (i := 3) hSw.bt rfl; have z4 := cell_of_row (i := 4) hSw.bt rfl; go_simp; first | done | with_reducible rfl); (try simp only [Act.put, List.setIfInBounds_toArray, List.set_cons_zero, List.set_cons_succ])
  refine wpAnyH_ready (rs := [6]) (by kernel_rfl) (by simp) ?_
  refine AllReadyH.cons (o := ⟨some 12, _, _, _, _, _⟩) rfl (fun K hK => ?_) AllReadyH.nil
  rw [if_pos (by rfl)]
  go_simp
  refine (CL1.out _).mono ?_
  rintro e hS1xV ⟨rfl, bb⟩
  have hS1x := hS0.on bb
  have hw1x := (bb.block _ (heap_lt hw1)).trans hw1
  have hr1x := (bb.block _ (heap_lt hr1)).trans hr1
  clear bb
  refine hK.out _ _ hS1x (fun hSn => ?_)
  clear hK K; (try simp only [Act.put, List.setIfInBounds_toArray, List.set_cons_zero, List.set_cons_succ])
  refine wpAnyH_ready (rs := [9]) (by kernel_rfl) (by simp) ?_
  refine AllReadyH.cons (o := ⟨some 15, _, _, _, _, _⟩) rfl (fun K hK => ?_) AllReadyH.nil
  rw [if_pos (by rfl)]
  go_simp
  refine (CL2.out _).mono ?_
  rintro e hS2xV ⟨rfl, bb⟩
  have hS2x := hS1x.on bb
  have hw2x := (bb.block _ (heap_lt hw1x)).trans hw1x
  have hr2x := (bb.block _ (heap_lt hr1x)).trans hr1x
  clear bb
  refine hK.out _ _ hS2x (fun hSn => ?_)
  clear hK K; (try simp only [Act.put, List.setIfInBounds_toArray, List.set_cons_zero, List.set_cons_succ])
  refine wpAnyH_take (i := 10) (oi := ⟨some 16, _, _, _, _, _⟩) (v := ?_) rfl (by kernel_rfl) (by kernel_rfl) (by kernel_rfl) (fun _ _ _ h => h) (Or.inl ⟨by kernel_rfl, ?_⟩) (by assumption) ?_; rotate_left; (intro w hSw; (try dsimp only at hSw); go_simp; first | done | with_reducible rfl); (try simp only [Act.put, List.setIfInBounds_toArray, List.set_cons_zero, List.set_cons_succ])
  refine wpAnyH_take (i := 11) (oi := ⟨some 17, _, _, _, _, _⟩) (v := ?_) rfl (by kernel_rfl) (by kernel_rfl) (by kernel_rfl) (fun _ _ _ h => h) (Or.inl ⟨by kernel_rfl, ?_⟩) (by assumption) ?_; rotate_left; (intro w hSw; (try dsimp only at hSw); go_simp; first | done | with_reducible rfl); (try simp only [Act.put, List.setIfInBounds_toArray, List.set_cons_zero, List.set_cons_succ])
  have f0 : hS2xV.frozen? ⟨w.heap.size, 0, none⟩ = false := free_of_row hw2x
  have f1 : hS2xV.frozen? ⟨w.heap.size, 1, none⟩ = false := free_of_row hw2x
  have f2 : hS2xV.frozen? ⟨w.heap.size, 2, none⟩ = false := free_of_row hw2x
  have f3 : hS2xV.frozen? ⟨w.heap.size, 3, none⟩ = false := free_of_row hw2x
  have f4 : hS2xV.frozen? ⟨w.heap.size, 4, none⟩ = false := free_of_row hw2x
  have f5 : hS2xV.frozen? ⟨w.heap.size, 5, none⟩ = false := free_of_row hw2x
  have f6 : hS2xV.frozen? ⟨w.heap.size, 6, none⟩ = false := free_of_row hw2x
  have x0 : hS2xV.cell? ⟨w.heap.size, 0, none⟩ = some (.bool c) := cell_of_row hw2x rfl
  have x1 : hS2xV.cell? ⟨w.heap.size, 1, none⟩ = some (.int .i64 a) := cell_of_row hw2x rfl
  have x2 : hS2xV.cell? ⟨w.heap.size, 2, none⟩ = some (.int .i8 k) := cell_of_row hw2x rfl
  have x3 : hS2xV.cell? ⟨w.heap.size, 3, none⟩ = some (.int .i64 n) := cell_of_row hw2x rfl
  have x4 : hS2xV.cell? ⟨w.heap.size, 4, none⟩ = some (.string s) := cell_of_row hw2x rfl
  have x5 : hS2xV.cell? ⟨w.heap.size, 5, none⟩ = some (.string t) := cell_of_row hw2x rfl
  have x6 : hS2xV.cell? ⟨w.heap.size, 6, none⟩ = some (.slice A len cap) := cell_of_row hw2x rfl
  obtain ⟨s5, m5⟩ := set_word_term (.int .i8 k) (.int .i64 n) (.string s) (.string t) (.slice none 0 0) hw2x
  have hS3 : OwnS w _ #[(.int .i8 k), (.int .i64 n), (.string s), (.string t), (.slice A len cap)] := ⟨hS2x.below.trans (m5.below hS2x.below.size (fun k (e : k = w.heap.size) => by omega)), (m5.block _ (heap_lt hS2x.bt) (by omega)).trans hS2x.bt⟩
  have hr3 := (m5.block _ (heap_lt hr2x) (by omega)).trans hr2x
  have HS5 := Lib.hid s5
  have HR3 := Lib.hid hr3
  have HS3 := Lib.hid hS3
  clear s5 m5 hr3
  refine wpAnyH_ready (rs := [12]) (by kernel_rfl) (by simp) ?_
  refine AllReadyH.cons (o := ⟨none, _, _, _, _, _⟩) rfl (fun K hK => ?_) AllReadyH.nil
  rw [if_pos (by rfl)]
  go_simp
  refine hK.out _ _ hS3 (fun hSn => ?_)
  clear hK K; (try simp only [Act.put, List.setIfInBounds_toArray, List.set_cons_zero, List.set_cons_succ])
  refine wpAnyH_done (by kernel_rfl) ?_ _
  clear f0 f1 f2 f3 f4 f5 f6 x0 x1 x2 x3 x4 x5 x6 hS0 hS1x hS2x hw1 hr1 hw1x hr1x hw2x hr2x
  obtain ⟨V, hV⟩ : ∃ V, V = (((((hS2xV.setCell ⟨w.heap.size, 2, none⟩ (.int .i8 k)).setCell ⟨w.heap.size, 3, none⟩ (.int .i64 n)).setCell ⟨w.heap.size, 4, none⟩ (.string s)).setCell ⟨w.heap.size, 5, none⟩ (.string t)).setCell ⟨w.heap.size, 6, none⟩ (.slice none 0 0)) := ⟨_, rfl⟩
  have hs := HS5.out
  have hr := HR3.out
  have h3 := HS3.out
  rw [← hV] at hs hr h3
  rw [← hV]
  have x0 : V.cell? ⟨w.heap.size, 0, none⟩ = some (.bool c) := cell_of_row hs rfl
  have x1 : V.cell? ⟨w.heap.size, 1, none⟩ = some (.int .i64 a) := cell_of_row hs rfl
  have x2 : V.cell? ⟨w.heap.size, 2, none⟩ = some (.int .i8 k) := cell_of_row hs rfl
  have x3 : V.cell? ⟨w.heap.size, 3, none⟩ = some (.int .i64 n) := cell_of_row hs rfl
  have x4 : V.cell? ⟨w.heap.size, 4, none⟩ = some (.string s) := cell_of_row hs rfl
  have x5 : V.cell? ⟨w.heap.size, 5, none⟩ = some (.string t) := cell_of_row hs rfl
  have x6 : V.cell? ⟨w.heap.size, 6, none⟩ = some (.slice none 0 0) := cell_of_row hs rfl
  have f0 : V.frozen? ⟨(w.heap.size + 1), 0, none⟩ = false := free_of_row hr
  have f1 : V.frozen? ⟨(w.heap.size + 1), 1, none⟩ = false := free_of_row hr
  have f2 : V.frozen? ⟨(w.heap.size + 1), 2, none⟩ = false := free_of_row hr
  have f3 : V.frozen? ⟨(w.heap.size + 1), 3, none⟩ = false := free_of_row hr
  have f4 : V.frozen? ⟨(w.heap.size + 1), 4, none⟩ = false := free_of_row hr
  have f5 : V.frozen? ⟨(w.heap.size + 1), 5, none⟩ = false := free_of_row hr
  have f6 : V.frozen? ⟨(w.heap.size + 1), 6, none⟩ = false := free_of_row hr
  have y0 : V.cell? ⟨(w.heap.size + 1), 0, none⟩ = some (.bool false) := cell_of_row hr rfl
  have y1 : V.cell? ⟨(w.heap.size + 1), 1, none⟩ = some (.int .i64 0) := cell_of_row hr rfl
  have y2 : V.cell? ⟨(w.heap.size + 1), 2, none⟩ = some (.int .i8 0) := cell_of_row hr rfl
  have y3 : V.cell? ⟨(w.heap.size + 1), 3, none⟩ = some (.int .i64 0) := cell_of_row hr rfl
  have y4 : V.cell? ⟨(w.heap.size + 1), 4, none⟩ = some (.string ⟨#[]⟩) := cell_of_row hr rfl
  have y5 : V.cell? ⟨(w.heap.size + 1), 5, none⟩ = some (.string ⟨#[]⟩) := cell_of_row hr rfl
  have y6 : V.cell? ⟨(w.heap.size + 1), 6, none⟩ = some (.slice none 0 0) := cell_of_row hr rfl
  have SV := Lib.hid (set_seven (.bool c) (.int .i64 a) (.int .i8 k) (.int .i64 n) (.string s) (.string t) (.slice none 0 0) hr)
  have H3 := Lib.hid h3
  clear hs hr h3 hV HS5 HR3 HS3
  go_wp2_with fail
  obtain ⟨s7, m7⟩ := SV.out
  generalize (((((((V.setCell ⟨(w.heap.size + 1), 0, none⟩ (.bool c)).setCell ⟨(w.heap.size + 1), 1, none⟩ (.int .i64 a)).setCell ⟨(w.heap.size + 1), 2, none⟩ (.int .i8 k)).setCell ⟨(w.heap.size + 1), 3, none⟩ (.int .i64 n)).setCell ⟨(w.heap.size + 1), 4, none⟩ (.string s)).setCell ⟨(w.heap.size + 1), 5, none⟩ (.string t)).setCell ⟨(w.heap.size + 1), 6, none⟩ (.slice none 0 0)) = VX at s7 m7 ⊢
  have z0 : VX.cell? ⟨(w.heap.size + 1), 0, none⟩ = some (.bool c) := cell_of_row s7 rfl
  have z1 : VX.cell? ⟨(w.heap.size + 1), 1, none⟩ = some (.int .i64 a) := cell_of_row s7 rfl
  have z2 : VX.cell? ⟨(w.heap.size + 1), 2, none⟩ = some (.int .i8 k) := cell_of_row s7 rfl
  have z3 : VX.cell? ⟨(w.heap.size + 1), 3, none⟩ = some (.int .i64 n) := cell_of_row s7 rfl
  have z4 : VX.cell? ⟨(w.heap.size + 1), 4, none⟩ = some (.string s) := cell_of_row s7 rfl
  have z5 : VX.cell? ⟨(w.heap.size + 1), 5, none⟩ = some (.string t) := cell_of_row s7 rfl
  have z6 : VX.cell? ⟨(w.heap.size + 1), 6, none⟩ = some (.slice none 0 0) := cell_of_row s7 rfl
  refine bodyPost_ret (v := .agg #[(.bool c), (.int .i64 a), (.int .i8 k), (.int .i64 n), (.string s), (.string t), (.slice none 0 0)]) (by simp [results, Tryz.f62, go_sem, z0, z1, z2, z3, z4, z5, z6]) rfl ⟨rfl, ?_⟩
  exact H3.out.below.trans (m7.below H3.out.below.size (fun k (e : k = w.heap.size + 1) => by omega))

theorem leaf_case {x : Tm} (h : checkN x ≠ 30) (h5 : x.k ≠ 5) (h7 : x.k ≠ 7) : okB x = true ∧ x.l = [] ∧ x.s.size ≤ 32 ∧ x.t.size ≤ 32 := by
  obtain ⟨k, n, s, t, l⟩ := x
  have hok : okB (.mk k n s t l) = true := by
    unfold checkN at h
    by_cases ha : ((Tm.mk k n s t l).pre.take 257).all okB = true
    · exact List.all_eq_true.1 ha _ (by rw [Tm.pre]; simp)
    · rw [if_neg ha] at h; exact absurd rfl h
  have e0 : (⟨#[]⟩ : ByteArray).size ≤ 32 := by decide
  refine ⟨hok, ?_⟩
  rcases valid_cases hok with hc | hc | hc | hc | hc | hc | hc | hc
  · obtain ⟨_, rfl, rfl, rfl⟩ := hc; exact ⟨rfl, e0, e0⟩
  · obtain ⟨rfl, _, rfl, rfl⟩ := hc
    have hok := (show ok_atom n s ⟨#[]⟩ 0 = true from hok)
    simp [ok_atom] at hok
    exact ⟨rfl, (name_size hok.1).2, e0⟩
  · obtain ⟨_, rfl, rfl, rfl⟩ := hc; exact ⟨rfl, e0, e0⟩
  · obtain ⟨rfl, rfl⟩ := hc
    have hok := (show ok_fun n s t 0 = true from hok)
    simp [ok_fun] at hok
    exact ⟨rfl, (name_size hok.1.1).2, (name_size hok.1.2).2⟩
  · obtain ⟨_, rfl, rfl, rfl⟩ := hc; exact ⟨rfl, e0, e0⟩
  · exact absurd hc.1 h5
  · obtain ⟨_, _, rfl, rfl, rfl⟩ := hc; exact ⟨rfl, e0, e0⟩
  · exact absurd hc.1 h7
end Go.Proofs.YtaemfjmmklpjeaaGreatDoor
set_option linter.unusedVariables false
namespace Go.Proofs.YtaemfjmmklpjeaaGreatDoor
open Go.RowKit

def leafE (x : Tm) : Int := if checkN x = 30 then 30 else if (x.k == 5 || x.k == 7) = true then 2 else 0
def leafV (x : Tm) : Value := .agg #[.bool false, .int .i64 0, .int .i8 x.k, .int .i64 x.n, .string x.s, .string x.t, .slice none 0 0]
def LeafP (x : Tm) (w : World) (e : Ending) (w' : World) : Prop := e = .returned (.tuple #[if leafE x = 0 then leafV x else word0, .int .i64 (leafE x)]) ∧ Below w.heap.size w w'

set_option maxHeartbeats 4000000 in
set_option maxRecDepth 100000 in
theorem Leaf_any (x : Tm) (v : Value) (w : World) (hx : TmAt (· < w.heap.size) w x v) (hS : Spans w) : Calls Tryz.prog 52 #[v] w (LeafP x w) := by
  obtain ⟨k, n, s, t, l⟩ := x
  obtain ⟨A, cap, rfl, -⟩ := hx.parts
  obtain ⟨w1, hw1⟩ : ∃ w1, w1 = (w.alloc (.cells #[(.int .i8 k), (.int .i64 n), (.string s), (.string t), (.slice A l.length cap)] 27)).alloc (.cells #[(.bool false), (.int .i64 0), (.int .i8 0), (.int .i64 0), (.string ⟨#[]⟩), (.string ⟨#[]⟩), (.slice none 0 0)] 51) := ⟨_, rfl⟩
  have B1 : Below w.heap.size w w1 := by rw [hw1]; exact ((Below.refl _ w).alloc (Nat.le_refl _) _).alloc (by simp) _
  have g1 : w1.heap[w.heap.size]? = some (.cells #[(.int .i8 k), (.int .i64 n), (.string s), (.string t), (.slice A l.length cap)] 27 (0, 0)) := by rw [hw1, Below.heap_alloc _ _ _ (by simp)]; exact block_alloc _ _
  have r1 : w1.heap[w.heap.size + 1]? = some (.cells #[(.bool false), (.int .i64 0), (.int .i8 0), (.int .i64 0), (.string ⟨#[]⟩), (.string ⟨#[]⟩), (.slice none 0 0)] 51 (0, 0)) := by
    rw [hw1]
    have := block_alloc (w.alloc (.cells #[(.int .i8 k), (.int .i64 n), (.string s), (.string t), (.slice A l.length cap)] 27)) (.cells #[(.bool false), (.int .i64 0), (.int .i8 0), (.int .i64 0), (.string ⟨#[]⟩), (.string ⟨#[]⟩), (.slice none 0 0)] 51)
    rwa [World.size_alloc] at this
  have HC := Lib.hid (Check_any _ _ w1 (hx.later B1) (hS.below B1 hS.lt))
  have HB1 := Lib.hid B1
  have HG1 := Lib.hid g1
  have HR1 := Lib.hid r1
  have x0 : w1.cell? ⟨w.heap.size, 0, none⟩ = some (.int .i8 k) := cell_of_row g1 rfl
  have x1 : w1.cell? ⟨w.heap.size, 1, none⟩ = some (.int .i64 n) := cell_of_row g1 rfl
  have x2 : w1.cell? ⟨w.heap.size, 2, none⟩ = some (.string s) := cell_of_row g1 rfl
  have x3 : w1.cell? ⟨w.heap.size, 3, none⟩ = some (.string t) := cell_of_row g1 rfl
  have x4 : w1.cell? ⟨w.heap.size, 4, none⟩ = some (.slice A l.length cap) := cell_of_row g1 rfl
  clear hx hS B1 g1 r1
  subst hw1
  go_enter Tryz.func52, Tryz.ntmps52
  go_wp2_with fail
  refine HC.out.mono ?_
  rintro e V1 ⟨rfl, b1⟩
  have g2 := (b1.block _ (heap_lt HG1.out)).trans HG1.out
  have r2 := (b1.block _ (heap_lt HR1.out)).trans HR1.out
  have HB2 := Lib.hid (HB1.out.trans (b1.mono HB1.out.size))
  have HG2 := Lib.hid g2
  have HR2 := Lib.hid r2
  clear b1 x0 x1 x2 x3 x4
  by_cases hc : checkN (.mk k n s t l) = 30
  · have hc1 : (checkN (.mk k n s t l) == 30) = true := by simpa using hc
    have HE := Lib.hid (show leafE (.mk k n s t l) = 30 by unfold leafE; rw [if_pos hc])
    have y0 : V1.cell? ⟨(w.heap.size + 1), 0, none⟩ = some (.bool false) := cell_of_row r2 rfl
    have y1 : V1.cell? ⟨(w.heap.size + 1), 1, none⟩ = some (.int .i64 0) := cell_of_row r2 rfl
    have y2 : V1.cell? ⟨(w.heap.size + 1), 2, none⟩ = some (.int .i8 0) := cell_of_row r2 rfl
    have y3 : V1.cell? ⟨(w.heap.size + 1), 3, none⟩ = some (.int .i64 0) := cell_of_row r2 rfl
    have y4 : V1.cell? ⟨(w.heap.size + 1), 4, none⟩ = some (.string ⟨#[]⟩) := cell_of_row r2 rfl
    have y5 : V1.cell? ⟨(w.heap.size + 1), 5, none⟩ = some (.string ⟨#[]⟩) := cell_of_row r2 rfl
    have y6 : V1.cell? ⟨(w.heap.size + 1), 6, none⟩ = some (.slice none 0 0) := cell_of_row r2 rfl
    have f0 : V1.frozen? ⟨(w.heap.size + 1), 0, none⟩ = false := free_of_row r2
    have f1 : V1.frozen? ⟨(w.heap.size + 1), 1, none⟩ = false := free_of_row r2
    have f2 : V1.frozen? ⟨(w.heap.size + 1), 2, none⟩ = false := free_of_row r2
    have f3 : V1.frozen? ⟨(w.heap.size + 1), 3, none⟩ = false := free_of_row r2
    have f4 : V1.frozen? ⟨(w.heap.size + 1), 4, none⟩ = false := free_of_row r2
    have f5 : V1.frozen? ⟨(w.heap.size + 1), 5, none⟩ = false := free_of_row r2
    have f6 : V1.frozen? ⟨(w.heap.size + 1), 6, none⟩ = false := free_of_row r2
    have SV := Lib.hid (set_seven (.bool false) (.int .i64 0) (.int .i8 0) (.int .i64 0) (.string ⟨#[]⟩) (.string ⟨#[]⟩) (.slice none 0 0) r2)
    clear hc g2 r2
    go_wp2_with fail
    obtain ⟨s7, m7⟩ := SV.out
    generalize (((((((V1.setCell ⟨(w.heap.size + 1), 0, none⟩ (.bool false)).setCell ⟨(w.heap.size + 1), 1, none⟩ (.int .i64 0)).setCell ⟨(w.heap.size + 1), 2, none⟩ (.int .i8 0)).setCell ⟨(w.heap.size + 1), 3, none⟩ (.int .i64 0)).setCell ⟨(w.heap.size + 1), 4, none⟩ (.string ⟨#[]⟩)).setCell ⟨(w.heap.size + 1), 5, none⟩ (.string ⟨#[]⟩)).setCell ⟨(w.heap.size + 1), 6, none⟩ (.slice none 0 0)) = VX at s7 m7 ⊢
    have z0 : VX.cell? ⟨(w.heap.size + 1), 0, none⟩ = some (.bool false) := cell_of_row s7 rfl
    have z1 : VX.cell? ⟨(w.heap.size + 1), 1, none⟩ = some (.int .i64 0) := cell_of_row s7 rfl
    have z2 : VX.cell? ⟨(w.heap.size + 1), 2, none⟩ = some (.int .i8 0) := cell_of_row s7 rfl
    have z3 : VX.cell? ⟨(w.heap.size + 1), 3, none⟩ = some (.int .i64 0) := cell_of_row s7 rfl
    have z4 : VX.cell? ⟨(w.heap.size + 1), 4, none⟩ = some (.string ⟨#[]⟩) := cell_of_row s7 rfl
    have z5 : VX.cell? ⟨(w.heap.size + 1), 5, none⟩ = some (.string ⟨#[]⟩) := cell_of_row s7 rfl
    have z6 : VX.cell? ⟨(w.heap.size + 1), 6, none⟩ = some (.slice none 0 0) := cell_of_row s7 rfl
    refine bodyPost_ret (v := .tuple #[.agg #[(.bool false), (.int .i64 0), (.int .i8 0), (.int .i64 0), (.string ⟨#[]⟩), (.string ⟨#[]⟩), (.slice none 0 0)], (.int .i64 30)]) (by simp [results, Tryz.f52, go_sem, z0, z1, z2, z3, z4, z5, z6]) rfl ?_
    exact ⟨by rw [HE.out]; rfl, HB2.out.trans (m7.below HB2.out.size (fun k (e : k = w.heap.size + 1) => by omega))⟩
  · have hc1 : (checkN (.mk k n s t l) == 30) = false := by simpa using hc
    have HNC := Lib.hid hc
    have x0 : V1.cell? ⟨w.heap.size, 0, none⟩ = some (.int .i8 k) := cell_of_row g2 rfl
    clear hc g2
    go_wp2_with fail
    refine (parted_any k _).mono ?_
    rintro e V2 ⟨rfl, rfl⟩
    clear x0
    cases hp : (k == 5 || k == 7)
    · have hk : k ≠ 5 ∧ k ≠ 7 := by simpa using hp
      have HE := Lib.hid (show leafE (.mk k n s t l) = 0 by unfold leafE; rw [if_neg HNC.out, if_neg (by show ¬ (k == 5 || k == 7) = true; rw [hp]; decide)])
      obtain ⟨-, hl0, hs32, ht32⟩ := leaf_case (x := .mk k n s t l) HNC.out hk.1 hk.2
      have OW := Lib.hid (fun V => own_any false 0 k n s t A l.length cap (Nat.le_trans hs32 (by decide)) (Nat.le_trans ht32 (by decide)) V)
      have g3 := HG2.out
      have x0 : V1.cell? ⟨w.heap.size, 0, none⟩ = some (.int .i8 k) := cell_of_row g3 rfl
      have x1 : V1.cell? ⟨w.heap.size, 1, none⟩ = some (.int .i64 n) := cell_of_row g3 rfl
      have x2 : V1.cell? ⟨w.heap.size, 2, none⟩ = some (.string s) := cell_of_row g3 rfl
      have x3 : V1.cell? ⟨w.heap.size, 3, none⟩ = some (.string t) := cell_of_row g3 rfl
      have x4 : V1.cell? ⟨w.heap.size, 4, none⟩ = some (.slice A l.length cap) := cell_of_row g3 rfl
      clear hk hl0 hs32 ht32 g3 r2
      go_wp2_with fail
      refine (OW.out _).mono ?_
      rintro e V3 ⟨rfl, b3⟩
      have r3 := (b3.block _ (heap_lt HR2.out)).trans HR2.out
      have HB3 := Lib.hid (HB2.out.trans (b3.mono HB2.out.size))
      clear b3 x0 x1 x2 x3 x4
      have y0 : V3.cell? ⟨(w.heap.size + 1), 0, none⟩ = some (.bool false) := cell_of_row r3 rfl
      have y1 : V3.cell? ⟨(w.heap.size + 1), 1, none⟩ = some (.int .i64 0) := cell_of_row r3 rfl
      have y2 : V3.cell? ⟨(w.heap.size + 1), 2, none⟩ = some (.int .i8 0) := cell_of_row r3 rfl
      have y3 : V3.cell? ⟨(w.heap.size + 1), 3, none⟩ = some (.int .i64 0) := cell_of_row r3 rfl
      have y4 : V3.cell? ⟨(w.heap.size + 1), 4, none⟩ = some (.string ⟨#[]⟩) := cell_of_row r3 rfl
      have y5 : V3.cell? ⟨(w.heap.size + 1), 5, none⟩ = some (.string ⟨#[]⟩) := cell_of_row r3 rfl
      have y6 : V3.cell? ⟨(w.heap.size + 1), 6, none⟩ = some (.slice none 0 0) := cell_of_row r3 rfl
      have f0 : V3.frozen? ⟨(w.heap.size + 1), 0, none⟩ = false := free_of_row r3
      have f1 : V3.frozen? ⟨(w.heap.size + 1), 1, none⟩ = false := free_of_row r3
      have f2 : V3.frozen? ⟨(w.heap.size + 1), 2, none⟩ = false := free_of_row r3
      have f3 : V3.frozen? ⟨(w.heap.size + 1), 3, none⟩ = false := free_of_row r3
      have f4 : V3.frozen? ⟨(w.heap.size + 1), 4, none⟩ = false := free_of_row r3
      have f5 : V3.frozen? ⟨(w.heap.size + 1), 5, none⟩ = false := free_of_row r3
      have f6 : V3.frozen? ⟨(w.heap.size + 1), 6, none⟩ = false := free_of_row r3
      have SV := Lib.hid (set_seven (.bool false) (.int .i64 0) (.int .i8 k) (.int .i64 n) (.string s) (.string t) (.slice none 0 0) r3)
      clear r3
      go_wp2_with fail
      obtain ⟨s7, m7⟩ := SV.out
      generalize (((((((V3.setCell ⟨(w.heap.size + 1), 0, none⟩ (.bool false)).setCell ⟨(w.heap.size + 1), 1, none⟩ (.int .i64 0)).setCell ⟨(w.heap.size + 1), 2, none⟩ (.int .i8 k)).setCell ⟨(w.heap.size + 1), 3, none⟩ (.int .i64 n)).setCell ⟨(w.heap.size + 1), 4, none⟩ (.string s)).setCell ⟨(w.heap.size + 1), 5, none⟩ (.string t)).setCell ⟨(w.heap.size + 1), 6, none⟩ (.slice none 0 0)) = VX at s7 m7 ⊢
      have z0 : VX.cell? ⟨(w.heap.size + 1), 0, none⟩ = some (.bool false) := cell_of_row s7 rfl
      have z1 : VX.cell? ⟨(w.heap.size + 1), 1, none⟩ = some (.int .i64 0) := cell_of_row s7 rfl
      have z2 : VX.cell? ⟨(w.heap.size + 1), 2, none⟩ = some (.int .i8 k) := cell_of_row s7 rfl
      have z3 : VX.cell? ⟨(w.heap.size + 1), 3, none⟩ = some (.int .i64 n) := cell_of_row s7 rfl
      have z4 : VX.cell? ⟨(w.heap.size + 1), 4, none⟩ = some (.string s) := cell_of_row s7 rfl
      have z5 : VX.cell? ⟨(w.heap.size + 1), 5, none⟩ = some (.string t) := cell_of_row s7 rfl
      have z6 : VX.cell? ⟨(w.heap.size + 1), 6, none⟩ = some (.slice none 0 0) := cell_of_row s7 rfl
      refine bodyPost_ret (v := .tuple #[.agg #[(.bool false), (.int .i64 0), (.int .i8 k), (.int .i64 n), (.string s), (.string t), (.slice none 0 0)], (.int .i64 0)]) (by simp [results, Tryz.f52, go_sem, z0, z1, z2, z3, z4, z5, z6]) rfl ?_
      exact ⟨by rw [HE.out, if_pos rfl]; rfl, HB3.out.trans (m7.below HB3.out.size (fun k (e : k = w.heap.size + 1) => by omega))⟩
    · have HE := Lib.hid (show leafE (.mk k n s t l) = 2 by unfold leafE; rw [if_neg HNC.out, if_pos (by show (k == 5 || k == 7) = true; exact hp)])
      have y0 : V1.cell? ⟨(w.heap.size + 1), 0, none⟩ = some (.bool false) := cell_of_row r2 rfl
      have y1 : V1.cell? ⟨(w.heap.size + 1), 1, none⟩ = some (.int .i64 0) := cell_of_row r2 rfl
      have y2 : V1.cell? ⟨(w.heap.size + 1), 2, none⟩ = some (.int .i8 0) := cell_of_row r2 rfl
      have y3 : V1.cell? ⟨(w.heap.size + 1), 3, none⟩ = some (.int .i64 0) := cell_of_row r2 rfl
      have y4 : V1.cell? ⟨(w.heap.size + 1), 4, none⟩ = some (.string ⟨#[]⟩) := cell_of_row r2 rfl
      have y5 : V1.cell? ⟨(w.heap.size + 1), 5, none⟩ = some (.string ⟨#[]⟩) := cell_of_row r2 rfl
      have y6 : V1.cell? ⟨(w.heap.size + 1), 6, none⟩ = some (.slice none 0 0) := cell_of_row r2 rfl
      have f0 : V1.frozen? ⟨(w.heap.size + 1), 0, none⟩ = false := free_of_row r2
      have f1 : V1.frozen? ⟨(w.heap.size + 1), 1, none⟩ = false := free_of_row r2
      have f2 : V1.frozen? ⟨(w.heap.size + 1), 2, none⟩ = false := free_of_row r2
      have f3 : V1.frozen? ⟨(w.heap.size + 1), 3, none⟩ = false := free_of_row r2
      have f4 : V1.frozen? ⟨(w.heap.size + 1), 4, none⟩ = false := free_of_row r2
      have f5 : V1.frozen? ⟨(w.heap.size + 1), 5, none⟩ = false := free_of_row r2
      have f6 : V1.frozen? ⟨(w.heap.size + 1), 6, none⟩ = false := free_of_row r2
      have SV := Lib.hid (set_seven (.bool false) (.int .i64 0) (.int .i8 0) (.int .i64 0) (.string ⟨#[]⟩) (.string ⟨#[]⟩) (.slice none 0 0) r2)
      clear r2
      go_wp2_with fail
      obtain ⟨s7, m7⟩ := SV.out
      generalize (((((((V1.setCell ⟨(w.heap.size + 1), 0, none⟩ (.bool false)).setCell ⟨(w.heap.size + 1), 1, none⟩ (.int .i64 0)).setCell ⟨(w.heap.size + 1), 2, none⟩ (.int .i8 0)).setCell ⟨(w.heap.size + 1), 3, none⟩ (.int .i64 0)).setCell ⟨(w.heap.size + 1), 4, none⟩ (.string ⟨#[]⟩)).setCell ⟨(w.heap.size + 1), 5, none⟩ (.string ⟨#[]⟩)).setCell ⟨(w.heap.size + 1), 6, none⟩ (.slice none 0 0)) = VX at s7 m7 ⊢
      have z0 : VX.cell? ⟨(w.heap.size + 1), 0, none⟩ = some (.bool false) := cell_of_row s7 rfl
      have z1 : VX.cell? ⟨(w.heap.size + 1), 1, none⟩ = some (.int .i64 0) := cell_of_row s7 rfl
      have z2 : VX.cell? ⟨(w.heap.size + 1), 2, none⟩ = some (.int .i8 0) := cell_of_row s7 rfl
      have z3 : VX.cell? ⟨(w.heap.size + 1), 3, none⟩ = some (.int .i64 0) := cell_of_row s7 rfl
      have z4 : VX.cell? ⟨(w.heap.size + 1), 4, none⟩ = some (.string ⟨#[]⟩) := cell_of_row s7 rfl
      have z5 : VX.cell? ⟨(w.heap.size + 1), 5, none⟩ = some (.string ⟨#[]⟩) := cell_of_row s7 rfl
      have z6 : VX.cell? ⟨(w.heap.size + 1), 6, none⟩ = some (.slice none 0 0) := cell_of_row s7 rfl
      refine bodyPost_ret (v := .tuple #[.agg #[(.bool false), (.int .i64 0), (.int .i8 0), (.int .i64 0), (.string ⟨#[]⟩), (.string ⟨#[]⟩), (.slice none 0 0)], (.int .i64 2)]) (by simp [results, Tryz.f52, go_sem, z0, z1, z2, z3, z4, z5, z6]) rfl ?_
      exact ⟨by rw [HE.out]; rfl, HB2.out.trans (m7.below HB2.out.size (fun k (e : k = w.heap.size + 1) => by omega))⟩
end Go.Proofs.YtaemfjmmklpjeaaGreatDoor
