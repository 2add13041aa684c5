/- package heap: Take. -/
import Derived.Test.YtphfekcacaaabaaDoorHeapT
import Derived.Deep.RegionHeld
import Derived.OrdersHeld
set_option linter.unusedVariables false
namespace Go.Proofs.YtphfekcacaaabaaDoor
open Go.RowKit

/-- What Take hands back. -/
def TakeP (s : HSt) (q : AW) (w : World) (e : Ending) (w' : World) : Prop :=
  (mayW s.cs.length q.c q.a q.x = false ∧ e = .returned (.tuple #[term0, .int .i64 2]) ∧ Below w.heap.size w w') ∨
  (mayW s.cs.length q.c q.a q.x = true ∧ ∃ v, e = .returned (.tuple #[v, .int .i64 0]) ∧ TmAt (fun b => w.heap.size ≤ b ∧ b < w'.heap.size) w' (wt s.cs s.cs.length q.hw) v ∧ Below w.heap.size w w')

set_option maxHeartbeats 8000000 in
set_option maxRecDepth 100000 in
theorem Take_any {base hb : Nat} {s : HSt} (hg : HGood s.cs) (c : Bool) (a k n : Int) (sx tx : ByteArray) (l : List Tm) (A : Option Addr) (cap : Nat) (w : World) (h : s.At base w hb) (hx : TmAt (· < w.heap.size) w (.mk k n sx tx l) (.agg #[(.int .i8 k), (.int .i64 n), (.string sx), (.string tx), (.slice A l.length cap)])) (hS : Spans w) :
    Calls Tryd.prog 9 #[.pointer (some ⟨hb, 0, none⟩), .agg #[(.bool c), (.int .i64 a), (.int .i8 k), (.int .i64 n), (.string sx), (.string tx), (.slice A l.length cap)]] w (TakeP s ⟨c, a, .mk k n sx tx l⟩ w) := by
  have hmf : ∀ (fn : Fn) (first cap : Array Value) (w : World), (Instr.makeFunc fn first cap).run Tryd.prog w = .ok (.func fn first cap) w := fun _ _ _ _ => rfl
  obtain ⟨wa, hwa⟩ : ∃ wa, wa = w.alloc (.cells #[.pointer (some ⟨hb, 0, none⟩)] 28) := ⟨_, rfl⟩
  obtain ⟨wb, hwb⟩ : ∃ wb, wb = wa.alloc (.cells #[(.bool c), (.int .i64 a), (.int .i8 k), (.int .i64 n), (.string sx), (.string tx), (.slice A l.length cap)] 27) := ⟨_, rfl⟩
  obtain ⟨w1, hw1⟩ : ∃ w1, w1 = wb.alloc (.cells #[(.int .i8 0), (.int .i64 0), (.string ⟨#[]⟩), (.string ⟨#[]⟩), (.slice none 0 0)] 25) := ⟨_, rfl⟩
  have za : wa.heap.size = w.heap.size + 1 := by rw [hwa]; exact World.size_alloc _ _
  have zb : wb.heap.size = w.heap.size + 1 + 1 := by rw [hwb, World.size_alloc, za]
  have B1 : Below w.heap.size w w1 := by rw [hw1, hwb, hwa]; exact (((Below.refl _ w).alloc (Nat.le_refl _) _).alloc (by simp) _).alloc (by simp; omega) _
  have gH : w1.heap[w.heap.size]? = some (.cells #[.pointer (some ⟨hb, 0, none⟩)] 28 (0, 0)) := by
    rw [hw1, Below.heap_alloc _ _ _ (by omega), hwb, Below.heap_alloc _ _ _ (by omega), hwa]; exact block_alloc _ _
  have gW : w1.heap[w.heap.size + 1]? = some (.cells #[(.bool c), (.int .i64 a), (.int .i8 k), (.int .i64 n), (.string sx), (.string tx), (.slice A l.length cap)] 27 (0, 0)) := by
    rw [hw1, Below.heap_alloc _ _ _ (by omega), hwb, ← za]; exact block_alloc _ _
  have gT : w1.heap[w.heap.size + 1 + 1]? = some (.cells #[(.int .i8 0), (.int .i64 0), (.string ⟨#[]⟩), (.string ⟨#[]⟩), (.slice none 0 0)] 25 (0, 0)) := by
    rw [hw1, ← zb]; exact block_alloc _ _
  have HM := Lib.hid (HMay_any c a k n sx tx l A cap w1 (HeapAt.under h B1) (hx.later B1) (hS.below B1 hS.lt))
  have HH := Lib.hid h
  have HB1 := Lib.hid B1
  have HGH := Lib.hid gH
  have HGW := Lib.hid gW
  have HGT := Lib.hid gT
  clear h hx hS B1 gH gW gT za zb
  subst hwb
  subst hwa
  go_enter Tryd.func9, Tryd.ntmps9
  go_wp2_with fail
  rw [← hw1]
  clear hw1
  refine HM.out.mono ?_
  rintro e V1 ⟨rfl, b1⟩
  have HB2 := Lib.hid (HB1.out.trans (b1.mono HB1.out.size))
  have gH := (b1.block _ (heap_lt HGH.out)).trans HGH.out
  have gW := (b1.block _ (heap_lt HGW.out)).trans HGW.out
  have gT := (b1.block _ (heap_lt HGT.out)).trans HGT.out
  have HH2 := Lib.hid (HH.out.under HB2.out)
  clear b1 HGH HGW HGT
  cases hm : mayW s.cs.length c a (.mk k n sx tx l)
  · have HQ := Lib.hid hm
    clear hm
    have y0 : V1.cell? ⟨(w.heap.size + 1 + 1), 0, none⟩ = some (.int .i8 0) := cell_of_row gT rfl
    have y1 : V1.cell? ⟨(w.heap.size + 1 + 1), 1, none⟩ = some (.int .i64 0) := cell_of_row gT rfl
    have y2 : V1.cell? ⟨(w.heap.size + 1 + 1), 2, none⟩ = some (.string ⟨#[]⟩) := cell_of_row gT rfl
    have y3 : V1.cell? ⟨(w.heap.size + 1 + 1), 3, none⟩ = some (.string ⟨#[]⟩) := cell_of_row gT rfl
    have y4 : V1.cell? ⟨(w.heap.size + 1 + 1), 4, none⟩ = some (.slice none 0 0) := cell_of_row gT rfl
    have fz0 : V1.frozen? ⟨(w.heap.size + 1 + 1), 0, none⟩ = false := free_of_row gT
    have fz1 : V1.frozen? ⟨(w.heap.size + 1 + 1), 1, none⟩ = false := free_of_row gT
    have fz2 : V1.frozen? ⟨(w.heap.size + 1 + 1), 2, none⟩ = false := free_of_row gT
    have fz3 : V1.frozen? ⟨(w.heap.size + 1 + 1), 3, none⟩ = false := free_of_row gT
    have fz4 : V1.frozen? ⟨(w.heap.size + 1 + 1), 4, none⟩ = false := free_of_row gT
    have SV := Lib.hid (set_five (.int .i8 0) (.int .i64 0) (.string ⟨#[]⟩) (.string ⟨#[]⟩) (.slice none 0 0) gT)
    clear gH gW gT
    go_wp2_with fail
    obtain ⟨s5, m5⟩ := SV.out
    generalize ((((V1.setCell ⟨w.heap.size + 1 + 1, 0, none⟩ (.int .i8 0)).setCell ⟨w.heap.size + 1 + 1, 1, none⟩ (.int .i64 0)).setCell ⟨w.heap.size + 1 + 1, 2, none⟩ (.string ⟨#[]⟩)).setCell ⟨w.heap.size + 1 + 1, 3, none⟩ (.string ⟨#[]⟩)).setCell ⟨w.heap.size + 1 + 1, 4, none⟩ (.slice none 0 0) = VX at s5 m5 ⊢
    have v0 := cell_of_row (i := 0) s5 rfl
    have v1 := cell_of_row (i := 1) s5 rfl
    have v2 := cell_of_row (i := 2) s5 rfl
    have v3 := cell_of_row (i := 3) s5 rfl
    have v4 := cell_of_row (i := 4) s5 rfl
    refine bodyPost_ret (v := .tuple #[term0, .int .i64 2]) (by simp [results, Tryd.f9, go_sem, term0, v0, v1, v2, v3, v4]) rfl (.inl ⟨HQ.out, rfl, ?_⟩)
    exact HB2.out.trans (m5.below HB2.out.size (fun k (e : k = w.heap.size + 1 + 1) => by omega))
  · have HQ := Lib.hid hm
    clear hm
    have HGH := Lib.hid gH
    have HGW := Lib.hid gW
    have HGT := Lib.hid gT
    obtain ⟨hcells, hs32, ht32, hgood⟩ := own_hw (q := ⟨c, a, .mk k n sx tx l⟩) HQ.out rfl
    have OW := Lib.hid (fun V => own_any c a k n sx tx A l.length cap (Nat.le_trans hs32 (by decide)) (Nat.le_trans ht32 (by decide)) V)
    have HCE := Lib.hid hcells
    have HGO := Lib.hid hgood
    clear gH gW gT hcells hs32 ht32 hgood
    go_wp2_with fail
    clear hmf
    obtain ⟨W2, hW2⟩ : ∃ W2, W2 = V1.alloc (.cells #[(.func (.func 35) #[] #[.pointer (some ⟨w.heap.size, 0, none⟩), .pointer (some ⟨V1.heap.size, 0, none⟩)])] 77) := ⟨_, rfl⟩
    have bW2 : Below V1.heap.size V1 W2 := by rw [hW2]; exact (Below.refl _ _).alloc (Nat.le_refl _) _
    have gF : W2.heap[V1.heap.size]? = some (.cells #[(.func (.func 35) #[] #[.pointer (some ⟨w.heap.size, 0, none⟩), .pointer (some ⟨V1.heap.size, 0, none⟩)])] 77 (0, 0)) := by rw [hW2]; exact block_alloc _ _
    rw [← hW2]
    have BW : Below w.heap.size w W2 := HB2.out.trans (bW2.mono HB2.out.size)
    have hS0 : TkE base hb s w.heap.size V1.heap.size W2.drew ∧ W2.drew.heap[w.heap.size + 1]? = some (.cells #[(.bool c), (.int .i64 a), (.int .i8 k), (.int .i64 n), (.string sx), (.string tx), (.slice A l.length cap)] 27 (0, 0)) := ⟨⟨(HH.out.under BW).under ⟨rfl, rfl, rfl, Nat.le_refl _, fun _ _ => rfl⟩, (bW2.block _ (heap_lt HGH.out)).trans HGH.out, gF⟩, (bW2.block _ (heap_lt HGW.out)).trans HGW.out⟩
    have hT0 : W2.drew.heap[w.heap.size + 1 + 1]? = some (.cells #[(.int .i8 0), (.int .i64 0), (.string ⟨#[]⟩), (.string ⟨#[]⟩), (.slice none 0 0)] 25 (0, 0)) := (bW2.block _ (heap_lt HGT.out)).trans HGT.out
    have hB0 : Below w.heap.size w W2.drew := BW.trans ⟨rfl, rfl, rfl, Nat.le_refl _, fun _ _ => rfl⟩
    have HC : Hid (∀ V, TkE base hb s w.heap.size V1.heap.size V → Calls Tryd.prog 35 #[.agg #[(.bool c), (.int .i64 a), (.int .i8 k), (.int .i64 n), (.string sx), (.string tx), (.slice none 0 0)], .pointer (some ⟨w.heap.size, 0, none⟩), .pointer (some ⟨V1.heap.size, 0, none⟩)] V (NewT (wt s.cs s.cs.length (AW.hw ⟨c, a, .mk k n sx tx l⟩)) V)) := by
      intro V hV
      have h := take1_any hg s.cs.length _ HGO.out (Nat.le_refl _) V hV
      rw [HCE.out] at h
      exact h
    clear bW2 gF BW hW2
    refine wp_region_held (S := fun V => TkE base hb s w.heap.size V1.heap.size V ∧ V.heap[w.heap.size + 1]? = some (.cells #[(.bool c), (.int .i64 a), (.int .i8 k), (.int .i64 n), (.string sx), (.string tx), (.slice A l.length cap)] 27 (0, 0))) (by kernel_rfl) ?_
    show wpAnyH _ _ _ _ _ _ _ _ W2.drew
    generalize W2.drew = D at hS0 hT0 hB0 ⊢
    refine wpAnyH_take (i := 0) (oi := ⟨some 16, _, _, _, _, _⟩) (v := ?_) rfl (by kernel_rfl) (by kernel_rfl) (by kernel_rfl) (fun _ _ _ h => h) (Or.inl ⟨by kernel_rfl, ?_⟩) (by assumption) ?_; rotate_left; (intro w hSw; (try dsimp only at hSw); have q0 := cell_of_row (i := 0) hSw.1.fbox rfl; have z0 := cell_of_row (i := 0) hSw.2 rfl; have z1 := cell_of_row (i := 1) hSw.2 rfl; have z2 := cell_of_row (i := 2) hSw.2 rfl; have z3 := cell_of_row (i := 3) hSw.2 rfl; have z4 := cell_of_row (i := 4) hSw.2 rfl; have z5 := cell_of_row (i := 5) hSw.2 rfl; have z6 := cell_of_row (i := 6) hSw.2 rfl; go_simp; first | done | with_reducible rfl); (try simp only [Act.put, List.setIfInBounds_toArray, List.set_cons_zero, List.set_cons_succ])
    refine wpAnyH_take (i := 1) (oi := ⟨some 17, _, _, _, _, _⟩) (v := ?_) rfl (by kernel_rfl) (by kernel_rfl) (by kernel_rfl) (fun _ _ _ h => h) (Or.inl ⟨by kernel_rfl, ?_⟩) (by assumption) ?_; rotate_left; (intro w hSw; (try dsimp only at hSw); have q0 := cell_of_row (i := 0) hSw.1.fbox rfl; have z0 := cell_of_row (i := 0) hSw.2 rfl; have z1 := cell_of_row (i := 1) hSw.2 rfl; have z2 := cell_of_row (i := 2) hSw.2 rfl; have z3 := cell_of_row (i := 3) hSw.2 rfl; have z4 := cell_of_row (i := 4) hSw.2 rfl; have z5 := cell_of_row (i := 5) hSw.2 rfl; have z6 := cell_of_row (i := 6) hSw.2 rfl; go_simp; first | done | with_reducible rfl); (try simp only [Act.put, List.setIfInBounds_toArray, List.set_cons_zero, List.set_cons_succ])
    refine wpAnyH_ready (rs := [2]) (by kernel_rfl) (by simp) ?_
    refine AllReadyH.cons (o := ⟨some 18, _, _, _, _, _⟩) rfl (fun K hK => ?_) AllReadyH.nil
    rw [if_pos (by rfl)]
    go_simp
    refine (OW.out _).mono ?_
    rintro e V3 ⟨rfl, b3⟩
    have hS1 := And.intro (hS0.1.under b3) ((b3.block _ (heap_lt hS0.2)).trans hS0.2)
    have hT1 := (b3.block _ (heap_lt hT0)).trans hT0
    have hB1 := hB0.trans (b3.mono hB0.size)
    clear b3
    refine hK.out _ _ hS1 (fun hSn => ?_)
    clear hK K; (try simp only [Act.put, List.setIfInBounds_toArray, List.set_cons_zero, List.set_cons_succ])
    refine wpAnyH_ready (rs := [3]) (by kernel_rfl) (by simp) ?_
    refine AllReadyH.cons (o := ⟨some 19, _, _, _, _, _⟩) rfl (fun K hK => ?_) AllReadyH.nil
    rw [if_pos (by rfl)]
    go_simp
    refine (HC.out _ hS1.1).mono ?_
    rintro e V4 ⟨tv, rfl, hTm, b4⟩
    generalize hq : wt s.cs s.cs.length (AW.hw ⟨c, a, .mk k n sx tx l⟩) = Q at hTm
    obtain ⟨k', n', s', t', L', A', cap', hy', rfl⟩ : ∃ k' n' s' t' L' A' cap', Q = Tm.mk k' n' s' t' L' ∧ tv = .agg #[.int .i8 k', .int .i64 n', .string s', .string t', .slice A' L'.length cap'] := by
      cases hTm; exact ⟨_, _, _, _, _, _, _, rfl, rfl⟩
    have hS2 := And.intro (hS1.1.under b4) ((b4.block _ (heap_lt hS1.2)).trans hS1.2)
    have hT2 := (b4.block _ (heap_lt hT1)).trans hT1
    have hB2 := hB1.trans (b4.mono hB1.size)
    have HTM := Lib.hid hTm
    have HQE := Lib.hid hq
    have HSZ : Hid (w.heap.size + 1 + 1 < V3.heap.size) := heap_lt hT1
    clear b4 hy' hTm hq
    refine hK.out _ _ hS2 (fun hSn => ?_)
    clear hK K; (try simp only [Act.put, List.setIfInBounds_toArray, List.set_cons_zero, List.set_cons_succ])
    have y0 : V4.cell? ⟨(w.heap.size + 1 + 1), 0, none⟩ = some (.int .i8 0) := cell_of_row hT2 rfl
    have y1 : V4.cell? ⟨(w.heap.size + 1 + 1), 1, none⟩ = some (.int .i64 0) := cell_of_row hT2 rfl
    have y2 : V4.cell? ⟨(w.heap.size + 1 + 1), 2, none⟩ = some (.string ⟨#[]⟩) := cell_of_row hT2 rfl
    have y3 : V4.cell? ⟨(w.heap.size + 1 + 1), 3, none⟩ = some (.string ⟨#[]⟩) := cell_of_row hT2 rfl
    have y4 : V4.cell? ⟨(w.heap.size + 1 + 1), 4, none⟩ = some (.slice none 0 0) := cell_of_row hT2 rfl
    have fz0 : V4.frozen? ⟨(w.heap.size + 1 + 1), 0, none⟩ = false := free_of_row hT2
    have fz1 : V4.frozen? ⟨(w.heap.size + 1 + 1), 1, none⟩ = false := free_of_row hT2
    have fz2 : V4.frozen? ⟨(w.heap.size + 1 + 1), 2, none⟩ = false := free_of_row hT2
    have fz3 : V4.frozen? ⟨(w.heap.size + 1 + 1), 3, none⟩ = false := free_of_row hT2
    have fz4 : V4.frozen? ⟨(w.heap.size + 1 + 1), 4, none⟩ = false := free_of_row hT2
    have SV := Lib.hid (set_five (.int .i8 k') (.int .i64 n') (.string s') (.string t') (.slice A' L'.length cap') hT2)
    refine wpAnyH_ready (rs := [4]) (by kernel_rfl) (by simp) ?_
    refine AllReadyH.cons (o := ⟨none, _, _, _, _, _⟩) rfl (fun K hK => ?_) AllReadyH.nil
    rw [if_pos (by rfl)]
    go_simp
    obtain ⟨s5, m5⟩ := SV.out
    generalize ((((V4.setCell ⟨w.heap.size + 1 + 1, 0, none⟩ (.int .i8 k')).setCell ⟨w.heap.size + 1 + 1, 1, none⟩ (.int .i64 n')).setCell ⟨w.heap.size + 1 + 1, 2, none⟩ (.string s')).setCell ⟨w.heap.size + 1 + 1, 3, none⟩ (.string t')).setCell ⟨w.heap.size + 1 + 1, 4, none⟩ (.slice A' L'.length cap') = VX at s5 m5 ⊢
    have bX : Below (w.heap.size + 1 + 1) V4 VX := m5.below (Nat.le_of_lt (heap_lt hT2)) (fun k (e : k = w.heap.size + 1 + 1) => by omega)
    have hBX : Below w.heap.size w VX := hB2.trans (m5.below hB2.size (fun k (e : k = w.heap.size + 1 + 1) => by omega))
    have hFl := heap_lt hS0.1.fbox
    have hne : V1.heap.size ≠ w.heap.size + 1 + 1 := fun e => by
      have h1 := hS2.1.fbox
      rw [e, hT2] at h1
      simp at h1
    have hS3 : TkE base hb s w.heap.size V1.heap.size VX ∧ VX.heap[w.heap.size + 1]? = some (.cells #[(.bool c), (.int .i64 a), (.int .i8 k), (.int .i64 n), (.string sx), (.string tx), (.slice A l.length cap)] 27 (0, 0)) := ⟨⟨HH.out.under hBX, (bX.block _ (by omega)).trans hS2.1.hbox, (m5.block _ (heap_lt hS2.1.fbox) hne).trans hS2.1.fbox⟩, (bX.block _ (by omega)).trans hS2.2⟩
    refine hK.out _ _ hS3 (fun hSn => ?_)
    clear hK K; (try simp only [Act.put, List.setIfInBounds_toArray, List.set_cons_zero, List.set_cons_succ])
    refine wpAnyH_take (i := 5) (oi := ⟨some 5, _, _, _, _, _⟩) (v := ?_) rfl (by kernel_rfl) (by kernel_rfl) (by kernel_rfl) (fun _ _ _ h => h) (Or.inl ⟨by kernel_rfl, ?_⟩) (by assumption) ?_; rotate_left; (intro w hSw; (try dsimp only at hSw); go_simp; first | done | with_reducible rfl); (try simp only [Act.put, List.setIfInBounds_toArray, List.set_cons_zero, List.set_cons_succ])
    refine wpAnyH_done (by kernel_rfl) ?_ _
    have HBX := Lib.hid hBX
    have HM5 := Lib.hid m5
    have v0 := cell_of_row (i := 0) s5 rfl
    have v1 := cell_of_row (i := 1) s5 rfl
    have v2 := cell_of_row (i := 2) s5 rfl
    have v3 := cell_of_row (i := 3) s5 rfl
    have v4 := cell_of_row (i := 4) s5 rfl
    clear hS0 hS1 hS2 hS3 hT0 hT1 hT2 hB0 hB1 hB2 bX hBX hFl hne s5 m5 y0 y1 y2 y3 y4 fz0 fz1 fz2 fz3 fz4 SV
    go_wp2_with fail
    refine bodyPost_ret (v := .tuple #[.agg #[(.int .i8 k'), (.int .i64 n'), (.string s'), (.string t'), (.slice A' L'.length cap')], .int .i64 0]) (by simp [results, Tryd.f9, go_sem, v0, v1, v2, v3, v4]) rfl (.inr ⟨HQ.out, _, rfl, ?_, HBX.out⟩)
    show TmAt _ _ (wt s.cs s.cs.length (AW.hw ⟨c, a, .mk k n sx tx l⟩)) _
    rw [HQE.out]
    exact HTM.out.keep (fun b hb => HM5.out.block b hb.2 (fun (e : b = w.heap.size + 1 + 1) => by have := HSZ.out; have := hb.1; omega)) (fun b hb => ⟨by have := HSZ.out; have := hb.1; omega, by have := HM5.out.size; have := hb.2; omega⟩)
end Go.Proofs.YtphfekcacaaabaaDoor
