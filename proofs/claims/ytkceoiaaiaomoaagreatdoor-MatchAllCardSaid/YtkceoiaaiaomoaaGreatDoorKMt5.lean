/- Layer 10: newMatcher, slices.Clone at binds, All, Match. -/
import Derived.Test.YtkceoiaaiaomoaaGreatDoorKMt4
import Derived.Deep.MidRow
set_option linter.unusedVariables false
set_option linter.unusedSimpArgs false
namespace Go.Proofs.YtkceoiaaiaomoaaGreatDoor
open Go.RowKit

def setF10 (c : Array Value) : Nat → List Value → Array Value
  | _, [] => c
  | o, v :: r => setF10 (c.setIfInBounds o v) (o + 1) r
theorem setCells_heap10 {b : Nat} {T : TypeId} {fz : Nat × Nat} : ∀ (L : List Value) (o : Nat) (c : Array Value) (w : World), w.heap[b]? = some (.cells c T fz) → (w.setCells b o L).heap[b]? = some (.cells (setF10 c o L) T fz)
  | [], _, _, _, h => h
  | v :: r, o, c, w, h => setCells_heap10 r (o + 1) _ _ (set_row v h)
theorem setCells_mod10 {b : Nat} : ∀ (L : List Value) (o : Nat) (w : World), Mod (fun k => k = b) w (w.setCells b o L)
  | [], _, w => Mod.of_below (Below.refl _ _)
  | v :: r, o, w => by
    have m : Mod (fun k => k = b) w (w.setCell ⟨b, o, none⟩ v) := Mod.setCell _ _ _ (.inl rfl)
    exact m.trans (setCells_mod10 r (o + 1) _) (fun _ _ e => e)
def kRow (X M : Nat) : Array Value := #[.nilFunc, .nilFunc, .nilFunc, .nilFunc, .nilFunc, .func (.func 135) #[.pointer (some ⟨X, 0, none⟩)] #[], .func (.func 136) #[] #[], .func (.func 137) #[] #[], .func (.func 138) #[] #[], .func (.func 139) #[] #[.pointer (some ⟨M, 0, none⟩)], .func (.func 140) #[] #[.pointer (some ⟨M, 0, none⟩)]]
theorem kRow_set (v : Value) (mb X M : Nat) : setF10 #[v, .map (some mb), .nilFunc, .nilFunc, .nilFunc, .nilFunc, .nilFunc, .nilFunc, .nilFunc, .nilFunc, .nilFunc, .nilFunc, .nilFunc] 2 (kRow X M).toList = mRow v mb X M := by kernel_rfl
theorem kRow_one (X M : Nat) : (kRow X M).all (·.oneCell') = true := by kernel_rfl
theorem kRow_info : (Tryz.prog.info? 116).map (·.size) = some 11 := by kernel_rfl
theorem kRow_size (X M : Nat) : (kRow X M).size = 11 := rfl
theorem MapB.back {n0 : Nat} {W V : World} {es : Array MapEntry} {l : List Bd} (h : MapB n0 V es l) (b : Below n0 W V) : MapB n0 W es l := by
  obtain ⟨f, hT, hF⟩ := h
  refine ⟨f, hT, fun s => ⟨fun y hy => ?_, (hF s).2⟩⟩
  obtain ⟨k, n, ts, tt, A, m, c, h1, h2⟩ := (hF s).1 y hy
  exact ⟨k, n, ts, tt, A, m, c, h1, h2.keep (fun q hq => (b.block q hq).symm) (fun _ h => h)⟩
set_option maxHeartbeats 8000000 in
set_option maxRecDepth 100000 in
theorem newM_any (l : List Bd) (A : Option Addr) (pn cap : Nat) (W : World) (hR : BRow (· < W.heap.size) W A pn cap l) (hS : Spans W) (hok : ∀ b ∈ l, checkN b.2 = 0) :
    Calls Tryz.prog 81 #[.slice A pn cap] W fun e w' => ∃ X M mb, e = .returned (.pointer (some ⟨X, 0, none⟩)) ∧ MAt W.heap.size W X M mb l w' := by
  obtain rfl := hR.len
  have hmax := hR.max
  unfold maxLen at hmax
  have hcap := hR.cap
  have HR := Lib.hid hR
  have HSP := Lib.hid hS
  have HOK := Lib.hid hok
  clear hR hS hok
  have i1 : (l.length : Int) ≤ (cap : Int) := by omega
  have i2 : (0 : Int) ≤ (l.length : Int) := by omega
  go_enter Tryz.func81, Tryz.ntmps81
  go_upto_region 1 with fail
  refine wp_region_held (S := fun V => Below W.heap.size W V) (by kernel_rfl) ?_
  show wpAnyH _ _ _ _ _ _ _ _ W.drew
  have hS : Below W.heap.size W W.drew := ⟨rfl, rfl, rfl, Nat.le_refl _, fun _ _ => rfl⟩
  generalize W.drew = V0 at hS ⊢
  refine wpAnyH_take (i := 0) (oi := ⟨some 4, _, _, _, _, _⟩) (v := ?_) rfl (by kernel_rfl) (by kernel_rfl) (by kernel_rfl) (fun _ _ _ h => h) (Or.inl ⟨by kernel_rfl, ?_⟩) (by assumption) ?_; rotate_left; (intro VV hSw; (try dsimp only at hSw); go_simp; first | done | with_reducible rfl); (try simp only [Act.put, sI, sZ, sS])
  refine wpAnyH_take (i := 1) (oi := ⟨some 5, _, _, _, _, _⟩) (v := ?_) rfl (by kernel_rfl) (by kernel_rfl) (by kernel_rfl) (fun _ _ _ h => h) (Or.inl ⟨by kernel_rfl, ?_⟩) (by assumption) ?_; rotate_left; (intro VV hSw; (try dsimp only at hSw); go_simp; first | done | with_reducible rfl); (try simp only [Act.put, sI, sZ, sS])
  refine wpAnyH_take (i := 2) (oi := ⟨some 6, _, _, _, _, _⟩) (v := ?_) rfl (by kernel_rfl) (by kernel_rfl) (by kernel_rfl) (fun _ _ _ h => h) (Or.inl ⟨by kernel_rfl, ?_⟩) (by assumption) ?_; rotate_left; (intro VV hSw; (try dsimp only at hSw); go_simp; first | done | with_reducible rfl); (try simp only [Act.put, sI, sZ, sS])
  refine wpAnyH_take (i := 3) (oi := ⟨some 7, _, _, _, _, _⟩) (v := ?_) rfl (by kernel_rfl) (by kernel_rfl) (by kernel_rfl) (fun _ _ _ h => h) (Or.inl ⟨by kernel_rfl, ?_⟩) (by assumption) ?_; rotate_left; (intro VV hSw; (try dsimp only at hSw); go_simp; first | done | with_reducible rfl); (try simp only [Act.put, sI, sZ, sS])
  refine wpAnyH_take (i := 4) (oi := ⟨some 8, _, _, _, _, _⟩) (v := ?_) rfl (by kernel_rfl) (by kernel_rfl) (by kernel_rfl) (fun _ _ _ h => h) (Or.inl ⟨by kernel_rfl, ?_⟩) (by assumption) ?_; rotate_left; (intro VV hSw; (try dsimp only at hSw); go_simp; first | done | with_reducible rfl); (try simp only [Act.put, sI, sZ, sS])
  refine wpAnyH_take (i := 5) (oi := ⟨some 9, _, _, _, _, _⟩) (v := ?_) rfl (by kernel_rfl) (by kernel_rfl) (by kernel_rfl) (fun _ _ _ h => h) (Or.inl ⟨by kernel_rfl, ?_⟩) (by assumption) ?_; rotate_left; (intro VV hSw; (try dsimp only at hSw); go_simp; first | done | with_reducible rfl); (try simp only [Act.put, sI, sZ, sS])
  refine wpAnyH_take (i := 6) (oi := ⟨some 10, _, _, _, _, _⟩) (v := ?_) rfl (by kernel_rfl) (by kernel_rfl) (by kernel_rfl) (fun _ _ _ h => h) (Or.inl ⟨by kernel_rfl, ?_⟩) (by assumption) ?_; rotate_left; (intro VV hSw; (try dsimp only at hSw); go_simp; first | done | with_reducible rfl); (try simp only [Act.put, sI, sZ, sS])
  refine wpAnyH_ready (rs := [7, 10]) (by kernel_rfl) (by simp) ?_
  refine AllReadyH.cons (o := ⟨some 11, _, _, _, _, _⟩) rfl (fun K hK => ?_) (AllReadyH.cons (o := ⟨some 3, _, _, _, _, _⟩) rfl (fun K hK => ?_) AllReadyH.nil)
  · rw [if_pos (by rfl)]
    go_simp
    refine (firsts10_any W.heap.size l A l.length cap V0 (HR.out.keep (fun b (hb : b < W.heap.size) => hS.block b hb) (fun _ h => h)) hS.size).mono ?_
    rintro e U1 ⟨rfl, bb, es, mc, hm, hMB0⟩
    have hMB := hMB0.back hS
    have hmge : W.heap.size ≤ V0.heap.size := hS.size
    obtain ⟨mb, hmb⟩ : ∃ mb, mb = V0.heap.size := ⟨_, rfl⟩
    rw [← hmb] at hm hmge
    have hS1 := hS.trans (bb.mono hS.size)
    refine hK.out _ _ hS1 (fun hSn => ?_)
    clear hK K hSn; (try simp only [Act.put, sI, sZ, sS])
    rw [← hmb]
    clear hmb hS hMB0 bb
    have hS := hS1
    clear hS1
    refine wpAnyH_take (i := 8) (oi := ⟨some 12, _, _, _, _, _⟩) (v := ?_) rfl (by kernel_rfl) (by kernel_rfl) (by kernel_rfl) (fun _ _ _ h => h) (Or.inl ⟨by kernel_rfl, ?_⟩) (by assumption) ?_; rotate_left; (intro VV hSw; (try dsimp only at hSw); go_simp; first | done | with_reducible rfl); (try simp only [Act.put, sI, sZ, sS])
    refine wpAnyH_ready (rs := [9, 10]) (by kernel_rfl) (by simp) ?_
    refine AllReadyH.cons (o := ⟨some 13, _, _, _, _, _⟩) rfl (fun K hK => ?_) (AllReadyH.cons (o := ⟨some 3, _, _, _, _, _⟩) rfl (fun K hK => ?_) AllReadyH.nil)
    · rw [if_pos (by rfl)]
      go_simp
      have hx := block_alloc U1 (.cells #[.slice A l.length l.length, .map (some mb), .nilFunc, .nilFunc, .nilFunc, .nilFunc, .nilFunc, .nilFunc, .nilFunc, .nilFunc, .nilFunc, .nilFunc, .nilFunc] 118)
      have bb : Below U1.heap.size U1 (U1.alloc (.cells #[.slice A l.length l.length, .map (some mb), .nilFunc, .nilFunc, .nilFunc, .nilFunc, .nilFunc, .nilFunc, .nilFunc, .nilFunc, .nilFunc, .nilFunc, .nilFunc] 118)) := (Below.refl _ _).alloc (Nat.le_refl _) _
      have hXge : W.heap.size ≤ U1.heap.size := hS.size
      obtain ⟨X, hX⟩ : ∃ q, q = U1.heap.size := ⟨_, rfl⟩
      rw [← hX] at hx hXge
      have hmn := (bb.block _ (heap_lt hm)).trans hm
      clear hm
      have hm := hmn
      clear hmn
      have hS1 := hS.trans (bb.mono hS.size)
      refine hK.out _ _ hS1 (fun hSn => ?_)
      clear hK K hSn; (try simp only [Act.put, sI, sZ, sS])
      rw [← hX]
      generalize U1.alloc (.cells #[.slice A l.length l.length, .map (some mb), .nilFunc, .nilFunc, .nilFunc, .nilFunc, .nilFunc, .nilFunc, .nilFunc, .nilFunc, .nilFunc, .nilFunc, .nilFunc] 118) = U2 at hm hx hS1 ⊢
      clear hX hS bb
      have hS := hS1
      clear hS1
      refine wpAnyH_ready (rs := [10]) (by kernel_rfl) (by simp) ?_
      refine AllReadyH.cons (o := ⟨some 3, _, _, _, _, _⟩) rfl (fun K hK => ?_) AllReadyH.nil
      · rw [if_pos (by rfl)]
        go_simp
        have hp := block_alloc U2 (.cells #[.pointer none] 110)
        have bb : Below U2.heap.size U2 (U2.alloc (.cells #[.pointer none] 110)) := (Below.refl _ _).alloc (Nat.le_refl _) _
        have hMge : W.heap.size ≤ U2.heap.size := hS.size
        obtain ⟨M, hM⟩ : ∃ q, q = U2.heap.size := ⟨_, rfl⟩
        rw [← hM] at hp hMge
        have hmn := (bb.block _ (heap_lt hm)).trans hm
        clear hm
        have hm := hmn
        clear hmn
        have hxn := (bb.block _ (heap_lt hx)).trans hx
        clear hx
        have hx := hxn
        clear hxn
        have hS1 := hS.trans (bb.mono hS.size)
        refine hK.out _ _ hS1 (fun hSn => ?_)
        clear hK K hSn; (try simp only [Act.put, sI, sZ, sS])
        rw [← hM]
        generalize U2.alloc (.cells #[.pointer none] 110) = U3 at hm hx hp hS1 ⊢
        clear hM hS bb
        have hS := hS1
        clear hS1
        refine wpAnyH_ready (rs := [11]) (by kernel_rfl) (by simp) ?_
        refine AllReadyH.cons (o := ⟨none, _, _, _, _, _⟩) rfl (fun K hK => ?_) AllReadyH.nil
        · rw [if_pos (by rfl)]
          have y0 : U3.cell? ⟨M, 0, none⟩ = some (.pointer none) := cell_of_row (i := 0) hp rfl
          have yf : U3.frozen? ⟨M, 0, none⟩ = false := free_of_row (i := 0) hp
          go_simp
          have m5 : Mod (fun q => q = M) U3 (U3.setCell ⟨M, 0, none⟩ (.pointer (some ⟨X, 0, none⟩))) := Mod.setCell _ _ _ (.inl rfl)
          have hp9 := set_row (.pointer (some ⟨X, 0, none⟩)) (i := 0) hp
          have hx9 := (m5.block _ (heap_lt hx) (fun e => by
            rw [e, hp] at hx
            injection hx with hx
            injection hx with _ hx _
            exact absurd hx (by decide))).trans hx
          have hm9 := (m5.block _ (heap_lt hm) (fun e => by rw [e, hp] at hm; cases hm)).trans hm
          have hS1 : Below W.heap.size W (U3.setCell ⟨M, 0, none⟩ (.pointer (some ⟨X, 0, none⟩))) := hS.trans (m5.below hS.size (fun q (e : q = M) => by omega))
          refine hK.out _ _ hS1 (fun hSn => ?_)
          clear hK K hSn y0 yf; (try simp only [Act.put, sI, sZ, sS])
          generalize U3.setCell ⟨M, 0, none⟩ (.pointer (some ⟨X, 0, none⟩)) = V9 at hp9 hx9 hm9 hS1 ⊢
          refine wpAnyH_done (by kernel_rfl) ?_ _
          have HP := Lib.hid hp9
          have HX := Lib.hid hx9
          have HM := Lib.hid hm9
          have HMB := Lib.hid hMB
          have HB := Lib.hid hS1
          have HGE : Hid (W.heap.size ≤ X ∧ W.heap.size ≤ M ∧ W.heap.size ≤ mb) := ⟨hXge, hMge, hmge⟩
          have hth : V9.there X 2 (kRow X M).size := fun j hj => by
            rw [kRow_size] at hj
            have hlt : 2 + j < ((#[.slice A l.length l.length, .map (some mb), .nilFunc, .nilFunc, .nilFunc, .nilFunc, .nilFunc, .nilFunc, .nilFunc, .nilFunc, .nilFunc, .nilFunc, .nilFunc] : Array Value)).size := by show 2 + j < 13; omega
            exact ⟨by rw [cell_of_row hx9 (Array.getElem?_eq_getElem hlt)]; rfl, free_of_row hx9⟩
          have HTH := Lib.hid hth
          have cP : V9.cell? ⟨M, 0, none⟩ = some (.pointer (some ⟨X, 0, none⟩)) := cell_of_row (i := 0) hp9 rfl
          obtain ⟨V8, hV8⟩ : ∃ V8, V8 = V9.setCells X 2 (kRow X M).toList := ⟨_, rfl⟩
          have m8 : Mod (fun k => k = X) V9 V8 := by rw [hV8]; exact setCells_mod10 _ _ _
          have HFIN : Hid (MAt W.heap.size W X M mb l V8) := by
            have hp8 := (m8.block _ (heap_lt hp9) (fun e => by
              rw [e, hx9] at hp9
              injection hp9 with hp9
              injection hp9 with _ hp9 _
              exact absurd hp9 (by decide))).trans hp9
            have hm8 := (m8.block _ (heap_lt hm9) (fun e => by rw [e, hx9] at hm9; cases hm9)).trans hm9
            have hx8 : V8.heap[X]? = some (.cells (mRow (.slice A l.length l.length) mb X M) 118 (0, 0)) := by rw [hV8, setCells_heap10 _ _ _ _ hx9, kRow_set]
            have b8 : Below W.heap.size W V8 := hS1.trans (m8.below hS1.size (fun q (e : q = X) => by omega))
            have hr8 := HR.out.keep (Q := (· < W.heap.size)) (w' := V8) (fun b (hb : b < W.heap.size) => b8.block b hb) (fun _ h => h)
            exact ⟨b8, Nat.le_refl _, HGE.out, ⟨_, hx8, .inl ⟨A, rfl, ⟨hr8.len, hr8.max, Nat.le_refl _, hr8.at_⟩⟩⟩, hp8, ⟨_, _, hm8, hMB⟩, HOK.out, ⟨HSP.out, HSP.out.lt⟩⟩
          have HPT : Hid (V8.cell? ⟨M, 0, none⟩ = some (.pointer (some ⟨X, 0, none⟩))) := cell_of_row (i := 0) HFIN.out.ptr rfl
          have HV8 := Lib.hid hV8
          clear hp9 hx9 hm9 hMB hS1 hXge hMge hmge hth m8 hV8 hS hp hx hm
          go_upto_region 3 with (refine wpList_store_mid rfl 116 _ _ rfl X 2 (kRow X M) rfl rfl HTH.out (kRow_info.trans (by rw [kRow_size])) (kRow_one X M) ?_)
          rw [← HV8.out]
          clear cP HTH HV8
          have cP := HPT.out
          go_wp2_with fail
          go_ret
          exact ⟨X, M, mb, rfl, HFIN.out⟩
    · rw [if_pos (by rfl)]
      go_simp
      have hp := block_alloc U1 (.cells #[.pointer none] 110)
      have bb : Below U1.heap.size U1 (U1.alloc (.cells #[.pointer none] 110)) := (Below.refl _ _).alloc (Nat.le_refl _) _
      have hMge : W.heap.size ≤ U1.heap.size := hS.size
      obtain ⟨M, hM⟩ : ∃ q, q = U1.heap.size := ⟨_, rfl⟩
      rw [← hM] at hp hMge
      have hmn := (bb.block _ (heap_lt hm)).trans hm
      clear hm
      have hm := hmn
      clear hmn
      have hS1 := hS.trans (bb.mono hS.size)
      refine hK.out _ _ hS1 (fun hSn => ?_)
      clear hK K hSn; (try simp only [Act.put, sI, sZ, sS])
      rw [← hM]
      generalize U1.alloc (.cells #[.pointer none] 110) = U4 at hm hp hS1 ⊢
      clear hM hS bb
      have hS := hS1
      clear hS1
      refine wpAnyH_ready (rs := [9]) (by kernel_rfl) (by simp) ?_
      refine AllReadyH.cons (o := ⟨some 13, _, _, _, _, _⟩) rfl (fun K hK => ?_) AllReadyH.nil
      · rw [if_pos (by rfl)]
        go_simp
        have hx := block_alloc U4 (.cells #[.slice A l.length l.length, .map (some mb), .nilFunc, .nilFunc, .nilFunc, .nilFunc, .nilFunc, .nilFunc, .nilFunc, .nilFunc, .nilFunc, .nilFunc, .nilFunc] 118)
        have bb : Below U4.heap.size U4 (U4.alloc (.cells #[.slice A l.length l.length, .map (some mb), .nilFunc, .nilFunc, .nilFunc, .nilFunc, .nilFunc, .nilFunc, .nilFunc, .nilFunc, .nilFunc, .nilFunc, .nilFunc] 118)) := (Below.refl _ _).alloc (Nat.le_refl _) _
        have hXge : W.heap.size ≤ U4.heap.size := hS.size
        obtain ⟨X, hX⟩ : ∃ q, q = U4.heap.size := ⟨_, rfl⟩
        rw [← hX] at hx hXge
        have hmn := (bb.block _ (heap_lt hm)).trans hm
        clear hm
        have hm := hmn
        clear hmn
        have hpn := (bb.block _ (heap_lt hp)).trans hp
        clear hp
        have hp := hpn
        clear hpn
        have hS1 := hS.trans (bb.mono hS.size)
        refine hK.out _ _ hS1 (fun hSn => ?_)
        clear hK K hSn; (try simp only [Act.put, sI, sZ, sS])
        rw [← hX]
        generalize U4.alloc (.cells #[.slice A l.length l.length, .map (some mb), .nilFunc, .nilFunc, .nilFunc, .nilFunc, .nilFunc, .nilFunc, .nilFunc, .nilFunc, .nilFunc, .nilFunc, .nilFunc] 118) = U5 at hm hp hx hS1 ⊢
        clear hX hS bb
        have hS := hS1
        clear hS1
        refine wpAnyH_ready (rs := [11]) (by kernel_rfl) (by simp) ?_
        refine AllReadyH.cons (o := ⟨none, _, _, _, _, _⟩) rfl (fun K hK => ?_) AllReadyH.nil
        · rw [if_pos (by rfl)]
          have y0 : U5.cell? ⟨M, 0, none⟩ = some (.pointer none) := cell_of_row (i := 0) hp rfl
          have yf : U5.frozen? ⟨M, 0, none⟩ = false := free_of_row (i := 0) hp
          go_simp
          have m5 : Mod (fun q => q = M) U5 (U5.setCell ⟨M, 0, none⟩ (.pointer (some ⟨X, 0, none⟩))) := Mod.setCell _ _ _ (.inl rfl)
          have hp9 := set_row (.pointer (some ⟨X, 0, none⟩)) (i := 0) hp
          have hx9 := (m5.block _ (heap_lt hx) (fun e => by
            rw [e, hp] at hx
            injection hx with hx
            injection hx with _ hx _
            exact absurd hx (by decide))).trans hx
          have hm9 := (m5.block _ (heap_lt hm) (fun e => by rw [e, hp] at hm; cases hm)).trans hm
          have hS1 : Below W.heap.size W (U5.setCell ⟨M, 0, none⟩ (.pointer (some ⟨X, 0, none⟩))) := hS.trans (m5.below hS.size (fun q (e : q = M) => by omega))
          refine hK.out _ _ hS1 (fun hSn => ?_)
          clear hK K hSn y0 yf; (try simp only [Act.put, sI, sZ, sS])
          generalize U5.setCell ⟨M, 0, none⟩ (.pointer (some ⟨X, 0, none⟩)) = V9 at hp9 hx9 hm9 hS1 ⊢
          refine wpAnyH_done (by kernel_rfl) ?_ _
          have HP := Lib.hid hp9
          have HX := Lib.hid hx9
          have HM := Lib.hid hm9
          have HMB := Lib.hid hMB
          have HB := Lib.hid hS1
          have HGE : Hid (W.heap.size ≤ X ∧ W.heap.size ≤ M ∧ W.heap.size ≤ mb) := ⟨hXge, hMge, hmge⟩
          have hth : V9.there X 2 (kRow X M).size := fun j hj => by
            rw [kRow_size] at hj
            have hlt : 2 + j < ((#[.slice A l.length l.length, .map (some mb), .nilFunc, .nilFunc, .nilFunc, .nilFunc, .nilFunc, .nilFunc, .nilFunc, .nilFunc, .nilFunc, .nilFunc, .nilFunc] : Array Value)).size := by show 2 + j < 13; omega
            exact ⟨by rw [cell_of_row hx9 (Array.getElem?_eq_getElem hlt)]; rfl, free_of_row hx9⟩
          have HTH := Lib.hid hth
          have cP : V9.cell? ⟨M, 0, none⟩ = some (.pointer (some ⟨X, 0, none⟩)) := cell_of_row (i := 0) hp9 rfl
          obtain ⟨V8, hV8⟩ : ∃ V8, V8 = V9.setCells X 2 (kRow X M).toList := ⟨_, rfl⟩
          have m8 : Mod (fun k => k = X) V9 V8 := by rw [hV8]; exact setCells_mod10 _ _ _
          have HFIN : Hid (MAt W.heap.size W X M mb l V8) := by
            have hp8 := (m8.block _ (heap_lt hp9) (fun e => by
              rw [e, hx9] at hp9
              injection hp9 with hp9
              injection hp9 with _ hp9 _
              exact absurd hp9 (by decide))).trans hp9
            have hm8 := (m8.block _ (heap_lt hm9) (fun e => by rw [e, hx9] at hm9; cases hm9)).trans hm9
            have hx8 : V8.heap[X]? = some (.cells (mRow (.slice A l.length l.length) mb X M) 118 (0, 0)) := by rw [hV8, setCells_heap10 _ _ _ _ hx9, kRow_set]
            have b8 : Below W.heap.size W V8 := hS1.trans (m8.below hS1.size (fun q (e : q = X) => by omega))
            have hr8 := HR.out.keep (Q := (· < W.heap.size)) (w' := V8) (fun b (hb : b < W.heap.size) => b8.block b hb) (fun _ h => h)
            exact ⟨b8, Nat.le_refl _, HGE.out, ⟨_, hx8, .inl ⟨A, rfl, ⟨hr8.len, hr8.max, Nat.le_refl _, hr8.at_⟩⟩⟩, hp8, ⟨_, _, hm8, hMB⟩, HOK.out, ⟨HSP.out, HSP.out.lt⟩⟩
          have HPT : Hid (V8.cell? ⟨M, 0, none⟩ = some (.pointer (some ⟨X, 0, none⟩))) := cell_of_row (i := 0) HFIN.out.ptr rfl
          have HV8 := Lib.hid hV8
          clear hp9 hx9 hm9 hMB hS1 hXge hMge hmge hth m8 hV8 hS hp hx hm
          go_upto_region 3 with (refine wpList_store_mid rfl 116 _ _ rfl X 2 (kRow X M) rfl rfl HTH.out (kRow_info.trans (by rw [kRow_size])) (kRow_one X M) ?_)
          rw [← HV8.out]
          clear cP HTH HV8
          have cP := HPT.out
          go_wp2_with fail
          go_ret
          exact ⟨X, M, mb, rfl, HFIN.out⟩
  · rw [if_pos (by rfl)]
    go_simp
    have hp := block_alloc V0 (.cells #[.pointer none] 110)
    have bb : Below V0.heap.size V0 (V0.alloc (.cells #[.pointer none] 110)) := (Below.refl _ _).alloc (Nat.le_refl _) _
    have hMge : W.heap.size ≤ V0.heap.size := hS.size
    obtain ⟨M, hM⟩ : ∃ q, q = V0.heap.size := ⟨_, rfl⟩
    rw [← hM] at hp hMge
    have hS1 := hS.trans (bb.mono hS.size)
    refine hK.out _ _ hS1 (fun hSn => ?_)
    clear hK K hSn; (try simp only [Act.put, sI, sZ, sS])
    rw [← hM]
    generalize V0.alloc (.cells #[.pointer none] 110) = U6 at hp hS1 ⊢
    clear hM hS bb
    have hS := hS1
    clear hS1
    refine wpAnyH_ready (rs := [7]) (by kernel_rfl) (by simp) ?_
    refine AllReadyH.cons (o := ⟨some 11, _, _, _, _, _⟩) rfl (fun K hK => ?_) AllReadyH.nil
    · rw [if_pos (by rfl)]
      go_simp
      refine (firsts10_any W.heap.size l A l.length cap U6 (HR.out.keep (fun b (hb : b < W.heap.size) => hS.block b hb) (fun _ h => h)) hS.size).mono ?_
      rintro e U7 ⟨rfl, bb, es, mc, hm, hMB0⟩
      have hMB := hMB0.back hS
      have hmge : W.heap.size ≤ U6.heap.size := hS.size
      obtain ⟨mb, hmb⟩ : ∃ mb, mb = U6.heap.size := ⟨_, rfl⟩
      rw [← hmb] at hm hmge
      have hpn := (bb.block _ (heap_lt hp)).trans hp
      clear hp
      have hp := hpn
      clear hpn
      have hS1 := hS.trans (bb.mono hS.size)
      refine hK.out _ _ hS1 (fun hSn => ?_)
      clear hK K hSn; (try simp only [Act.put, sI, sZ, sS])
      rw [← hmb]
      clear hmb hS hMB0 bb
      have hS := hS1
      clear hS1
      refine wpAnyH_take (i := 8) (oi := ⟨some 12, _, _, _, _, _⟩) (v := ?_) rfl (by kernel_rfl) (by kernel_rfl) (by kernel_rfl) (fun _ _ _ h => h) (Or.inl ⟨by kernel_rfl, ?_⟩) (by assumption) ?_; rotate_left; (intro VV hSw; (try dsimp only at hSw); go_simp; first | done | with_reducible rfl); (try simp only [Act.put, sI, sZ, sS])
      refine wpAnyH_ready (rs := [9]) (by kernel_rfl) (by simp) ?_
      refine AllReadyH.cons (o := ⟨some 13, _, _, _, _, _⟩) rfl (fun K hK => ?_) AllReadyH.nil
      · rw [if_pos (by rfl)]
        go_simp
        have hx := block_alloc U7 (.cells #[.slice A l.length l.length, .map (some mb), .nilFunc, .nilFunc, .nilFunc, .nilFunc, .nilFunc, .nilFunc, .nilFunc, .nilFunc, .nilFunc, .nilFunc, .nilFunc] 118)
        have bb : Below U7.heap.size U7 (U7.alloc (.cells #[.slice A l.length l.length, .map (some mb), .nilFunc, .nilFunc, .nilFunc, .nilFunc, .nilFunc, .nilFunc, .nilFunc, .nilFunc, .nilFunc, .nilFunc, .nilFunc] 118)) := (Below.refl _ _).alloc (Nat.le_refl _) _
        have hXge : W.heap.size ≤ U7.heap.size := hS.size
        obtain ⟨X, hX⟩ : ∃ q, q = U7.heap.size := ⟨_, rfl⟩
        rw [← hX] at hx hXge
        have hmn := (bb.block _ (heap_lt hm)).trans hm
        clear hm
        have hm := hmn
        clear hmn
        have hpn := (bb.block _ (heap_lt hp)).trans hp
        clear hp
        have hp := hpn
        clear hpn
        have hS1 := hS.trans (bb.mono hS.size)
        refine hK.out _ _ hS1 (fun hSn => ?_)
        clear hK K hSn; (try simp only [Act.put, sI, sZ, sS])
        rw [← hX]
        generalize U7.alloc (.cells #[.slice A l.length l.length, .map (some mb), .nilFunc, .nilFunc, .nilFunc, .nilFunc, .nilFunc, .nilFunc, .nilFunc, .nilFunc, .nilFunc, .nilFunc, .nilFunc] 118) = U8 at hm hp hx hS1 ⊢
        clear hX hS bb
        have hS := hS1
        clear hS1
        refine wpAnyH_ready (rs := [11]) (by kernel_rfl) (by simp) ?_
        refine AllReadyH.cons (o := ⟨none, _, _, _, _, _⟩) rfl (fun K hK => ?_) AllReadyH.nil
        · rw [if_pos (by rfl)]
          have y0 : U8.cell? ⟨M, 0, none⟩ = some (.pointer none) := cell_of_row (i := 0) hp rfl
          have yf : U8.frozen? ⟨M, 0, none⟩ = false := free_of_row (i := 0) hp
          go_simp
          have m5 : Mod (fun q => q = M) U8 (U8.setCell ⟨M, 0, none⟩ (.pointer (some ⟨X, 0, none⟩))) := Mod.setCell _ _ _ (.inl rfl)
          have hp9 := set_row (.pointer (some ⟨X, 0, none⟩)) (i := 0) hp
          have hx9 := (m5.block _ (heap_lt hx) (fun e => by
            rw [e, hp] at hx
            injection hx with hx
            injection hx with _ hx _
            exact absurd hx (by decide))).trans hx
          have hm9 := (m5.block _ (heap_lt hm) (fun e => by rw [e, hp] at hm; cases hm)).trans hm
          have hS1 : Below W.heap.size W (U8.setCell ⟨M, 0, none⟩ (.pointer (some ⟨X, 0, none⟩))) := hS.trans (m5.below hS.size (fun q (e : q = M) => by omega))
          refine hK.out _ _ hS1 (fun hSn => ?_)
          clear hK K hSn y0 yf; (try simp only [Act.put, sI, sZ, sS])
          generalize U8.setCell ⟨M, 0, none⟩ (.pointer (some ⟨X, 0, none⟩)) = V9 at hp9 hx9 hm9 hS1 ⊢
          refine wpAnyH_done (by kernel_rfl) ?_ _
          have HP := Lib.hid hp9
          have HX := Lib.hid hx9
          have HM := Lib.hid hm9
          have HMB := Lib.hid hMB
          have HB := Lib.hid hS1
          have HGE : Hid (W.heap.size ≤ X ∧ W.heap.size ≤ M ∧ W.heap.size ≤ mb) := ⟨hXge, hMge, hmge⟩
          have hth : V9.there X 2 (kRow X M).size := fun j hj => by
            rw [kRow_size] at hj
            have hlt : 2 + j < ((#[.slice A l.length l.length, .map (some mb), .nilFunc, .nilFunc, .nilFunc, .nilFunc, .nilFunc, .nilFunc, .nilFunc, .nilFunc, .nilFunc, .nilFunc, .nilFunc] : Array Value)).size := by show 2 + j < 13; omega
            exact ⟨by rw [cell_of_row hx9 (Array.getElem?_eq_getElem hlt)]; rfl, free_of_row hx9⟩
          have HTH := Lib.hid hth
          have cP : V9.cell? ⟨M, 0, none⟩ = some (.pointer (some ⟨X, 0, none⟩)) := cell_of_row (i := 0) hp9 rfl
          obtain ⟨V8, hV8⟩ : ∃ V8, V8 = V9.setCells X 2 (kRow X M).toList := ⟨_, rfl⟩
          have m8 : Mod (fun k => k = X) V9 V8 := by rw [hV8]; exact setCells_mod10 _ _ _
          have HFIN : Hid (MAt W.heap.size W X M mb l V8) := by
            have hp8 := (m8.block _ (heap_lt hp9) (fun e => by
              rw [e, hx9] at hp9
              injection hp9 with hp9
              injection hp9 with _ hp9 _
              exact absurd hp9 (by decide))).trans hp9
            have hm8 := (m8.block _ (heap_lt hm9) (fun e => by rw [e, hx9] at hm9; cases hm9)).trans hm9
            have hx8 : V8.heap[X]? = some (.cells (mRow (.slice A l.length l.length) mb X M) 118 (0, 0)) := by rw [hV8, setCells_heap10 _ _ _ _ hx9, kRow_set]
            have b8 : Below W.heap.size W V8 := hS1.trans (m8.below hS1.size (fun q (e : q = X) => by omega))
            have hr8 := HR.out.keep (Q := (· < W.heap.size)) (w' := V8) (fun b (hb : b < W.heap.size) => b8.block b hb) (fun _ h => h)
            exact ⟨b8, Nat.le_refl _, HGE.out, ⟨_, hx8, .inl ⟨A, rfl, ⟨hr8.len, hr8.max, Nat.le_refl _, hr8.at_⟩⟩⟩, hp8, ⟨_, _, hm8, hMB⟩, HOK.out, ⟨HSP.out, HSP.out.lt⟩⟩
          have HPT : Hid (V8.cell? ⟨M, 0, none⟩ = some (.pointer (some ⟨X, 0, none⟩))) := cell_of_row (i := 0) HFIN.out.ptr rfl
          have HV8 := Lib.hid hV8
          clear hp9 hx9 hm9 hMB hS1 hXge hMge hmge hth m8 hV8 hS hp hx hm
          go_upto_region 3 with (refine wpList_store_mid rfl 116 _ _ rfl X 2 (kRow X M) rfl rfl HTH.out (kRow_info.trans (by rw [kRow_size])) (kRow_one X M) ?_)
          rw [← HV8.out]
          clear cP HTH HV8
          have cP := HPT.out
          go_wp2_with fail
          go_ret
          exact ⟨X, M, mb, rfl, HFIN.out⟩

set_option maxHeartbeats 4000000 in
set_option maxRecDepth 100000 in
theorem clone10_any (P : Nat → Prop) (l : List Bd) (A : Option Addr) (n cap : Nat) (w : World) (hR : RowB P w A n l) (hP : ∀ b, P b → b < w.heap.size) (hlen : l.length ≤ 1000000) :
    Calls Tryz.prog 83 #[.slice A n cap] w fun e w' => ∃ v, e = .returned v ∧ OwnB w.heap.size P w' v l ∧ Below w.heap.size w w' := by
  obtain rfl := hR.len
  cases A with
  | none =>
    have hl : l = [] := by
      cases l with
      | nil => rfl
      | cons y l => obtain ⟨ad, _, e, _⟩ := hR.at_ 0 y rfl; cases e
    subst hl
    clear hR hlen hP
    have hq : ∀ W : World, Sem.run Tryz.prog (binOp BinOp.eql 45 (Value.slice none 0 cap) (.slice none 0 0)) W = .ok (.bool true) W := fun W => by kernel_rfl
    go_enter Tryz.func83, Tryz.ntmps83
    go_wp2_with fail
    go_ret
    exact ⟨_, rfl, OwnB.nil _ _ _, Below.refl _ _⟩
  | some ad =>
    obtain ⟨w1, hw1⟩ : ∃ w1, w1 = w.alloc (.cells #[] 61) := ⟨_, rfl⟩
    have b1 : Below w.heap.size w w1 := by rw [hw1]; exact (Below.refl _ w).alloc (Nat.le_refl _) _
    have g1 : w1.heap[w.heap.size]? = some (.cells #[] 61 (0, 0)) := by rw [hw1]; exact block_alloc _ _
    have hR1 : RowB P w1 (some ad) l.length l := ⟨hR.len, fun j b hj => by
      obtain ⟨ad', v, e, hs, hE, hT⟩ := hR.at_ j b hj
      refine ⟨ad', v, e, hs, ?_, hT.keep (fun q hq => b1.block q (hP q hq)) (fun _ h => h)⟩
      obtain ⟨c0, c1, c2, c3, c4, he, q0, q1, q2, q3, q4, q5⟩ := hE
      exact ⟨c0, c1, c2, c3, c4, he, (b1.cell (World.block_lt_of_cell? w _ q0)).trans q0, (b1.cell (World.block_lt_of_cell? w _ q1)).trans q1, (b1.cell (World.block_lt_of_cell? w _ q2)).trans q2, (b1.cell (World.block_lt_of_cell? w _ q3)).trans q3, (b1.cell (World.block_lt_of_cell? w _ q4)).trans q4, (b1.cell (World.block_lt_of_cell? w _ q5)).trans q5⟩⟩
    have HO1 : Hid (OwnB w.heap.size P w1 (.slice (some ⟨w.heap.size, 0, none⟩) 0 0) []) := OwnB.none g1 (Nat.le_refl _)
    have HR1 := Lib.hid hR1
    have HB1 := Lib.hid b1
    have HP1 : Hid (∀ b, P b → b < w1.heap.size ∧ (Value.slice (some ⟨w.heap.size, 0, none⟩) 0 0).ownBlock ≠ some b) := fun b hb => ⟨Nat.lt_of_lt_of_le (hP b hb) b1.size, fun e => by
      have h1 := (HO1.out.own b e).1
      have h2 := hP b hb
      omega⟩
    have HL : Hid (([] : List Bd).length + l.length ≤ 1000000) := by show _ ≤ _; simp; omega
    clear hR hP b1 g1 hR1
    have hq : ∀ (W : World) (n : Nat), Sem.run Tryz.prog (binOp BinOp.eql 45 (Value.slice (some ad) n cap) (.slice none 0 0)) W = .ok (.bool false) W := fun W n => by kernel_rfl
    go_enter Tryz.func83, Tryz.ntmps83
    go_wp2_with (at_builtin; rw [← hw1]; refine wpList_own_binds rfl (.tmp 5) (.tmp 6) rfl HO1.out HB1.out.size HP1.out rfl rfl HR1.out HL.out ?_)
    intro v2 w2 O hg hb
    try simp only [List.nil_append] at O
    rw [← hw1] at hg
    have hB2 : Below w.heap.size w w2 := HB1.out.trans ((Mod.grown (F := fun g => (Value.slice (some ⟨w.heap.size, 0, none⟩) 0 0).ownBlock = some g) hg (fun _ _ e => e)).below HB1.out.size (fun g e => (HO1.out.own g e).1))
    have HO := Lib.hid O
    have HB2 := Lib.hid hB2
    clear O hg hb hB2 hw1
    go_wp2_with fail
    go_ret
    exact ⟨_, rfl, HO.out, HB2.out⟩
end Go.Proofs.YtkceoiaaiaomoaaGreatDoor
