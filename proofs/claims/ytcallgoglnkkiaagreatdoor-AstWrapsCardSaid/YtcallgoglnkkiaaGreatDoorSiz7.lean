/- ast.below: the rows of parts of a level's nodes, each once. -/
import Derived.Test.YtcallgoglnkkiaaGreatDoorOpenN
import Derived.Test.YtcallgoglnkkiaaGreatDoorAppend
import Derived.Test.YtcallgoglnkkiaaGreatDoorWkD
import Derived.Deep.RegionHeld
import Derived.OrdersHeld
set_option linter.unusedVariables false
namespace Go.Proofs.YtcallgoglnkkiaaGreatDoor
open Go.RowKit

/-- A row of a level: nodes that lie in old memory. -/
def LRow (B : Nat) (w : World) (u : Value) (l : List Tm) : Prop := ∃ A cap, u = .slice A l.length cap ∧ TRow (· < B) w A l.length cap l ∧ ∀ ad j x v, A = some ad → l[j]? = some x → ElemAt w ad j v → FreeT w x v
/-- A level: rows of nodes. -/
def Lvl (w : World) (L : Value) (lv : List (List Tm)) : Prop := ∃ A cap, L = .slice A lv.length cap ∧ ∀ j l, lv[j]? = some l → ∃ ad u, A = some ad ∧ ad.block < w.heap.size ∧ w.cell? (ad.add j) = some u ∧ LRow w.heap.size w u l
/-- How many nodes a level's rows have in all. -/
def wt (lv : List (List Tm)) : Nat := (lv.map fun l => (Tm.pres l).length).sum
theorem wt_snoc (lv : List (List Tm)) (l : List Tm) : wt (lv ++ [l]) = wt lv + (Tm.pres l).length := by unfold wt; simp
theorem wt_take {lv : List (List Tm)} {j : Nat} {l : List Tm} (h : lv[j]? = some l) : wt (lv.take (j + 1)) = wt (lv.take j) + (Tm.pres l).length := by
  rw [List.take_add_one, h]; exact wt_snoc _ _
theorem wt_take_le (lv : List (List Tm)) (j : Nat) : wt (lv.take j) ≤ wt lv := by
  have : wt lv = wt (lv.take j) + wt (lv.drop j) := by
    unfold wt
    rw [← List.sum_append_nat, ← List.map_append, List.take_append_drop]
  omega

theorem LRow.keep {B C : Nat} {w w' : World} {u : Value} {l : List Tm} (h : LRow B w u l) (hb : ∀ k, k < B → w'.heap[k]? = w.heap[k]?) (hC : B ≤ C) : LRow C w' u l := by
  obtain ⟨A, cap, rfl, hR, hF⟩ := h
  refine ⟨A, cap, rfl, hR.keep hb (fun b hb => Nat.lt_of_lt_of_le hb hC), fun ad j x v hA hj hE => ?_⟩
  obtain ⟨ad', v', hA', hlt, hE', hT⟩ := hR.at_ j x hj
  rw [hA] at hA'
  cases hA'
  obtain rfl := hE.one (hE'.keep (hb _ hlt))
  exact (hF ad j x _ hA hj hE').keep hT hb

/-- What the walk of a level has laid: the next level's rows in a row of its own, the map of those that were seen. -/
structure Nxt (B : Nat) (w : World) (m : Nat) (W : World) (nx : Value) (bud : Nat) (lv : List (List Tm)) (us : List Value) : Prop where
  row : W.ownsRow B 23 1 nx lv.length us
  each : ∀ (j : Nat) (l : List Tm), lv[j]? = some l → ∃ u, us[j]? = some u ∧ LRow B w u l
  wgt : wt lv ≤ bud
  len : lv.length ≤ wt lv
  map : RowMap B W m
  below : Below B w W
theorem Nxt.block {B m bud : Nat} {w W : World} {nx : Value} {lv : List (List Tm)} {us : List Value} (h : Nxt B w m W nx bud lv us) (k : Nat) (hk : nx.ownBlock = some k) : k < W.heap.size ∧ k ≠ m ∧ B ≤ k := by
  obtain ⟨es, c, hm, _⟩ := h.map
  rcases h.row.2 with ⟨rfl, _⟩ | ⟨g, cap, cur, rfl, hb, hg, _⟩
  · cases hk
  · simp [Value.ownBlock] at hk
    subst hk
    exact ⟨heap_lt hg, (fun e => by rw [e, hm] at hg; cases hg), hb⟩
theorem Nxt.more {B m bud bud' : Nat} {w W : World} {nx : Value} {lv : List (List Tm)} {us : List Value} (h : Nxt B w m W nx bud lv us) (hb : bud ≤ bud') : Nxt B w m W nx bud' lv us := ⟨h.row, h.each, Nat.le_trans h.wgt hb, h.len, h.map, h.below⟩
/-- Behind what makes new memory alone. -/
theorem Nxt.under {B m bud : Nat} {w W W' : World} {nx : Value} {lv : List (List Tm)} {us : List Value} (h : Nxt B w m W nx bud lv us) (hB : B ≤ W.heap.size) (hb : Below W.heap.size W W') : Nxt B w m W' nx bud lv us := by
  obtain ⟨es, c, hm, _⟩ := h.map
  exact ⟨(Mod.of_below (F := fun _ => False) hb).row h.row (fun _ _ f => f), h.each, h.wgt, h.len, h.map.keep (fun k hk => hb.block k (by omega)) (hb.block m (heap_lt hm)), h.below.trans (hb.mono hB)⟩
/-- Behind a store into the map. -/
theorem Nxt.put {B m bud : Nat} {w W W' : World} {nx : Value} {lv : List (List Tm)} {us : List Value} (h : Nxt B w m W nx bud lv us) (hB : B ≤ W.heap.size) (hBm : B ≤ m) (hm : Mod (fun k => k = m) W W') (hM : RowMap B W' m) : Nxt B w m W' nx bud lv us :=
  ⟨hm.row h.row (fun k hk e => (h.block k hk).2.1 e), h.each, h.wgt, h.len, hM, h.below.trans (hm.below hB (fun i hi => by omega))⟩

theorem pres_pos {N : Nat} {l : List Tm} (h : 0 < N) (hN : N = l.length) : 1 ≤ (Tm.pres l).length := by
  match l, hN with
  | [], hN => simp at hN; omega
  | x :: l, _ => rw [Tm.pres, List.length_append]; have := Tm.pre_ne x; omega
theorem Nxt.lvl {m bud : Nat} {w W : World} {nx : Value} {lv : List (List Tm)} {us : List Value} (h : Nxt w.heap.size w m W nx bud lv us) : Lvl W nx lv := by
  rcases h.row.2 with ⟨rfl, h0⟩ | ⟨g, cap, cur, rfl, hb, hg, rest⟩
  · refine ⟨none, 0, by rw [h0], fun j l hj => ?_⟩
    have := (List.getElem?_eq_some_iff.1 hj).1
    omega
  · refine ⟨some ⟨g, 0, none⟩, cap, rfl, fun j l hj => ?_⟩
    obtain ⟨u, hu, hr⟩ := h.each j l hj
    exact ⟨_, u, rfl, heap_lt hg, h.row.cells (g := g) rfl j u hu, hr.keep (fun k hk => h.below.block k hk) h.below.size⟩
theorem shape_of_elem {w : World} {ad : Addr} {i : Nat} {v : Value} (h : ElemAt w ad i v) : ∃ s, w.shape? ad.block = some s := by
  obtain ⟨c0, _, _, _, _, _, h0, _⟩ := h
  have hb : (ad.add (i * 5)).block = ad.block := add_block _ _
  unfold World.cell? at h0
  rw [hb] at h0
  cases hh : w.heap[ad.block]? with
  | none => simp [hh] at h0
  | some ob =>
    cases ob <;> simp [hh] at h0
    exact ⟨_, by unfold World.shape?; rw [hh]⟩
theorem mkmap8 (w : World) : Sem.run Tryz.prog (Instr.makeMap 93 none) w = .ok (.map (some w.heap.size)) (w.alloc (.map #[] 0)) := by kernel_rfl
theorem info_nrow : (Tryz.prog.info? 23).map (fun i => (i.zero, i.size, i.bytes)) = some (some (.slice none 0 0), 1, 24) := by kernel_rfl

set_option maxRecDepth 100000 in
set_option maxHeartbeats 8000000 in
theorem below_any (w : World) (L : Value) (lv : List (List Tm)) (hL : Lvl w L lv) (hn : lv.length ≤ 8200) (hw : wt lv ≤ 8200) :
    Calls Tryz.prog 71 #[L] w fun e w' => ∃ L' lv', e = .returned L' ∧ Lvl w' L' lv' ∧ lv'.length ≤ 8200 ∧ wt lv' ≤ 8200 ∧ Below w.heap.size w w' := by
  obtain ⟨A, cap, rfl, hrow⟩ := hL
  obtain ⟨i0, hi, hz0, hz1, hz2⟩ := info_parts info_nrow
  have HROW := Lib.hid hrow
  obtain ⟨w1, hw1⟩ : ∃ w1, w1 = w.alloc (.map #[] 0) := ⟨_, rfl⟩
  have hN : Nxt w.heap.size w w.heap.size w1 (.slice none 0 0) 0 [] [] := by
    refine ⟨⟨rfl, .inl ⟨rfl, rfl⟩⟩, fun j l h => by simp at h, by simp [wt], by simp, ?_, by rw [hw1]; exact (Below.refl _ _).alloc (Nat.le_refl _) _⟩
    exact ⟨#[], 0, by rw [hw1]; exact block_alloc _ _, fun e he => by simp at he⟩
  have HN := Lib.hid hN
  have HI := Lib.hid (And.intro hi (And.intro hz0 (And.intro hz1 hz2)))
  clear hrow hN hi hz0 hz1 hz2
  have hmm := mkmap8
  go_enter Tryz.func71, Tryz.ntmps71
  go_wp2_with fail
  rw [← hw1]
  clear hw1 hmm
  go_loopw [3, 15] (fun nx i wr => ∃ j : Nat, j ≤ lv.length ∧ i = .int .i64 j ∧ ∃ lv' us, Hid (Nxt w.heap.size w w.heap.size wr nx (wt (lv.take j)) lv' us)) (fun _ i _ => lv.length - (intOf i).toNat)
  case atStart => exact ⟨0, Nat.zero_le _, rfl, [], [], by show Nxt _ _ _ _ _ _ _ _; simpa [wt] using HN.out⟩
  case round =>
    obtain ⟨j, hj, rfl, lv', us, HX⟩ := hrel
    obtain ⟨wq, hwq⟩ : ∃ wq, wq = wr := ⟨_, rfl⟩
    subst hwq
    by_cases hlt : j < lv.length
    · obtain ⟨l, hl⟩ : ∃ l, lv[j]? = some l := ⟨lv[j], List.getElem?_eq_getElem hlt⟩
      obtain ⟨ad, u, hA, had, hc, A2, cap2, rfl, hR2, hF2⟩ := HROW.out j l hl
      subst hA
      have hcq : wq.cell? (ad.add j) = some (.slice A2 l.length cap2) := (HX.out.below.cell (p := ad.add j) (by rw [add_block]; exact had)).trans hc
      have hl2 := hR2.max
      unfold maxLen at hl2
      have HR2 := Lib.hid hR2
      have HF2 := Lib.hid hF2
      have hwj := wt_take hl
      have hwl := wt_take_le lv (j + 1)
      obtain ⟨q0, hq0⟩ : ∃ q0, q0 = wt (lv.take j) := ⟨_, rfl⟩
      rw [← hq0] at HX hwj
      have HWJ := Lib.hid (And.intro hwj (And.intro hwl hq0))
      clear hR2 hF2 hc hwj hwl hq0 hl
      go_wp2_with fail
      clear hcq
      go_loopw [3, 21] (fun nx i wr => ∃ p : Nat, p ≤ l.length ∧ i = .int .i64 p ∧ ∃ lv' us, Hid (Nxt w.heap.size w w.heap.size wr nx (q0 + (Tm.pres (l.take p)).length) lv' us)) (fun _ i _ => l.length - (intOf i).toNat)
      case atStart => exact ⟨0, Nat.zero_le _, rfl, lv', us, by show Nxt _ _ _ _ _ _ _ _; simpa [Tm.pres] using HX.out⟩
      case round =>
        clear HX
        obtain ⟨p, hp, rfl, lv2, us2, HX2⟩ := hrel
        obtain ⟨wk, hwk⟩ : ∃ wk, wk = wr := ⟨_, rfl⟩
        subst hwk
        by_cases hlt2 : p < l.length
        · obtain ⟨y, hy⟩ : ∃ y, l[p]? = some y := ⟨l[p], List.getElem?_eq_getElem hlt2⟩
          obtain ⟨ad2, v, hA2, had2, hEl, hTy⟩ := HR2.out.at_ p y hy
          subst hA2
          have hFy := HF2.out ad2 p y v rfl hy hEl
          have hpt := Tm.pres_take_succ hy
          obtain ⟨c0, c1, c2, c3, c4, rfl, e0, e1, e2, e3, e4⟩ := hEl.keep (HX2.out.below.block ad2.block had2)
          obtain ⟨ky, ny, sy, ty, ly⟩ := y
          obtain ⟨Ay, capy, huy, hRy, hky, hny, hsy, hty⟩ := hTy.parts
          simp only [Value.agg.injEq, Array.mk.injEq, List.cons.injEq, and_true] at huy
          obtain ⟨rfl, rfl, rfl, rfl, rfl⟩ := huy
          have hly := hRy.max
          unfold maxLen at hly
          have hpl : (Tm.pres (l.take (p + 1))).length = (Tm.pres (l.take p)).length + 1 + (Tm.pres ly).length := by
            rw [hpt, List.length_append, Tm.pre]; simp; omega
          have hB0 : w.heap.size ≤ wk.heap.size := HX2.out.below.size
          have HPL := Lib.hid hpl
          have HRY := Lib.hid hRy
          have HFY := Lib.hid hFy
          obtain ⟨N, hN⟩ : ∃ N, N = ly.length := ⟨_, rfl⟩
          rw [← hN] at e4 hly HFY
          have HNL := Lib.hid hN
          have bz0 : (wk.alloc (.cells #[.int .i8 0, .int .i64 0, .string ⟨#[]⟩, .string ⟨#[]⟩, .slice none 0 0] 25)).cell? ⟨wk.heap.size, 0, none⟩ = some (.int .i8 0) := cell_of_row (block_alloc _ _) rfl
          have bf0 : (wk.alloc (.cells #[.int .i8 0, .int .i64 0, .string ⟨#[]⟩, .string ⟨#[]⟩, .slice none 0 0] 25)).frozen? ⟨wk.heap.size, 0, none⟩ = false := free_of_row (block_alloc _ _)
          have bv0 : (wk.alloc (.cells #[.int .i8 ky, .int .i64 ny, .string sy, .string ty, .slice Ay N capy] 25)).cell? ⟨wk.heap.size, 0, none⟩ = some (.int .i8 ky) := cell_of_row (block_alloc _ _) rfl
          have bz1 : (wk.alloc (.cells #[.int .i8 0, .int .i64 0, .string ⟨#[]⟩, .string ⟨#[]⟩, .slice none 0 0] 25)).cell? ⟨wk.heap.size, 1, none⟩ = some (.int .i64 0) := cell_of_row (block_alloc _ _) rfl
          have bf1 : (wk.alloc (.cells #[.int .i8 0, .int .i64 0, .string ⟨#[]⟩, .string ⟨#[]⟩, .slice none 0 0] 25)).frozen? ⟨wk.heap.size, 1, none⟩ = false := free_of_row (block_alloc _ _)
          have bv1 : (wk.alloc (.cells #[.int .i8 ky, .int .i64 ny, .string sy, .string ty, .slice Ay N capy] 25)).cell? ⟨wk.heap.size, 1, none⟩ = some (.int .i64 ny) := cell_of_row (block_alloc _ _) rfl
          have bz2 : (wk.alloc (.cells #[.int .i8 0, .int .i64 0, .string ⟨#[]⟩, .string ⟨#[]⟩, .slice none 0 0] 25)).cell? ⟨wk.heap.size, 2, none⟩ = some (.string ⟨#[]⟩) := cell_of_row (block_alloc _ _) rfl
          have bf2 : (wk.alloc (.cells #[.int .i8 0, .int .i64 0, .string ⟨#[]⟩, .string ⟨#[]⟩, .slice none 0 0] 25)).frozen? ⟨wk.heap.size, 2, none⟩ = false := free_of_row (block_alloc _ _)
          have bv2 : (wk.alloc (.cells #[.int .i8 ky, .int .i64 ny, .string sy, .string ty, .slice Ay N capy] 25)).cell? ⟨wk.heap.size, 2, none⟩ = some (.string sy) := cell_of_row (block_alloc _ _) rfl
          have bz3 : (wk.alloc (.cells #[.int .i8 0, .int .i64 0, .string ⟨#[]⟩, .string ⟨#[]⟩, .slice none 0 0] 25)).cell? ⟨wk.heap.size, 3, none⟩ = some (.string ⟨#[]⟩) := cell_of_row (block_alloc _ _) rfl
          have bf3 : (wk.alloc (.cells #[.int .i8 0, .int .i64 0, .string ⟨#[]⟩, .string ⟨#[]⟩, .slice none 0 0] 25)).frozen? ⟨wk.heap.size, 3, none⟩ = false := free_of_row (block_alloc _ _)
          have bv3 : (wk.alloc (.cells #[.int .i8 ky, .int .i64 ny, .string sy, .string ty, .slice Ay N capy] 25)).cell? ⟨wk.heap.size, 3, none⟩ = some (.string ty) := cell_of_row (block_alloc _ _) rfl
          have bz4 : (wk.alloc (.cells #[.int .i8 0, .int .i64 0, .string ⟨#[]⟩, .string ⟨#[]⟩, .slice none 0 0] 25)).cell? ⟨wk.heap.size, 4, none⟩ = some (.slice none 0 0) := cell_of_row (block_alloc _ _) rfl
          have bf4 : (wk.alloc (.cells #[.int .i8 0, .int .i64 0, .string ⟨#[]⟩, .string ⟨#[]⟩, .slice none 0 0] 25)).frozen? ⟨wk.heap.size, 4, none⟩ = false := free_of_row (block_alloc _ _)
          have bv4 : (wk.alloc (.cells #[.int .i8 ky, .int .i64 ny, .string sy, .string ty, .slice Ay N capy] 25)).cell? ⟨wk.heap.size, 4, none⟩ = some (.slice Ay N capy) := cell_of_row (block_alloc _ _) rfl
          have HB1 := Lib.hid ((Below.refl wk.heap.size wk).alloc (Nat.le_refl _) (.cells #[.int .i8 ky, .int .i64 ny, .string sy, .string ty, .slice Ay N capy] 25))
          have HG1 := Lib.hid (block_alloc wk (.cells #[.int .i8 ky, .int .i64 ny, .string sy, .string ty, .slice Ay N capy] 25))
          clear hRy hFy hEl hTy hpt hpl hN hy had2 hky hny hsy hty
          by_cases hN0 : N = 0
          · subst hN0
            go_wp2_with fail
            go_roundw
            case rel => exact ⟨p + 1, by omega, by go_num, lv2, us2, (HX2.out.more (by have := HPL.out; omega)).under hB0 HB1.out⟩
            case measure => simp [intOf]; omega
          · have hN1 : 0 < N := by omega
            have hNe : ((N : Int) == 0) = false := by rw [beq_eq_false_iff_ne]; omega
            go_upto_region 10 with fail
            generalize (wk.alloc (.cells #[.int .i8 ky, .int .i64 ny, .string sy, .string ty, .slice Ay N capy] 25)) = w4 at HB1 HG1 bv0 bv1 bv2 bv3 bv4 ⊢
            clear bz0 bz1 bz2 bz3 bz4 bf0 bf1 bf2 bf3 bf4 e0 e1 e2 e3 e4
            obtain ⟨y0, hy0⟩ : ∃ y0, ly[0]? = some y0 := ⟨ly[0]'(by rw [← HNL.out]; exact hN1), List.getElem?_eq_getElem _⟩
            obtain ⟨ad3, v3, hA3, had3, hEl3, -⟩ := HRY.out.at_ 0 y0 hy0
            subst hA3
            have hfr : w.frozen? ad3 = false := HFY.out.head ad3 rfl (by rw [← HNL.out]; exact hN1)
            clear hy0
            go_region_held (fun W => W.cell? ⟨wk.heap.size, 4, none⟩ = some (.slice (some ad3) N capy)) (go_keep) (fail)
            rename_i hHeld
            clear hHeld bv0 bv1 bv2 bv3 bv4
            have hb5 : Below wk.heap.size wk (w4.alloc (.cells #[.pointer (some ad3), .int .i64 N] 96)).drew := (HB1.out.alloc HB1.out.size _).drew
            have hg5 : (w4.alloc (.cells #[.pointer (some ad3), .int .i64 N] 96)).drew.heap[w4.heap.size]? = some (.cells #[.pointer (some ad3), .int .i64 N] 96) := block_alloc _ _
            have hx5 : (w4.alloc (.cells #[.pointer (some ad3), .int .i64 N] 96)).drew.heap[wk.heap.size]? = some (.cells #[.int .i8 ky, .int .i64 ny, .string sy, .string ty, .slice (some ad3) N capy] 25) := (Below.heap_alloc _ _ _ (heap_lt HG1.out)).trans HG1.out
            generalize (w4.alloc (.cells #[.pointer (some ad3), .int .i64 N] 96)).drew = w5 at hb5 hg5 hx5 ⊢
            have q0 : w5.cell? ⟨w4.heap.size, 0, none⟩ = some (.pointer (some ad3)) := cell_of_row hg5 rfl
            have q1 : w5.cell? ⟨w4.heap.size, 1, none⟩ = some (.int .i64 N) := cell_of_row hg5 rfl
            have HX5 := Lib.hid (HX2.out.under hB0 hb5)
            have hkey : RowKey w.heap.size w (.agg #[.pointer (some ad3), .int .i64 N]) := by
              obtain ⟨sh, hsh⟩ := shape_of_elem hEl3
              exact ⟨ad3, N, sh, rfl, had3, hfr, hsh⟩
            have HKEY := Lib.hid hkey
            have hk5 := hkey.keep (w' := w5) (fun k hk => HX5.out.below.block k hk)
            obtain ⟨b, dd, hlk⟩ := row_look HX5.out.map hk5
            have HB5 := Lib.hid hb5
            have HG5 := Lib.hid hg5
            have HX5B := Lib.hid hx5
            clear hb5 hg5 hx5 hkey hk5 hEl3 hfr had3
            go_upto_region 12 with fail
            have hb6 : Below w5.heap.size w5 ((w5.drewN dd).alloc (.cells #[] 51)) := (⟨rfl, rfl, rfl, Nat.le_refl _, fun _ _ => rfl⟩ : Below w5.heap.size w5 (w5.drewN dd)).alloc (Nat.le_refl _) _
            generalize ((w5.drewN dd).alloc (.cells #[] 51)) = w6 at hb6 ⊢
            have hX6 := HX5.out.under (HX5.out.below.size) hb6
            have hx6 := (hb6.block _ (heap_lt HX5B.out)).trans HX5B.out
            have hg6 := (hb6.block _ (heap_lt HG5.out)).trans HG5.out
            have x4 : w6.cell? ⟨wk.heap.size, 4, none⟩ = some (.slice (some ad3) N capy) := cell_of_row hx6 rfl
            have q0' : w6.cell? ⟨w4.heap.size, 0, none⟩ = some (.pointer (some ad3)) := cell_of_row hg6 rfl
            have q1' : w6.cell? ⟨w4.heap.size, 1, none⟩ = some (.int .i64 N) := cell_of_row hg6 rfl
            have HX6 := Lib.hid hX6
            have HX6B := Lib.hid hx6
            clear hX6 hx6 hg6 hb6 q0 q1 hlk
            cases b with
            | true =>
              go_wp2_with fail
              go_roundw
              case rel => exact ⟨p + 1, by omega, by go_num, lv2, us2, HX6.out.more (by have := HPL.out; omega)⟩
              case measure => simp [intOf]; omega
            | false =>
              obtain ⟨w7, hup, hm7, hM7⟩ := row_put HX6.out.map (Nat.le_refl _) (HKEY.out.keep (w' := w6) (fun k hk => HX6.out.below.block k hk))
              go_upto_region 14 with fail
              have hX7 := HX6.out.put HX6.out.below.size (Nat.le_refl _) hm7 hM7
              have hmk : w.heap.size < wk.heap.size := by
                obtain ⟨es, c, hh, _⟩ := HX2.out.map
                exact heap_lt hh
              have hx7 := (hm7.block _ (heap_lt HX6B.out) (by omega)).trans HX6B.out
              have x7 : w7.cell? ⟨wk.heap.size, 4, none⟩ = some (.slice (some ad3) N capy) := cell_of_row hx7 rfl
              have R7 := hX7.row
              have hbud : lv2.length ≤ 8200 := by
                have h1 := hX7.len
                have h2 := hX7.wgt
                have h3 := HPL.out
                have h4 := HWJ.out
                have h5 : (Tm.pres (l.take p)).length ≤ (Tm.pres l).length := by
                  rw [show Tm.pres l = Tm.pres (l.take p) ++ Tm.pres (l.drop p) by rw [← Tm.pres_append, List.take_append_drop]]
                  simp
                omega
              have hs7 : w.heap.size ≤ w7.heap.size := hX7.below.size
              have HX7 := Lib.hid hX7
              obtain ⟨hi, hz0, hz1, hz2⟩ := HI.out
              clear hup x4 q0' q1' hX7 hx7 hm7 hM7
              go_wp2_with (at_builtin; refine wpList_append_at _ rfl _ _ 85 rfl w.heap.size 23 i0 (.slice none 0 0) 1 24 Tryz.underlying85 hi hz0 hz1 hz2 rfl (by decide) _ _ _ rfl (R7.alloc _) ⟨w7.heap.size, 0, none⟩ 1 1 [.slice (some ad3) N capy] rfl (by decide) rfl ?c1 ?c2 ?c3 ?c4 ?c5 ?_)
              case c1 =>
                intro j u hu
                exact cell_one_new _ _ _ j u hu
              case c2 => simp [Value.oneCell']
              case c3 => unfold maxLen; omega
              case c4 => omega
              case c5 => simp; omega
              intro g9 cap9 w9 R9 grow9 hwh
              have hN9 : Nxt w.heap.size w w.heap.size w9 (.slice (some ⟨g9, 0, none⟩) (lv2.length + 1) cap9) (q0 + (Tm.pres (l.take (p + 1))).length) (lv2 ++ [ly]) (us2 ++ [.slice (some ad3) N capy]) := by
                have hal : Below w7.heap.size w7 (w7.alloc (.cells #[.slice (some ad3) N capy] 23)) := (Below.refl _ _).alloc (Nat.le_refl _) _
                have hsz : (w7.alloc (.cells #[.slice (some ad3) N capy] 23)).heap.size = w7.heap.size + 1 := World.size_alloc _ _
                obtain ⟨es, c, hm, _⟩ := HX7.out.map
                have hlt := heap_lt hm
                have hblk : ∀ k, k < w7.heap.size → (∀ q, u3.ownBlock = some q → k ≠ q) → w9.heap[k]? = w7.heap[k]? := fun k hk hq => (grow9.block k (by omega) (fun e => hq k e.symm rfl)).trans (hal.block k hk)
                have hlow : ∀ k, k < w.heap.size → w9.heap[k]? = w7.heap[k]? := fun k hk => hblk k (by omega) (fun q hq => by have := (HX7.out.block q hq).2.2; omega)
                have hul : us2.length = lv2.length := by have := R7.1; omega
                refine ⟨by simpa using R9, fun j' l' hj' => ?_, ?_, ?_, HX7.out.map.keep hlow (hblk _ hlt (fun q hq e => (HX7.out.block q hq).2.1 e.symm)), ?_⟩
                · rw [List.getElem?_append] at hj'
                  split at hj'
                  · rename_i hlt'
                    obtain ⟨u', hu', hr'⟩ := HX7.out.each j' l' hj'
                    exact ⟨u', by rw [List.getElem?_append_left (by omega)]; exact hu', hr'⟩
                  · have hjj : j' = lv2.length := by
                      have := (List.getElem?_eq_some_iff.1 hj').1
                      simp at this; omega
                    subst hjj
                    simp at hj'
                    subst hj'
                    refine ⟨.slice (some ad3) N capy, by rw [← hul]; simp, some ad3, capy, by rw [HNL.out], HRY.out, fun ad' j' x' v' hA' hj' hE' => ?_⟩
                    exact HFY.out.part ad' j' x' v' hA' hj' hE'
                · rw [wt_snoc]; have h1 := HX7.out.wgt; have h2 := HPL.out; omega
                · rw [wt_snoc, List.length_append]; have h1 := HX7.out.len; have h2 := pres_pos hN1 HNL.out; simp; omega
                · exact (HX7.out.below.trans (hal.mono hs7)).grown grow9 (by omega) (fun g hg => (HX7.out.block g hg).2.2)
              have HN9 := Lib.hid hN9
              clear hN9 grow9 hwh R9 R7 x7
              go_wp2_with fail
              go_roundw
              case rel => exact ⟨p + 1, by omega, by go_num, lv2 ++ [ly], us2 ++ [.slice (some ad3) N capy], HN9⟩
              case measure => simp [intOf]; omega
        · obtain rfl : p = l.length := by omega
          go_wp2_with fail
          go_roundw
          case rel => exact ⟨j + 1, by omega, by go_num, lv2, us2, HX2.out.more (by have := HWJ.out; rw [List.take_length]; omega)⟩
          case measure => simp [intOf]; omega
    · obtain rfl : j = lv.length := by omega
      go_wp2_with fail
      go_ret
      have h1 := HX.out.len
      have h2 := HX.out.wgt
      rw [List.take_length] at h2
      exact ⟨_, lv', rfl, HX.out.lvl, by omega, by omega, HX.out.below⟩
end Go.Proofs.YtcallgoglnkkiaaGreatDoor
