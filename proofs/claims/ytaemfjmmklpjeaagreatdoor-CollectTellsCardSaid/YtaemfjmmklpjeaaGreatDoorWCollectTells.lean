/- pleachlaw05.CollectTells: the walk. -/
import Derived.Test.YtaemfjmmklpjeaaGreatDoorWCollectKeeps
import Derived.Test.YtaemfjmmklpjeaaGreatDoorSamR
import Derived.Test.YtaemfjmmklpjeaaGreatDoorOpen5
set_option linter.unusedVariables false
namespace Go
theorem quiet_any {P : Program} {C : World → Prop} {Q : Exit → Act → World → Prop} {a : Act} {w : World} {l : List Oper} (hB : Region.lexB .any l.toArray = true) (hC : C w) (h : wpQuiet P l.toArray C (fun a' => ∀ w', C w' → Q .normal a' w') l a) :
    wpAny P .any l.toArray Q l.toArray.size (Array.replicate l.toArray.size false) a w := by
  simp only [Region.lexB, Bool.and_eq_true] at hB
  refine wpAny_of_quiet (Q := fun a' => ∀ w', C w' → Q .normal a' w') (fun _ w' hw' h => h w' hw') _ _ _ _ hC ?_
  have := wpAnyQ_lex (C := C) (md := .any) hB.1 l 0 (Array.replicate l.toArray.size false) a (by simp) (by simpa using hB.2) h
  simpa using this
end Go
namespace Go.Proofs.YtaemfjmmklpjeaaGreatDoor
open Go.RowKit

theorem region_quiet_in {l n : Nat} {P : Program} {id : Nat} {ops : List Oper} {Q : Exit → Act → World → Prop} {C : World → Prop} {a : Act} {w : World} (hq : ¬ LetsOut Q) (hd : ops.toArray.all noDefer = true) (hm : P.follows .mixedOrders = true) (hB : Region.lexB .any ops.toArray = true) (hC : C w.drew)
    (h : wpQuiet P ops.toArray C (fun a' => ∀ w', C w' → Q .normal a' w') ops a) : (Code.region id ops.toArray true).wpIn (Fence.wide.inRound l) n P Q a w := region_in hq hd hm (quiet_any hB hC h)
theorem word5_fix {P : Nat → Prop} {w : World} {q : AW} {v : Value} (h : AWAt P w q v) : ∃ u, (∀ V : World, Calls Tryz.prog 18 #[v] V fun e V' => e = .returned u ∧ Below V.heap.size V V') ∧ AWAt P w (wordOf q) u := by
  obtain ⟨k, n, s, t, A, l, cap, hx, rfl, hT⟩ := aw_cells h
  unfold wordOf
  cases hc : q.c with
  | true => exact ⟨_, fun V => word5_cell _ _ _ _ _ _ _ _ V, 0, 0, _, _, none, 0, 0, rfl, iW_at _ _⟩
  | false => exact ⟨_, fun V => word5_leaf _ _ _ _ _ _ _ _ V, k, n, s, t, A, l.length, cap, rfl, by rw [if_neg (by decide), hx]; exact hT⟩
theorem went_map {cs : List HC} {R : List AW} (hall : allMay cs.length R = true) : R.map (mvA (reachL cs (rootsOf R))) = (wentW cs R).map awOf := by
  unfold wentW
  rw [List.map_map]
  refine List.map_congr_left fun q hq => ?_
  exact mvA_awOf (List.all_eq_true.1 hall q hq)
theorem eql_nil5' (p : Nat) (w : World) : Sem.run Tryz.prog (binOp BinOp.eql 55 (.func (.func 66) #[] #[.pointer (some ⟨p + 2, 0, none⟩), .pointer (some ⟨p + 1, 0, none⟩)]) .nilFunc) w = .ok (.bool false) w := by kernel_rfl
structure TlI (W0 : World) (bn k : Nat) (A : World) : Prop where
  size : W0.heap.size + 2 ≤ A.heap.size
  lo : ∀ j, j < W0.heap.size → j ≠ bn → A.heap[j]? = W0.heap[j]?
  nb : A.heap[bn]? = some (.cells #[.int .i64 (k : Int)] 3 (0, 0))
  os : A.os = W0.os ∧ A.tape = W0.tape ∧ A.output = W0.output
theorem TlI.keep {W0 A C : World} {bn k : Nat} {F : Nat → Prop} (h : TlI W0 bn k A) (hbn : bn < W0.heap.size) (hm : Mod F A C) (hF : ∀ j, j < A.heap.size → F j → W0.heap.size ≤ j) : TlI W0 bn k C :=
  ⟨Nat.le_trans h.size hm.size, fun j hj hne => (hm.block j (by have := h.size; omega) (fun hf => by have := hF j (by have := h.size; omega) hf; omega)).trans (h.lo j hj hne),
    (hm.block bn (heap_lt h.nb) (fun hf => by have := hF bn (heap_lt h.nb) hf; omega)).trans h.nb, ⟨hm.os.trans h.os.1, hm.tape.trans h.os.2.1, hm.output.trans h.os.2.2⟩⟩
theorem TlI.below {W0 A U : World} {bn k : Nat} (h : TlI W0 bn k A) (hb : Below U.heap.size U W0) (hle : U.heap.size ≤ bn) : Below U.heap.size U A :=
  ⟨h.os.1.trans hb.os, h.os.2.1.trans hb.tape, h.os.2.2.trans hb.output, Nat.le_trans hb.size (by have := h.size; omega), fun j hj => (h.lo j (Nat.lt_of_lt_of_le hj hb.size) (by omega)).trans (hb.block j hj)⟩
theorem told_at {N : Nat} {pre : List CI} {x : CI} (h : ∃ k, (pre ++ [x]).map (·.1) = (List.range N).take k) : x.1 = pre.length ∧ pre.length < N := by
  obtain ⟨k, hk⟩ := h
  have h1 : ((List.range N).take k)[pre.length]? = some x.1 := by rw [← hk, List.map_append, List.getElem?_append_right (by simp)]; simp
  rw [List.getElem?_take] at h1
  split at h1
  · rw [List.getElem?_range] at h1
    · have h2 := Option.some.inj h1
      exact ⟨h2.symm, by
        have := congrArg List.length hk
        simp at this
        omega⟩
    · have := congrArg List.length hk
      simp at this
      omega
  · cases h1
def onlyN (Q : Exit → Act → World → Prop) : Exit → Act → World → Prop
  | .normal, a, w => Q .normal a w
  | _, _, _ => False
theorem only_n {Q : Exit → Act → World → Prop} : ∀ e a w, onlyN Q e a w → Q e a w := fun e a w h => by cases e <;> first | exact h | exact h.elim
theorem with_act {P : Program} {c : Code} {Q : Exit → Act → World → Prop} {a : Act} {w : World} (h : ∀ T, T = a.tmps → c.wp P Q ⟨T, a.defers⟩ w) : c.wp P Q a w := h _ rfl

attribute [local go_sem] Oper.semAt_some
set_option maxRecDepth 100000 in
set_option maxHeartbeats 16000000 in
theorem walk_CollectTells (v0 v1 v2 v3 : Value) (a4 : Int) (w4 : (Lit.int .i64 a4).wf = true) (w : World) (o0 : ∃ A n cap l, v0 = .slice A n cap ∧ MRow w.heap.size w A n cap l) (o1 : ∃ A n cap L, v1 = .slice A n cap ∧ WRow (· < w.heap.size) w A n cap L ∧ n ≤ 140737488351232) (o2 : ∃ q, WordIs w q v2) (o3 : ∃ q, WordIs w q v3) (hS : Spans w) :
    Calls Tryz.prog 3 #[v0, v1, v2, v3, .int .i64 a4] w fun e w' => e = .returned (.bool true) ∧ Below w.heap.size w w' := by
  obtain ⟨A, n, cap, l, rfl, hl⟩ := o0
  obtain ⟨B, m, bcap, R, rfl, hR, hRm⟩ := o1
  obtain ⟨qx, xk, xn, xs, xt, xl, xA, xcap, hxx, rfl, hxT, -⟩ := o2
  obtain ⟨qy, yk, yn, ys, yt, yl, yA, ycap, hyy, rfl, hyT, -⟩ := o3
  obtain rfl := hR.len
  obtain rfl := hl.len
  have hax : AWAt (· < w.heap.size) w qx (.agg #[.bool qx.c, .int .i64 qx.a, .int .i8 xk, .int .i64 xn, .string xs, .string xt, .slice xA xl.length xcap]) := ⟨xk, xn, xs, xt, xA, xl.length, xcap, rfl, by rw [hxx]; exact hxT⟩
  have hay : AWAt (· < w.heap.size) w qy (.agg #[.bool qy.c, .int .i64 qy.a, .int .i8 yk, .int .i64 yn, .string ys, .string yt, .slice yA yl.length ycap]) := ⟨yk, yn, ys, yt, yA, yl.length, ycap, rfl, by rw [hyy]; exact hyT⟩
  obtain ⟨ux, hux, hax2⟩ := word5_fix hax
  obtain ⟨uy, huy, hay2⟩ := word5_fix hay
  obtain ⟨xc, hxc⟩ : ∃ b, b = qx.c := ⟨_, rfl⟩
  obtain ⟨xa, hxa⟩ : ∃ b, b = qx.a := ⟨_, rfl⟩
  obtain ⟨yc, hyc⟩ : ∃ b, b = qy.c := ⟨_, rfl⟩
  obtain ⟨ya, hya⟩ : ∃ b, b = qy.a := ⟨_, rfl⟩
  rw [← hxc, ← hxa] at hux ⊢
  rw [← hyc, ← hya] at huy ⊢
  have HL := Lib.hid hl
  have HR := Lib.hid hR
  have HS := Lib.hid hS
  have HUX := Lib.hid (And.intro hux hax2)
  have HUY := Lib.hid (And.intro huy hay2)
  have HXT := Lib.hid hxT
  have HYT := Lib.hid hyT
  have HRM := Lib.hid hRm
  clear hl hR hS hux hax2 huy hay2 hxT hyT hRm hax hay hxx hyy hxc hxa hyc hya
  obtain ⟨wx, hwx⟩ : ∃ W, W = w.alloc (.cells #[.bool xc, .int .i64 xa, .int .i8 xk, .int .i64 xn, .string xs, .string xt, .slice xA xl.length xcap] 29) := ⟨_, rfl⟩
  obtain ⟨wy, hwy⟩ : ∃ W, W = wx.alloc (.cells #[.bool yc, .int .i64 ya, .int .i8 yk, .int .i64 yn, .string ys, .string yt, .slice yA yl.length ycap] 29) := ⟨_, rfl⟩
  obtain ⟨wl, hwl⟩ : ∃ W, W = wy.alloc (.cells #[.int .i64 a4] 3) := ⟨_, rfl⟩
  obtain ⟨w1, hw1⟩ : ∃ W, W = wl.alloc (.cells #[.bool false] 4) := ⟨_, rfl⟩
  have sx : wx.heap.size = w.heap.size + 1 := by rw [hwx]; exact World.size_alloc _ _
  have sy : wy.heap.size = w.heap.size + 1 + 1 := by rw [hwy, World.size_alloc, sx]
  have sl : wl.heap.size = w.heap.size + 1 + 1 + 1 := by rw [hwl, World.size_alloc, sy]
  have bx : Below w.heap.size w wx := by rw [hwx]; exact (Below.refl _ _).alloc (Nat.le_refl _) _
  have by_ : Below wx.heap.size wx wy := by rw [hwy]; exact (Below.refl _ _).alloc (Nat.le_refl _) _
  have bl : Below wy.heap.size wy wl := by rw [hwl]; exact (Below.refl _ _).alloc (Nat.le_refl _) _
  have br : Below wl.heap.size wl w1 := by rw [hw1]; exact (Below.refl _ _).alloc (Nat.le_refl _) _
  have gx : w1.heap[w.heap.size]? = some (.cells #[.bool xc, .int .i64 xa, .int .i8 xk, .int .i64 xn, .string xs, .string xt, .slice xA xl.length xcap] 29 (0, 0)) := (br.block _ (by omega)).trans ((bl.block _ (by omega)).trans ((by_.block _ (by omega)).trans (by rw [hwx]; exact block_alloc _ _)))
  have gy : w1.heap[w.heap.size + 1]? = some (.cells #[.bool yc, .int .i64 ya, .int .i8 yk, .int .i64 yn, .string ys, .string yt, .slice yA yl.length ycap] 29 (0, 0)) := (br.block _ (by omega)).trans ((bl.block _ (by omega)).trans (by rw [hwy, ← sx]; exact block_alloc _ _))
  have gl : w1.heap[w.heap.size + 1 + 1]? = some (.cells #[.int .i64 a4] 3 (0, 0)) := (br.block _ (by omega)).trans (by rw [hwl, ← sy]; exact block_alloc _ _)
  have gr : w1.heap[w.heap.size + 1 + 1 + 1]? = some (.cells #[.bool false] 4 (0, 0)) := by rw [hw1, ← sl]; exact block_alloc _ _
  have b1 : Below w.heap.size w w1 := bx.trans ((by_.mono (by omega)).trans ((bl.mono (by omega)).trans (br.mono (by omega))))
  obtain ⟨B0, hB0⟩ : ∃ b, b = w.heap.size := ⟨_, rfl⟩
  obtain ⟨B1, hB1⟩ : ∃ b, b = w.heap.size + 1 := ⟨_, rfl⟩
  obtain ⟨B2, hB2⟩ : ∃ b, b = w.heap.size + 1 + 1 := ⟨_, rfl⟩
  obtain ⟨B3, hB3⟩ : ∃ b, b = w.heap.size + 1 + 1 + 1 := ⟨_, rfl⟩
  rw [← hB0] at gx
  rw [← hB1] at gy
  rw [← hB2] at gl
  rw [← hB3] at gr
  have G1 := Lib.hid (And.intro gx (And.intro gy (And.intro gl gr)))
  have HB1 := Lib.hid b1
  have HBK := Lib.hid (And.intro hB0 (And.intro hB1 (And.intro hB2 hB3)))
  refine (callsIn_wide (n := 6)).1 ?_
  refine callsIn_of_wp_marks Tryz.func3 rfl trivial ?_ rfl
  refine wpIn_wide.2 ?_
  simp only [Tryz.ntmps3, List.size_toArray, List.length_cons, List.length_nil, Nat.reduceAdd, Nat.reduceSub, Array.replicate_succ, Array.replicate_zero, List.push_toArray, List.append_toArray, List.nil_append, List.cons_append]
  go_upto_region 1 with fail
  rw [← hwx, ← hwy, ← hwl, ← hw1]
  rw [← hB3, ← hB2, ← hB1, ← hB0]
  clear hwx hwy hwl hw1 sx sy sl bx by_ bl br gx gy gl gr b1 hB0 hB1 hB2 hB3
  have HG1 := Lib.hid (great5_any A B l.length cap R.length bcap l R w1 (HL.out.later HB1.out) (HR.out.later HB1.out) HRM.out)
  go_wp2_with fail
  refine HG1.out.mono ?_
  rintro e Wa ⟨b1, rfl, hs1, bwa⟩
  have HBa := Lib.hid bwa
  have HS1 := Lib.hid hs1
  clear hs1 bwa HG1
  cases b1 with
  | true =>
    go_wp2_with fail
    refine (wakes5_ok Wa (HS.out.below (HB1.out.trans (HBa.out.mono HB1.out.size)) HS.out.lt)).mono ?_
    rintro e We ⟨rfl, bwe⟩
    have hge := ((HBa.out.trans (bwe.mono HBa.out.size)).block _ (heap_lt G1.out.2.2.2)).trans G1.out.2.2.2
    have y0 : We.cell? ⟨B3, 0, none⟩ = some (.bool false) := cell_of_row hge rfl
    have yf0 : We.frozen? ⟨B3, 0, none⟩ = false := free_of_row hge
    have h4 : (We.setCell ⟨B3, 0, none⟩ (.bool true)).cell? ⟨B3, 0, none⟩ = some (.bool true) := cell_of_row (set_row (.bool true) hge) rfl
    have HBE : Hid (Below w.heap.size w (We.setCell ⟨B3, 0, none⟩ (.bool true))) := ((HB1.out.trans (HBa.out.mono HB1.out.size)).trans (bwe.mono (HB1.out.trans (HBa.out.mono HB1.out.size)).size)).setCell (by have := HBK.out; show w.heap.size ≤ B3; omega) _
    clear bwe hge
    go_wp2_with fail
    exact ⟨.bool true, by simp [results, Tryz.f3, go_sem, h4], rfl, HBE.out⟩
  | false =>
  have hs1 := HS1.out rfl
  have hN : R.length < 400 := by have := hs1.1; omega
  have HA := Lib.hid hs1.2
  have HN := Lib.hid hN
  have HGX := Lib.hid (Great_any (.mk xk xn xs xt xl) _ Wa (HXT.out.later (HB1.out.trans (HBa.out.mono HB1.out.size))))
  clear hs1 hN HS1
  have p2 : Wa.cell? ⟨B0, 2, none⟩ = some (.int .i8 xk) := below_cell HBa.out (cell_of_row (i := 2) G1.out.1 rfl)
  have p3 : Wa.cell? ⟨B0, 3, none⟩ = some (.int .i64 xn) := below_cell HBa.out (cell_of_row (i := 3) G1.out.1 rfl)
  have p4 : Wa.cell? ⟨B0, 4, none⟩ = some (.string xs) := below_cell HBa.out (cell_of_row (i := 4) G1.out.1 rfl)
  have p5 : Wa.cell? ⟨B0, 5, none⟩ = some (.string xt) := below_cell HBa.out (cell_of_row (i := 5) G1.out.1 rfl)
  have p6 : Wa.cell? ⟨B0, 6, none⟩ = some (.slice xA xl.length xcap) := below_cell HBa.out (cell_of_row (i := 6) G1.out.1 rfl)
  go_wp2_with fail
  refine HGX.out.mono ?_
  rintro e Wb ⟨b1, rfl, -, bwb⟩
  have HBb := Lib.hid (HBa.out.trans (bwb.mono HBa.out.size))
  clear bwb HGX p2 p3 p4 p5 p6
  cases b1 with
  | true =>
    go_wp2_with fail
    refine (wakes5_ok Wb (HS.out.below (HB1.out.trans (HBb.out.mono HB1.out.size)) HS.out.lt)).mono ?_
    rintro e We ⟨rfl, bwe⟩
    have hge := ((HBb.out.trans (bwe.mono HBb.out.size)).block _ (heap_lt G1.out.2.2.2)).trans G1.out.2.2.2
    have y0 : We.cell? ⟨B3, 0, none⟩ = some (.bool false) := cell_of_row hge rfl
    have yf0 : We.frozen? ⟨B3, 0, none⟩ = false := free_of_row hge
    have h4 : (We.setCell ⟨B3, 0, none⟩ (.bool true)).cell? ⟨B3, 0, none⟩ = some (.bool true) := cell_of_row (set_row (.bool true) hge) rfl
    have HBE : Hid (Below w.heap.size w (We.setCell ⟨B3, 0, none⟩ (.bool true))) := ((HB1.out.trans (HBb.out.mono HB1.out.size)).trans (bwe.mono (HB1.out.trans (HBb.out.mono HB1.out.size)).size)).setCell (by have := HBK.out; show w.heap.size ≤ B3; omega) _
    clear bwe hge
    go_wp2_with fail
    exact ⟨.bool true, by simp [results, Tryz.f3, go_sem, h4], rfl, HBE.out⟩
  | false =>
  have HGY := Lib.hid (Great_any (.mk yk yn ys yt yl) _ Wb (HYT.out.later (HB1.out.trans (HBb.out.mono HB1.out.size))))
  have p2 : Wb.cell? ⟨B1, 2, none⟩ = some (.int .i8 yk) := below_cell HBb.out (cell_of_row (i := 2) G1.out.2.1 rfl)
  have p3 : Wb.cell? ⟨B1, 3, none⟩ = some (.int .i64 yn) := below_cell HBb.out (cell_of_row (i := 3) G1.out.2.1 rfl)
  have p4 : Wb.cell? ⟨B1, 4, none⟩ = some (.string ys) := below_cell HBb.out (cell_of_row (i := 4) G1.out.2.1 rfl)
  have p5 : Wb.cell? ⟨B1, 5, none⟩ = some (.string yt) := below_cell HBb.out (cell_of_row (i := 5) G1.out.2.1 rfl)
  have p6 : Wb.cell? ⟨B1, 6, none⟩ = some (.slice yA yl.length ycap) := below_cell HBb.out (cell_of_row (i := 6) G1.out.2.1 rfl)
  go_wp2_with fail
  refine HGY.out.mono ?_
  rintro e Wc ⟨b1, rfl, -, bwc⟩
  have HBc := Lib.hid (HBb.out.trans (bwc.mono HBb.out.size))
  clear bwc HGY p2 p3 p4 p5 p6
  cases b1 with
  | true =>
    go_wp2_with fail
    refine (wakes5_ok Wc (HS.out.below (HB1.out.trans (HBc.out.mono HB1.out.size)) HS.out.lt)).mono ?_
    rintro e We ⟨rfl, bwe⟩
    have hge := ((HBc.out.trans (bwe.mono HBc.out.size)).block _ (heap_lt G1.out.2.2.2)).trans G1.out.2.2.2
    have y0 : We.cell? ⟨B3, 0, none⟩ = some (.bool false) := cell_of_row hge rfl
    have yf0 : We.frozen? ⟨B3, 0, none⟩ = false := free_of_row hge
    have h4 : (We.setCell ⟨B3, 0, none⟩ (.bool true)).cell? ⟨B3, 0, none⟩ = some (.bool true) := cell_of_row (set_row (.bool true) hge) rfl
    have HBE : Hid (Below w.heap.size w (We.setCell ⟨B3, 0, none⟩ (.bool true))) := ((HB1.out.trans (HBc.out.mono HB1.out.size)).trans (bwe.mono (HB1.out.trans (HBc.out.mono HB1.out.size)).size)).setCell (by have := HBK.out; show w.heap.size ≤ B3; omega) _
    clear bwe hge
    go_wp2_with fail
    exact ⟨.bool true, by simp [results, Tryz.f3, go_sem, h4], rfl, HBE.out⟩
  | false =>
  have hbwc : Below w.heap.size w Wc := (HB1.out.trans (HBc.out.mono HB1.out.size))
  have HBWc := Lib.hid hbwc
  clear hbwc
  go_wp2_with fail
  refine (both_any A l.length cap l Wc (HL.out.later HBWc.out) HA.out (HS.out.below HBWc.out HS.out.lt)).mono ?_
  rintro e W2 ⟨rb, s, CS, G, rfl, ht, hcs, bw2⟩
  have HB2 := Lib.hid (HBc.out.trans (bw2.mono HBc.out.size))
  have HH2 := Lib.hid ht.hat
  have HT2 := Lib.hid ht.rat
  have HOK := Lib.hid ht.ok
  obtain ⟨base, hbase⟩ : ∃ base, base = Wc.heap.size := ⟨_, rfl⟩
  rw [← hbase] at HH2 HT2 ⊢
  clear ht hcs bw2 hbase
  have HBW2 : Hid (Below w.heap.size w W2) := (HB1.out.trans (HB2.out.mono HB1.out.size))
  go_wp2_with fail
  refine (words5_any (· < W2.heap.size) B R.length bcap R W2 (HR.out.later HBW2.out) (fun _ h => h) (by have := HN.out; omega)).mono ?_
  rintro e W3 ⟨A3, cap3, rfl, hr3, bw3⟩
  have HR3 : Hid (WRow (· < W3.heap.size) W3 A3 R.length cap3 (R.map wordOf)) := hr3.keep (fun _ _ => rfl) (fun b hb => hb.elim (fun h => Nat.lt_of_lt_of_le h bw3.size) (fun h => h.2))
  have HB3 := Lib.hid (HB2.out.trans (bw3.mono HB2.out.size))
  have HB23 := Lib.hid bw3
  clear hr3 bw3
  have hml : (R.map wordOf).length = R.length := List.length_map _
  have HML := Lib.hid hml
  clear hml
  go_wp2_with fail
  refine (Run_ans HOK.out.good W3 (HH2.out.under HB23.out) (R.map wordOf) A3 R.length cap3 HML.out HR3.out (HS.out.below (HB1.out.trans (HB3.out.mono HB1.out.size)) HS.out.lt) (by have := HN.out; omega)).mono ?_
  rintro e W4 ⟨bw4, hrun⟩
  have HB4 := Lib.hid (HB3.out.trans (bw4.mono HB3.out.size))
  have HB24 := Lib.hid (HB23.out.trans (bw4.mono HB23.out.size))
  clear bw4 HR3
  have HBW4 : Hid (Below w.heap.size w W4) := (HB1.out.trans (HB4.out.mono HB1.out.size))
  obtain ⟨op, Ar, nr, E, rfl, hE⟩ : ∃ (op : Option Addr) (Ar : Option Addr) (nr : Nat) (E : Int), e = .returned (.tuple #[.pointer op, .slice Ar nr nr, .int .i64 E]) ∧
      ((allMay s.cs.length (R.map wordOf) = true ∧ E = 0 ∧ nr = R.length ∧ ∃ (so : HSt) (ho g : Nat), op = some ⟨ho, 0, none⟩ ∧ Ar = some ⟨g, 0, none⟩ ∧ so.cs = colC s.cs (reachL s.cs (rootsOf (R.map wordOf))) ∧ HOk so ∧ so.At W3.heap.size W4 ho ∧ g < W4.heap.size ∧ WordsIn W4 g (wentW s.cs (R.map wordOf))) ∨
       (allMay s.cs.length (R.map wordOf) = false ∧ E = 2 ∧ op = none ∧ Ar = none ∧ nr = 0)) := by
    rcases hrun with ⟨h1, so, ho, g, h2, h3, h4, h5, h6, rfl⟩ | ⟨h1, rfl⟩
    · exact ⟨_, _, _, _, rfl, .inl ⟨h1, rfl, rfl, so, ho, g, rfl, rfl, h2, h3, h4, h5, h6⟩⟩
    · exact ⟨_, _, _, _, rfl, .inr ⟨h1, rfl, rfl, rfl, rfl⟩⟩
  have HE := Lib.hid hE
  clear hrun hE
  go_wp2_with fail
  refine (words5_any (· < W4.heap.size) B R.length bcap R W4 (HR.out.later HBW4.out) (fun _ h => h) (by have := HN.out; omega)).mono ?_
  rintro e W5 ⟨A5, cap5, rfl, hr5, bw5⟩
  have HR5 : Hid (WRow (· < W5.heap.size) W5 A5 R.length cap5 (R.map wordOf)) := hr5.keep (fun _ _ => rfl) (fun b hb => hb.elim (fun h => Nat.lt_of_lt_of_le h bw5.size) (fun h => h.2))
  have HB5 := Lib.hid (HB4.out.trans (bw5.mono HB4.out.size))
  have HB25 := Lib.hid (HB24.out.trans (bw5.mono HB24.out.size))
  have HB45 := Lib.hid bw5
  clear hr5 bw5
  go_wp2_with fail
  refine (rRun_any HOK.out.good (R.map wordOf) A5 R.length cap5 W5 (HT2.out.under HB25.out) HML.out HR5.out (by have := HN.out; omega)).mono ?_
  rintro e W6 ⟨bw6, hrun⟩
  have HB6 := Lib.hid (HB5.out.trans (bw6.mono HB5.out.size))
  have HB26 := Lib.hid (HB25.out.trans (bw6.mono HB25.out.size))
  have HB46 := Lib.hid (HB45.out.trans (bw6.mono HB45.out.size))
  clear bw6 HR5
  have HBW6 : Hid (Below w.heap.size w W6) := (HB1.out.trans (HB6.out.mono HB1.out.size))
  obtain ⟨pp, Br, mr, mc, F, rfl, hF⟩ : ∃ (pp : Option Addr) (Br : Option Addr) (mr mc : Nat) (F : Int), e = .returned (.tuple #[.pointer pp, .slice Br mr mc, .int .i64 F]) ∧
      ((allMay s.cs.length (R.map wordOf) = true ∧ F = 0 ∧ mr = R.length ∧ ∃ (po : Nat) (PCS : Value) (PG : Nat → Prop), pp = some ⟨po, 0, none⟩ ∧ RAt W5.heap.size W6 po (colC s.cs (reachL s.cs (rootsOf (R.map wordOf)))) PCS PG ∧ WRow (· < W6.heap.size) W6 Br R.length mc ((R.map wordOf).map (mvA (reachL s.cs (rootsOf (R.map wordOf)))))) ∨
       (allMay s.cs.length (R.map wordOf) = false ∧ F = 2 ∧ pp = none ∧ Br = none ∧ mr = 0 ∧ mc = 0)) := by
    rcases hrun with ⟨h1, po, PCS, PG, Bq, bcq, h2, h3, rfl⟩ | ⟨h1, rfl⟩
    · exact ⟨_, _, _, _, _, rfl, .inl ⟨h1, rfl, rfl, po, PCS, PG, rfl, h2, h3⟩⟩
    · exact ⟨_, _, _, _, _, rfl, .inr ⟨h1, rfl, rfl, rfl, rfl, rfl⟩⟩
  have HF := Lib.hid hF
  clear hrun hF
  have z0 : (W6.alloc (.cells #[.pointer none] 34)).cell? ⟨W6.heap.size, 0, none⟩ = some (.pointer none) := cell_of_row (block_alloc _ _) rfl
  have zf0 : (W6.alloc (.cells #[.pointer none] 34)).frozen? ⟨W6.heap.size, 0, none⟩ = false := free_of_row (block_alloc _ _)
  go_upto_region 8 with fail
  have b7 : Below W6.heap.size W6 (W6.alloc (.cells #[.pointer pp] 34)) := (Below.refl _ _).alloc (Nat.le_refl _) _
  have g7 := block_alloc W6 (.cells #[.pointer pp] 34)
  obtain ⟨BP, hBP⟩ : ∃ b, b = W6.heap.size := ⟨_, rfl⟩
  rw [← hBP] at g7 ⊢
  generalize W6.alloc (.cells #[.pointer pp] 34) = W7 at b7 g7 ⊢
  have HB7 := Lib.hid (HB6.out.trans (b7.mono HB6.out.size))
  have HB27 := Lib.hid (HB26.out.trans (b7.mono HB26.out.size))
  have HB47 := Lib.hid (HB46.out.trans (b7.mono HB46.out.size))
  have HB67 := Lib.hid b7
  have G7 := Lib.hid g7
  have HBP : Hid (W6.heap.size ≤ BP) := by exact (by omega : W6.heap.size ≤ BP)
  clear z0 zf0 b7 g7 hBP
  have HBW7 : Hid (Below w.heap.size w W7) := (HB1.out.trans (HB7.out.mono HB1.out.size))
  go_wp2_with fail
  refine (words5_any (· < W7.heap.size) B R.length bcap R W7 (HR.out.later HBW7.out) (fun _ h => h) (by have := HN.out; omega)).mono ?_
  rintro e W8 ⟨A8, cap8, rfl, hr8, bw8⟩
  have HR8 : Hid (WRow (· < W8.heap.size) W8 A8 R.length cap8 (R.map wordOf)) := hr8.keep (fun _ _ => rfl) (fun b hb => hb.elim (fun h => Nat.lt_of_lt_of_le h bw8.size) (fun h => h.2))
  have HB8 := Lib.hid (HB7.out.trans (bw8.mono HB7.out.size))
  have HB28 := Lib.hid (HB27.out.trans (bw8.mono HB27.out.size))
  have HB78 := Lib.hid bw8
  clear hr8 bw8
  have HRA := Lib.hid (Reached_any HOK.out.good W8 (HH2.out.under HB28.out) (R.map wordOf) A8 cap8 cap8 (by rw [HML.out]; exact HR8.out) (HS.out.below (HB1.out.trans (HB8.out.mono HB1.out.size)) HS.out.lt) (by rw [HML.out]; have := HN.out; omega))
  rw [HML.out] at HRA
  go_wp2_with fail
  refine HRA.out.mono ?_
  rintro e W9 ⟨bw9, hru⟩
  have HB9 := Lib.hid (HB8.out.trans (bw9.mono HB8.out.size))
  have HB29 := Lib.hid (HB28.out.trans (bw9.mono HB28.out.size))
  have HB79 := Lib.hid (HB78.out.trans (bw9.mono HB78.out.size))
  clear bw9 HRA HR8
  have HBW9 : Hid (Below w.heap.size w W9) := (HB1.out.trans (HB9.out.mono HB1.out.size))
  obtain ⟨PL, hPL⟩ : ∃ PL, PL = reachL s.cs (rootsOf (R.map wordOf)) := ⟨_, rfl⟩
  obtain ⟨Au, nu, cu, E2, rfl, hU⟩ : ∃ (Au : Option Addr) (nu cu : Nat) (E2 : Int), e = .returned (.tuple #[.slice Au nu cu, .int .i64 E2]) ∧ ((allMay s.cs.length (R.map wordOf) = true ∧ E2 = 0 ∧ nu = PL.length ∧ PRow W9 Au cu PL) ∨ (allMay s.cs.length (R.map wordOf) = false ∧ E2 = 2 ∧ Au = none ∧ nu = 0 ∧ cu = 0)) := by
    rcases hru with ⟨h1, v, rfl, hv⟩ | ⟨h1, rfl⟩
    · rw [← hPL] at hv
      obtain ⟨A1, c1, rfl, hp, -⟩ := PRow.of_own hv
      exact ⟨_, _, _, _, rfl, .inl ⟨h1, rfl, rfl, hp⟩⟩
    · exact ⟨_, _, _, _, rfl, .inr ⟨h1, rfl, rfl, rfl, rfl⟩⟩
  have HU := Lib.hid hU
  have HPL := Lib.hid hPL
  clear hru hU hPL
  go_wp2_with fail
  refine (words5_any (· < W9.heap.size) B R.length bcap R W9 (HR.out.later HBW9.out) (fun _ h => h) (by have := HN.out; omega)).mono ?_
  rintro e W10 ⟨A10, cap10, rfl, hr10, bw10⟩
  have HR10 : Hid (WRow (· < W10.heap.size) W10 A10 R.length cap10 (R.map wordOf)) := hr10.keep (fun _ _ => rfl) (fun b hb => hb.elim (fun h => Nat.lt_of_lt_of_le h bw10.size) (fun h => h.2))
  have HB10 := Lib.hid (HB9.out.trans (bw10.mono HB9.out.size))
  have HB210 := Lib.hid (HB29.out.trans (bw10.mono HB29.out.size))
  have HB710 := Lib.hid (HB79.out.trans (bw10.mono HB79.out.size))
  have HB910 := Lib.hid bw10
  clear hr10 bw10
  have HRB := Lib.hid (rReached_any HOK.out.good (R.map wordOf) A10 R.length cap10 W10 (HT2.out.under HB210.out) HML.out HR10.out (by have := HN.out; omega))
  go_wp2_with fail
  refine HRB.out.mono ?_
  rintro e W11 ⟨v11, E3, rfl, hrv, bw11⟩
  have HB11 := Lib.hid (HB10.out.trans (bw11.mono HB10.out.size))
  have HB211 := Lib.hid (HB210.out.trans (bw11.mono HB210.out.size))
  have HB711 := Lib.hid (HB710.out.trans (bw11.mono HB710.out.size))
  have HB911 := Lib.hid (HB910.out.trans (bw11.mono HB910.out.size))
  clear bw11 HRB HR10
  obtain ⟨Av, nv, cv, rfl, hV⟩ : ∃ (Av : Option Addr) (nv cv : Nat), v11 = .slice Av nv cv ∧ ((allMay s.cs.length (R.map wordOf) = true ∧ E3 = 0 ∧ nv = PL.length ∧ PRow W11 Av cv PL) ∨ (allMay s.cs.length (R.map wordOf) = false ∧ E3 = 2 ∧ Av = none ∧ nv = 0 ∧ cv = 0)) := by
    rcases hrv with ⟨h1, h2, hv⟩ | ⟨h1, h2, rfl⟩
    · rw [← HPL.out] at hv
      obtain ⟨A1, c1, rfl, hp, -⟩ := PRow.of_own hv
      exact ⟨_, _, _, rfl, .inl ⟨h1, h2, rfl, hp⟩⟩
    · exact ⟨_, _, _, rfl, .inr ⟨h1, h2, rfl, rfl, rfl⟩⟩
  have HVV := Lib.hid hV
  clear hrv hV
  obtain ⟨sb, hsb⟩ : ∃ b, b = sameT s.cs (wordOf qx) (wordOf qy) := ⟨_, rfl⟩
  have HSA : Hid (∀ V, Below W2.heap.size W2 V → Calls Tryz.prog 17 #[.pointer (some ⟨base, 0, none⟩), ux, .pointer (some ⟨base, 0, none⟩), uy] V fun e V' => e = .returned (.bool sb) ∧ Below V.heap.size V V') := fun V hb => by
    rw [hsb]
    have hbw := HBW2.out.trans (hb.mono HBW2.out.size)
    exact hSame_any HOK.out.good (wordOf qx) (wordOf qy) _ _ V (HH2.out.under hb) (HUX.out.2.keep (fun b hb1 => hbw.block b hb1) (fun b hb1 => Nat.lt_of_lt_of_le hb1 hbw.size)) (HUY.out.2.keep (fun b hb1 => hbw.block b hb1) (fun b hb1 => Nat.lt_of_lt_of_le hb1 hbw.size)) (HS.out.below hbw HS.out.lt)
  have HSB : Hid (∀ V, Below W2.heap.size W2 V → Calls Tryz.prog 19 #[.pointer (some ⟨rb, 0, none⟩), ux, .pointer (some ⟨rb, 0, none⟩), uy] V fun e V' => e = .returned (.bool sb) ∧ Below V.heap.size V V') := fun V hb => by
    rw [hsb]
    have hbw := HBW2.out.trans (hb.mono HBW2.out.size)
    exact rSame_any HOK.out.good (wordOf qx) (wordOf qy) _ _ V (HT2.out.under hb) (HUX.out.2.keep (fun b hb1 => hbw.block b hb1) (fun b hb1 => Nat.lt_of_lt_of_le hb1 hbw.size)) (HUY.out.2.keep (fun b hb1 => hbw.block b hb1) (fun b hb1 => Nat.lt_of_lt_of_le hb1 hbw.size))
  have hbb : (sb != sb) = false := by cases sb <;> rfl
  clear hsb
  cases hall : allMay s.cs.length (R.map wordOf) with
  | false =>
    rcases HE.out with ⟨h, -⟩ | ⟨-, rfl, rfl, rfl, rfl⟩
    · rw [hall] at h; cases h
    rcases HF.out with ⟨h, -⟩ | ⟨-, rfl, rfl, rfl, rfl, rfl⟩
    · rw [hall] at h; cases h
    rcases HU.out with ⟨h, -⟩ | ⟨-, rfl, rfl, rfl, rfl⟩
    · rw [hall] at h; cases h
    rcases HVV.out with ⟨h, -⟩ | ⟨-, rfl, rfl, rfl, rfl⟩
    · rw [hall] at h; cases h
    have HSW := Lib.hid (sameWords_aw [] none none 0 0 0 0 W11 rfl rfl (fun j q h => by simp at h) (by omega))
    have HIN : Hid (∀ V, Below W11.heap.size W11 V → Calls Tryz.prog 16 #[.slice none 0 0, .slice none 0 0] V fun e V' => e = .returned (.bool true) ∧ Below V.heap.size V V') := fun V hb =>
      ints_same [] none none 0 0 V ⟨Nat.le_refl _, (fun _ => ⟨rfl, rfl⟩), (fun _ e => by cases e), (fun _ e => by cases e), fun j a h => by simp at h⟩ ⟨Nat.le_refl _, (fun _ => ⟨rfl, rfl⟩), (fun _ e => by cases e), (fun _ e => by cases e), fun j a h => by simp at h⟩ (by simp)
    clear hall HE HF HU HVV
    go_wp2_with fail
    refine HSW.out.mono ?_
    rintro e W12 ⟨rfl, bw12⟩
    have HB12 := Lib.hid (HB11.out.trans (bw12.mono HB11.out.size))
    have HB212 := Lib.hid (HB211.out.trans (bw12.mono HB211.out.size))
    have HB712 := Lib.hid (HB711.out.trans (bw12.mono HB711.out.size))
    have HBX := Lib.hid bw12
    clear bw12
    go_wp2_with fail
    refine (HIN.out W12 HBX.out).mono ?_
    rintro e W13 ⟨rfl, bw13⟩
    have HB13 := Lib.hid (HB12.out.trans (bw13.mono HB12.out.size))
    have HB213 := Lib.hid (HB212.out.trans (bw13.mono HB212.out.size))
    have HB713 := Lib.hid (HB712.out.trans (bw13.mono HB712.out.size))
    clear bw13 HBX HIN HSW
    go_wp2_with fail
    have HPX : Hid (∀ V, Below W13.heap.size W13 V → V.cell? ⟨B0, 0, none⟩ = some (.bool xc) ∧ V.cell? ⟨B0, 1, none⟩ = some (.int .i64 xa) ∧ V.cell? ⟨B0, 2, none⟩ = some (.int .i8 xk) ∧ V.cell? ⟨B0, 3, none⟩ = some (.int .i64 xn) ∧ V.cell? ⟨B0, 4, none⟩ = some (.string xs) ∧ V.cell? ⟨B0, 5, none⟩ = some (.string xt) ∧ V.cell? ⟨B0, 6, none⟩ = some (.slice xA xl.length xcap)) := fun V hV => by
      have hb := HB13.out.trans (hV.mono HB13.out.size)
      exact ⟨below_cell hb (cell_of_row (i := 0) G1.out.1 rfl), below_cell hb (cell_of_row (i := 1) G1.out.1 rfl), below_cell hb (cell_of_row (i := 2) G1.out.1 rfl), below_cell hb (cell_of_row (i := 3) G1.out.1 rfl), below_cell hb (cell_of_row (i := 4) G1.out.1 rfl), below_cell hb (cell_of_row (i := 5) G1.out.1 rfl), below_cell hb (cell_of_row (i := 6) G1.out.1 rfl)⟩
    have HPY : Hid (∀ V, Below W13.heap.size W13 V → V.cell? ⟨B1, 0, none⟩ = some (.bool yc) ∧ V.cell? ⟨B1, 1, none⟩ = some (.int .i64 ya) ∧ V.cell? ⟨B1, 2, none⟩ = some (.int .i8 yk) ∧ V.cell? ⟨B1, 3, none⟩ = some (.int .i64 yn) ∧ V.cell? ⟨B1, 4, none⟩ = some (.string ys) ∧ V.cell? ⟨B1, 5, none⟩ = some (.string yt) ∧ V.cell? ⟨B1, 6, none⟩ = some (.slice yA yl.length ycap)) := fun V hV => by
      have hb := HB13.out.trans (hV.mono HB13.out.size)
      exact ⟨below_cell hb (cell_of_row (i := 0) G1.out.2.1 rfl), below_cell hb (cell_of_row (i := 1) G1.out.2.1 rfl), below_cell hb (cell_of_row (i := 2) G1.out.2.1 rfl), below_cell hb (cell_of_row (i := 3) G1.out.2.1 rfl), below_cell hb (cell_of_row (i := 4) G1.out.2.1 rfl), below_cell hb (cell_of_row (i := 5) G1.out.2.1 rfl), below_cell hb (cell_of_row (i := 6) G1.out.2.1 rfl)⟩
    refine wp_region_quiet_C (C := fun V => Below W13.heap.size W13 V) (by kernel_rfl) (by kernel_rfl) (drew_below W13) ?_
    refine wpq (v := ?_) (by kernel_rfl) ?_ ?_; rotate_left; (intro V hV; (try dsimp only at hV); go_simp; first | done | with_reducible rfl); (try simp only [Act.put, sI, sZ, sS])
    refine wpq (v := ?_) (by kernel_rfl) ?_ ?_; rotate_left; (intro V hV; (try dsimp only at hV); obtain ⟨p0, p1, p2, p3, p4, p5, p6⟩ := HPX.out V hV; go_simp; first | done | with_reducible rfl); (try simp only [Act.put, sI, sZ, sS])
    refine wpq (v := ux) (by kernel_rfl) ?_ ?_; (· intro V hV; (try dsimp only at hV); go_simp; refine (HUX.out.1 V).mono ?_; rintro e V2 ⟨rfl, b2⟩; exact ⟨rfl, hV.trans (b2.mono hV.size)⟩); (try simp only [Act.put, sI, sZ, sS])
    refine wpq (v := ?_) (by kernel_rfl) ?_ ?_; rotate_left; (intro V hV; (try dsimp only at hV); go_simp; first | done | with_reducible rfl); (try simp only [Act.put, sI, sZ, sS])
    refine wpq (v := ?_) (by kernel_rfl) ?_ ?_; rotate_left; (intro V hV; (try dsimp only at hV); obtain ⟨p0, p1, p2, p3, p4, p5, p6⟩ := HPY.out V hV; go_simp; first | done | with_reducible rfl); (try simp only [Act.put, sI, sZ, sS])
    refine wpq (v := uy) (by kernel_rfl) ?_ ?_; (· intro V hV; (try dsimp only at hV); go_simp; refine (HUY.out.1 V).mono ?_; rintro e V2 ⟨rfl, b2⟩; exact ⟨rfl, hV.trans (b2.mono hV.size)⟩); (try simp only [Act.put, sI, sZ, sS])
    refine wpq (v := .bool sb) (by kernel_rfl) ?_ ?_; (· intro V hV; (try dsimp only at hV); go_simp; refine (HSA.out V (HB213.out.trans (hV.mono HB213.out.size))).mono ?_; rintro e V2 ⟨rfl, b2⟩; exact ⟨rfl, hV.trans (b2.mono hV.size)⟩); (try simp only [Act.put, sI, sZ, sS])
    refine wpq (v := ?_) (by kernel_rfl) ?_ ?_; rotate_left; (intro V hV; (try dsimp only at hV); go_simp; first | done | with_reducible rfl); (try simp only [Act.put, sI, sZ, sS])
    refine wpq (v := ?_) (by kernel_rfl) ?_ ?_; rotate_left; (intro V hV; (try dsimp only at hV); obtain ⟨p0, p1, p2, p3, p4, p5, p6⟩ := HPX.out V hV; go_simp; first | done | with_reducible rfl); (try simp only [Act.put, sI, sZ, sS])
    refine wpq (v := ux) (by kernel_rfl) ?_ ?_; (· intro V hV; (try dsimp only at hV); go_simp; refine (HUX.out.1 V).mono ?_; rintro e V2 ⟨rfl, b2⟩; exact ⟨rfl, hV.trans (b2.mono hV.size)⟩); (try simp only [Act.put, sI, sZ, sS])
    refine wpq (v := ?_) (by kernel_rfl) ?_ ?_; rotate_left; (intro V hV; (try dsimp only at hV); go_simp; first | done | with_reducible rfl); (try simp only [Act.put, sI, sZ, sS])
    refine wpq (v := ?_) (by kernel_rfl) ?_ ?_; rotate_left; (intro V hV; (try dsimp only at hV); obtain ⟨p0, p1, p2, p3, p4, p5, p6⟩ := HPY.out V hV; go_simp; first | done | with_reducible rfl); (try simp only [Act.put, sI, sZ, sS])
    refine wpq (v := uy) (by kernel_rfl) ?_ ?_; (· intro V hV; (try dsimp only at hV); go_simp; refine (HUY.out.1 V).mono ?_; rintro e V2 ⟨rfl, b2⟩; exact ⟨rfl, hV.trans (b2.mono hV.size)⟩); (try simp only [Act.put, sI, sZ, sS])
    refine wpq (v := .bool sb) (by kernel_rfl) ?_ ?_; (· intro V hV; (try dsimp only at hV); go_simp; refine (HSB.out V (HB213.out.trans (hV.mono HB213.out.size))).mono ?_; rintro e V2 ⟨rfl, b2⟩; exact ⟨rfl, hV.trans (b2.mono hV.size)⟩); (try simp only [Act.put, sI, sZ, sS])
    refine wpq (v := ?_) (by kernel_rfl) ?_ ?_; rotate_left; (intro V hV; (try dsimp only at hV); go_simp; first | done | with_reducible rfl); (try simp only [Act.put, sI, sZ, sS])
    refine wpQuiet_nil ?_
    intro W14 h14
    (try dsimp only at h14)
    have HB14 := Lib.hid (HB13.out.trans (h14.mono HB13.out.size))
    have HB214 := Lib.hid (HB213.out.trans (h14.mono HB213.out.size))
    have HB714 := Lib.hid (HB713.out.trans (h14.mono HB713.out.size))
    clear h14 HPX HPY
    go_wp2_with fail
    refine (wakes5_ok W14 (HS.out.below (HB1.out.trans (HB14.out.mono HB1.out.size)) HS.out.lt)).mono ?_
    rintro e We ⟨rfl, bwe⟩
    have hge := ((HB14.out.trans (bwe.mono HB14.out.size)).block _ (heap_lt G1.out.2.2.2)).trans G1.out.2.2.2
    have y0 : We.cell? ⟨B3, 0, none⟩ = some (.bool false) := cell_of_row hge rfl
    have yf0 : We.frozen? ⟨B3, 0, none⟩ = false := free_of_row hge
    have h4 : (We.setCell ⟨B3, 0, none⟩ (.bool true)).cell? ⟨B3, 0, none⟩ = some (.bool true) := cell_of_row (set_row (.bool true) hge) rfl
    have HBE : Hid (Below w.heap.size w (We.setCell ⟨B3, 0, none⟩ (.bool true))) := ((HB1.out.trans (HB14.out.mono HB1.out.size)).trans (bwe.mono (HB1.out.trans (HB14.out.mono HB1.out.size)).size)).setCell (by have := HBK.out; show w.heap.size ≤ B3; omega) _
    clear bwe hge
    go_wp2_with fail
    exact ⟨.bool true, by simp [results, Tryz.f3, go_sem, h4], rfl, HBE.out⟩
  | true =>
    obtain ⟨-, rfl, rfl, so, ho, g, rfl, rfl, hcso, hoko, hato, hgl, hwi⟩ | ⟨h, -⟩ := HE.out
    case inr => rw [hall] at h; cases h
    obtain ⟨-, rfl, rfl, po, PCS, PG, rfl, hrp, hwr⟩ | ⟨h, -⟩ := HF.out
    case inr => rw [hall] at h; cases h
    obtain ⟨-, rfl, rfl, hpu⟩ | ⟨h, -⟩ := HU.out
    case inr => rw [hall] at h; cases h
    obtain ⟨-, rfl, rfl, hpv⟩ | ⟨h, -⟩ := HVV.out
    case inr => rw [hall] at h; cases h
    have hsh : Shut s.cs PL := by rw [HPL.out]; exact reachL_shut HOK.out.good (rootsOf_lt hall)
    have hpl : PL.length ≤ 1048576 := Nat.le_trans (shut_len hsh) HOK.out.good.len
    have hgd := went_good HOK.out.good hall
    rw [← HPL.out] at hcso hrp hgd
    rw [went_map hall] at hwr
    have hwl : (wentW s.cs (R.map wordOf)).length = R.length := by unfold wentW; rw [List.length_map, HML.out]
    have hrow4 := (wrow_of (n := PL.length) (cap := R.length) hgd (by omega) hwi (by omega)).keep (Q := (· < W4.heap.size)) (fun _ _ => rfl) (fun b e => by subst e; exact hgl)
    have hpair := (PairW.of (hrow4.later HB46.out) hwr).under (HB67.out.trans (HB711.out.mono HB67.out.size))
    have HSW := Lib.hid (sameWords_aw ((wentW s.cs (R.map wordOf)).map awOf) (some ⟨g, 0, none⟩) Br R.length R.length R.length mc W11 (by rw [List.length_map]; exact hwl) (by rw [List.length_map]; exact hwl) hpair (by have := HN.out; omega))
    have HIN : Hid (∀ V, Below W11.heap.size W11 V → Calls Tryz.prog 16 #[.slice Au PL.length cu, .slice Av PL.length cv] V fun e V' => e = .returned (.bool true) ∧ Below V.heap.size V V') := fun V hb =>
      ints_same PL Au Av cu cv V ((hpu.keep HB911.out).keep hb) (hpv.keep hb) (by omega)
    have HALL := Lib.hid hall
    have HCSO := Lib.hid hcso
    have HOKO := Lib.hid hoko
    have HATO := Lib.hid hato
    have HRP := Lib.hid hrp
    have HSH := Lib.hid hsh
    have HPLL := Lib.hid hpl
    clear hall HE HF HU HVV hcso hoko hato hgl hwi hrp hwr hpu hpv hsh hpl hgd hwl hrow4 hpair
    go_wp2_with fail
    refine HSW.out.mono ?_
    rintro e W12 ⟨rfl, bw12⟩
    have HB12 := Lib.hid (HB11.out.trans (bw12.mono HB11.out.size))
    have HB212 := Lib.hid (HB211.out.trans (bw12.mono HB211.out.size))
    have HB712 := Lib.hid (HB711.out.trans (bw12.mono HB711.out.size))
    have HBX := Lib.hid bw12
    clear bw12
    go_wp2_with fail
    refine (HIN.out W12 HBX.out).mono ?_
    rintro e W13 ⟨rfl, bw13⟩
    have HB13 := Lib.hid (HB12.out.trans (bw13.mono HB12.out.size))
    have HB213 := Lib.hid (HB212.out.trans (bw13.mono HB212.out.size))
    have HB713 := Lib.hid (HB712.out.trans (bw13.mono HB712.out.size))
    clear bw13 HBX HIN HSW
    go_wp2_with fail
    have HPX : Hid (∀ V, Below W13.heap.size W13 V → V.cell? ⟨B0, 0, none⟩ = some (.bool xc) ∧ V.cell? ⟨B0, 1, none⟩ = some (.int .i64 xa) ∧ V.cell? ⟨B0, 2, none⟩ = some (.int .i8 xk) ∧ V.cell? ⟨B0, 3, none⟩ = some (.int .i64 xn) ∧ V.cell? ⟨B0, 4, none⟩ = some (.string xs) ∧ V.cell? ⟨B0, 5, none⟩ = some (.string xt) ∧ V.cell? ⟨B0, 6, none⟩ = some (.slice xA xl.length xcap)) := fun V hV => by
      have hb := HB13.out.trans (hV.mono HB13.out.size)
      exact ⟨below_cell hb (cell_of_row (i := 0) G1.out.1 rfl), below_cell hb (cell_of_row (i := 1) G1.out.1 rfl), below_cell hb (cell_of_row (i := 2) G1.out.1 rfl), below_cell hb (cell_of_row (i := 3) G1.out.1 rfl), below_cell hb (cell_of_row (i := 4) G1.out.1 rfl), below_cell hb (cell_of_row (i := 5) G1.out.1 rfl), below_cell hb (cell_of_row (i := 6) G1.out.1 rfl)⟩
    have HPY : Hid (∀ V, Below W13.heap.size W13 V → V.cell? ⟨B1, 0, none⟩ = some (.bool yc) ∧ V.cell? ⟨B1, 1, none⟩ = some (.int .i64 ya) ∧ V.cell? ⟨B1, 2, none⟩ = some (.int .i8 yk) ∧ V.cell? ⟨B1, 3, none⟩ = some (.int .i64 yn) ∧ V.cell? ⟨B1, 4, none⟩ = some (.string ys) ∧ V.cell? ⟨B1, 5, none⟩ = some (.string yt) ∧ V.cell? ⟨B1, 6, none⟩ = some (.slice yA yl.length ycap)) := fun V hV => by
      have hb := HB13.out.trans (hV.mono HB13.out.size)
      exact ⟨below_cell hb (cell_of_row (i := 0) G1.out.2.1 rfl), below_cell hb (cell_of_row (i := 1) G1.out.2.1 rfl), below_cell hb (cell_of_row (i := 2) G1.out.2.1 rfl), below_cell hb (cell_of_row (i := 3) G1.out.2.1 rfl), below_cell hb (cell_of_row (i := 4) G1.out.2.1 rfl), below_cell hb (cell_of_row (i := 5) G1.out.2.1 rfl), below_cell hb (cell_of_row (i := 6) G1.out.2.1 rfl)⟩
    refine wp_region_quiet_C (C := fun V => Below W13.heap.size W13 V) (by kernel_rfl) (by kernel_rfl) (drew_below W13) ?_
    refine wpq (v := ?_) (by kernel_rfl) ?_ ?_; rotate_left; (intro V hV; (try dsimp only at hV); go_simp; first | done | with_reducible rfl); (try simp only [Act.put, sI, sZ, sS])
    refine wpq (v := ?_) (by kernel_rfl) ?_ ?_; rotate_left; (intro V hV; (try dsimp only at hV); obtain ⟨p0, p1, p2, p3, p4, p5, p6⟩ := HPX.out V hV; go_simp; first | done | with_reducible rfl); (try simp only [Act.put, sI, sZ, sS])
    refine wpq (v := ux) (by kernel_rfl) ?_ ?_; (· intro V hV; (try dsimp only at hV); go_simp; refine (HUX.out.1 V).mono ?_; rintro e V2 ⟨rfl, b2⟩; exact ⟨rfl, hV.trans (b2.mono hV.size)⟩); (try simp only [Act.put, sI, sZ, sS])
    refine wpq (v := ?_) (by kernel_rfl) ?_ ?_; rotate_left; (intro V hV; (try dsimp only at hV); go_simp; first | done | with_reducible rfl); (try simp only [Act.put, sI, sZ, sS])
    refine wpq (v := ?_) (by kernel_rfl) ?_ ?_; rotate_left; (intro V hV; (try dsimp only at hV); obtain ⟨p0, p1, p2, p3, p4, p5, p6⟩ := HPY.out V hV; go_simp; first | done | with_reducible rfl); (try simp only [Act.put, sI, sZ, sS])
    refine wpq (v := uy) (by kernel_rfl) ?_ ?_; (· intro V hV; (try dsimp only at hV); go_simp; refine (HUY.out.1 V).mono ?_; rintro e V2 ⟨rfl, b2⟩; exact ⟨rfl, hV.trans (b2.mono hV.size)⟩); (try simp only [Act.put, sI, sZ, sS])
    refine wpq (v := .bool sb) (by kernel_rfl) ?_ ?_; (· intro V hV; (try dsimp only at hV); go_simp; refine (HSA.out V (HB213.out.trans (hV.mono HB213.out.size))).mono ?_; rintro e V2 ⟨rfl, b2⟩; exact ⟨rfl, hV.trans (b2.mono hV.size)⟩); (try simp only [Act.put, sI, sZ, sS])
    refine wpq (v := ?_) (by kernel_rfl) ?_ ?_; rotate_left; (intro V hV; (try dsimp only at hV); go_simp; first | done | with_reducible rfl); (try simp only [Act.put, sI, sZ, sS])
    refine wpq (v := ?_) (by kernel_rfl) ?_ ?_; rotate_left; (intro V hV; (try dsimp only at hV); obtain ⟨p0, p1, p2, p3, p4, p5, p6⟩ := HPX.out V hV; go_simp; first | done | with_reducible rfl); (try simp only [Act.put, sI, sZ, sS])
    refine wpq (v := ux) (by kernel_rfl) ?_ ?_; (· intro V hV; (try dsimp only at hV); go_simp; refine (HUX.out.1 V).mono ?_; rintro e V2 ⟨rfl, b2⟩; exact ⟨rfl, hV.trans (b2.mono hV.size)⟩); (try simp only [Act.put, sI, sZ, sS])
    refine wpq (v := ?_) (by kernel_rfl) ?_ ?_; rotate_left; (intro V hV; (try dsimp only at hV); go_simp; first | done | with_reducible rfl); (try simp only [Act.put, sI, sZ, sS])
    refine wpq (v := ?_) (by kernel_rfl) ?_ ?_; rotate_left; (intro V hV; (try dsimp only at hV); obtain ⟨p0, p1, p2, p3, p4, p5, p6⟩ := HPY.out V hV; go_simp; first | done | with_reducible rfl); (try simp only [Act.put, sI, sZ, sS])
    refine wpq (v := uy) (by kernel_rfl) ?_ ?_; (· intro V hV; (try dsimp only at hV); go_simp; refine (HUY.out.1 V).mono ?_; rintro e V2 ⟨rfl, b2⟩; exact ⟨rfl, hV.trans (b2.mono hV.size)⟩); (try simp only [Act.put, sI, sZ, sS])
    refine wpq (v := .bool sb) (by kernel_rfl) ?_ ?_; (· intro V hV; (try dsimp only at hV); go_simp; refine (HSB.out V (HB213.out.trans (hV.mono HB213.out.size))).mono ?_; rintro e V2 ⟨rfl, b2⟩; exact ⟨rfl, hV.trans (b2.mono hV.size)⟩); (try simp only [Act.put, sI, sZ, sS])
    refine wpq (v := ?_) (by kernel_rfl) ?_ ?_; rotate_left; (intro V hV; (try dsimp only at hV); go_simp; first | done | with_reducible rfl); (try simp only [Act.put, sI, sZ, sS])
    refine wpQuiet_nil ?_
    intro W14 h14
    (try dsimp only at h14)
    have HB14 := Lib.hid (HB13.out.trans (h14.mono HB13.out.size))
    have HB214 := Lib.hid (HB213.out.trans (h14.mono HB213.out.size))
    have HB714 := Lib.hid (HB713.out.trans (h14.mono HB713.out.size))
    clear h14 HPX HPY
    have HO14 := Lib.hid ((HATO.out.under HB46.out).under (HB67.out.trans (HB714.out.mono HB67.out.size)))
    have HP14 := Lib.hid (HRP.out.under (HB67.out.trans (HB714.out.mono HB67.out.size)))
    have hcl : so.cs.length = PL.length := by rw [HCSO.out, colC_len]
    have hLN : ∀ V, Below W14.heap.size W14 V → Calls Tryz.prog 21 #[.pointer (some ⟨ho, 0, none⟩)] V fun e V' => e = .returned (.int .i64 ((PL.length : Nat) : Int)) ∧ Below V.heap.size V V' := fun V hb => by
      rw [← hcl]
      refine (Len_any V (HO14.out.under hb)).mono ?_
      rintro e V' ⟨rfl, hq⟩
      subst hq
      exact ⟨rfl, Below.refl _ _⟩
    have HLN := Lib.hid hLN
    have HCL := Lib.hid hcl
    clear hLN hcl
    go_wp2_with fail
    refine (Cells_any (some ⟨ho, 0, none⟩) PL.length W14 (HLN.out W14 (Below.refl _ _))).mono ?_
    rintro e W15 ⟨p, b15, hp1, hp2, rfl, q0, q1, q2⟩
    have HB15 := Lib.hid (HB14.out.trans (b15.mono HB14.out.size))
    have HB1415 := Lib.hid b15
    have HQ := Lib.hid (And.intro hp1 (And.intro hp2 (And.intro q0 (And.intro q1 q2))))
    clear b15 hp1 hp2 q0 q1 q2
    obtain ⟨PA, pcap, hPCS⟩ := HP14.out.shape
    have HPC := Lib.hid hPCS
    clear hPCS
    go_wp2_with fail
    refine wp_region_quiet_C (C := fun V => Below W15.heap.size W15 V) (by kernel_rfl) (by kernel_rfl) (drew_below W15) ?_
    refine wpq (v := ?_) (by kernel_rfl) ?_ ?_; rotate_left; (intro V hV; (try dsimp only at hV); go_simp; first | done | with_reducible rfl); (try simp only [Act.put, sI, sZ, sS])
    refine wpq (v := ?_) (by kernel_rfl) ?_ ?_; rotate_left; (intro V hV; (try dsimp only at hV); have hnil := eql_nil5' p V; go_simp; first | done | with_reducible rfl); (try simp only [Act.put, sI, sZ, sS])
    refine wpq (v := ?_) (by kernel_rfl) ?_ ?_; rotate_left; (intro V hV; (try dsimp only at hV); go_simp; first | done | with_reducible rfl); (try simp only [Act.put, sI, sZ, sS])
    refine wpq (v := ?_) (by kernel_rfl) ?_ ?_; rotate_left; (intro V hV; (try dsimp only at hV); go_simp; first | done | with_reducible rfl); (try simp only [Act.put, sI, sZ, sS])
    refine wpq (v := .int .i64 ((PL.length : Nat) : Int)) (by kernel_rfl) ?_ ?_; (· intro V hV; (try dsimp only at hV); go_simp; refine (HLN.out V (HB1415.out.trans (hV.mono HB1415.out.size))).mono ?_; rintro e V2 ⟨rfl, b2⟩; exact ⟨rfl, hV.trans (b2.mono hV.size)⟩); (try simp only [Act.put, sI, sZ, sS])
    refine wpq (v := ?_) (by kernel_rfl) ?_ ?_; rotate_left; (intro V hV; (try dsimp only at hV); have hb7 : Below W7.heap.size W7 V := HB714.out.trans ((HB1415.out.trans (hV.mono HB1415.out.size)).mono HB714.out.size); have g7 := (hb7.block _ (heap_lt G7.out)).trans G7.out; have z0 : V.cell? ⟨BP, 0, none⟩ = some (.pointer (some ⟨po, 0, none⟩)) := cell_of_row g7 rfl; have hp := HP14.out.under (HB1415.out.trans (hV.mono HB1415.out.size)); have z1 := cell_of_row (i := 0) hp.box rfl; rw [HPC.out, colC_len] at z1; clear g7 hp; go_simp; first | done | with_reducible rfl); (try simp only [Act.put, sI, sZ, sS])
    refine wpq (v := ?_) (by kernel_rfl) ?_ ?_; rotate_left; (intro V hV; (try dsimp only at hV); go_simp; first | done | with_reducible rfl); (try simp only [Act.put, sI, sZ, sS])
    refine wpq (v := ?_) (by kernel_rfl) ?_ ?_; rotate_left; (intro V hV; (try dsimp only at hV); go_simp; first | done | with_reducible rfl); (try simp only [Act.put, sI, sZ, sS])
    refine wpq (v := ?_) (by kernel_rfl) ?_ ?_; rotate_left; (intro V hV; (try dsimp only at hV); have hb7 : Below W7.heap.size W7 V := HB714.out.trans ((HB1415.out.trans (hV.mono HB1415.out.size)).mono HB714.out.size); have g7 := (hb7.block _ (heap_lt G7.out)).trans G7.out; have z0 : V.cell? ⟨BP, 0, none⟩ = some (.pointer (some ⟨po, 0, none⟩)) := cell_of_row g7 rfl; have hp := HP14.out.under (HB1415.out.trans (hV.mono HB1415.out.size)); have z1 := cell_of_row (i := 0) hp.box rfl; rw [HPC.out, colC_len] at z1; clear g7 hp; go_simp; first | done | with_reducible rfl); (try simp only [Act.put, sI, sZ, sS])
    refine wpq (v := ?_) (by kernel_rfl) ?_ ?_; rotate_left; (intro V hV; (try dsimp only at hV); go_simp; first | done | with_reducible rfl); (try simp only [Act.put, sI, sZ, sS])
    refine wpq (v := ?_) (by kernel_rfl) ?_ ?_; rotate_left; (intro V hV; (try dsimp only at hV); go_simp; first | done | with_reducible rfl); (try simp only [Act.put, sI, sZ, sS])
    refine wpq (v := ?_) (by kernel_rfl) ?_ ?_; rotate_left; (intro V hV; (try dsimp only at hV); go_simp; first | done | with_reducible rfl); (try simp only [Act.put, sI, sZ, sS])
    refine wpQuiet_nil ?_
    intro W16 h16
    (try dsimp only at h16)
    have HB16 := Lib.hid (HB15.out.trans (h16.mono HB15.out.size))
    have HB1416 := Lib.hid (HB1415.out.trans (h16.mono HB1415.out.size))
    have HB1516 := Lib.hid h16
    clear h16
    go_wp2_with fail
    have b0 : Below W16.heap.size W16 (W16.alloc (.cells #[.int .i64 0] 3)) := (Below.refl _ _).alloc (Nat.le_refl _) _
    have g0 := block_alloc W16 (.cells #[.int .i64 0] 3)
    have s0 : (W16.alloc (.cells #[.int .i64 0] 3)).heap.size = W16.heap.size + 1 := World.size_alloc _ _
    obtain ⟨bn, hbn⟩ : ∃ b, b = W16.heap.size := ⟨_, rfl⟩
    rw [← hbn] at g0 ⊢
    generalize W16.alloc (.cells #[.int .i64 0] 3) = W0 at b0 g0 s0 ⊢
    have HB0 := Lib.hid (HB16.out.trans (b0.mono HB16.out.size))
    have HB140 := Lib.hid (HB1416.out.trans (b0.mono HB1416.out.size))
    have HB150 := Lib.hid (HB1516.out.trans (b0.mono HB1516.out.size))
    have HN0 : Hid (bn < W0.heap.size ∧ W14.heap.size ≤ bn ∧ W15.heap.size ≤ bn) := by
      have h1 := HB1516.out.size; have h2 := HB1415.out.size
      exact ⟨by omega, by omega, by omega⟩
    have G0 := Lib.hid g0
    have hSEQ : SeqQ (6 - 1) Tryz.prog 66 #[.pointer (some ⟨p + 2, 0, none⟩), .pointer (some ⟨p + 1, 0, none⟩)] encC (fun k => k < W0.heap.size ∧ k ≠ bn) (CellE (fun a c => so.cs[a]? = some c)) (fun xs => xs.map (·.1) = List.range PL.length) (fun pre => ∃ k, pre.map (·.1) = (List.range PL.length).take k) W0 := by
      obtain ⟨hp1, hp2, q0, q1, q2⟩ := HQ.out
      obtain ⟨n1, n2, n3⟩ := HN0.out
      have r0 := (HB150.out.block _ (heap_lt q0)).trans q0
      have r1 := (HB150.out.block _ (heap_lt q1)).trans q1
      have r2 := (HB150.out.block _ (heap_lt q2)).trans q2
      have l0 := heap_lt q0
      have l1 := heap_lt q1
      have l2 := heap_lt q2
      refine cells5_seq _ _ (p + 1) (p + 2) (.pointer (some ⟨ho, 0, none⟩)) 67 #[.pointer (some ⟨p, 0, none⟩)] (List.range PL.length) _ W0 (enters_of Tryz.func67 (by kernel_rfl) rfl) (fun k hk => hk.1) ⟨by omega, by omega⟩ ⟨by omega, by omega⟩ r1 r2 (fun m V hV hs => ?_) (fun a ha => ?_)
      · exact below5_seq m _ p PL.length V ((hV p ⟨by omega, by omega⟩).trans r0) (by have := HPLL.out; omega)
      · have hal : a < so.cs.length := by rw [HCL.out]; exact List.mem_range.1 ha
        refine ⟨so.cs[a], List.getElem?_eq_getElem hal, fun V hV hs => ?_⟩
        have hcl := cell_len HOKO.out.good (List.getElem?_eq_getElem hal)
        exact Cell_any V (HSt.At.heap HO14.out (fun k hk => (hV k ⟨by omega, by omega⟩).trans (HB140.out.block k hk)) (Nat.le_trans HB140.out.size hs)) a _ (List.getElem?_eq_getElem hal) (by omega)
    have HSEQ := Lib.hid hSEQ
    have HW4 := Lib.hid w4
    clear hSEQ b0 s0 g0 hbn
    refine with_act fun T hT => ?_
    refine (wpIn_wide (n := 6)).1 ?_
    refine range_q (α := CI) (gf := 66) (lb := #[.pointer (some ⟨p + 2, 0, none⟩), .pointer (some ⟨p + 1, 0, none⟩)]) (by subst hT; rfl) (enters_of Tryz.func66 (by kernel_rfl) rfl) (fun _ => rfl) HSEQ.out (fun k hk => hk.1)
      (fun k C => W0.heap.size + 2 ≤ k ∧ k < C.heap.size) (fun k C h => ⟨h.2, h.1⟩) (fun k C D F _ h hm _ => ⟨h.1, Nat.lt_of_lt_of_le h.2 hm.size⟩)
      (fun xs C => TlI W0 bn xs.length C) (fun c xs C => c = .exit 0 ∧ TlI W0 bn xs.length C ∧ ((xs.length : Nat) : Int) = a4) (fun _ C o h hs => ⟨hs, by simp⟩)
      (fun _ C D F _ h hm hF => h.keep HN0.out.1 hm (fun j hj hf => by rcases hF j hj hf with h | h | h <;> omega)) (fun c _ C D F _ h hm hF => ⟨h.1, h.2.1.keep HN0.out.1 hm (fun j hj hf => by rcases hF j hj hf with h | h | h <;> omega), h.2.2⟩)
      (fun d r => ⟨by simp, fun k hk _ => (Below.heap_alloc _ _ _ (by simp; omega)).trans (Below.heap_alloc _ _ _ hk), (Below.heap_alloc _ _ _ (by simp; have := HN0.out.1; omega)).trans ((Below.heap_alloc _ _ _ HN0.out.1).trans G0.out), rfl, rfl, rfl⟩)
      (fun x X Y hm h => by
        obtain ⟨hcr, A1, cap1, he, hw⟩ := h
        refine ⟨hcr, A1, cap1, he, fun hL => ?_⟩
        obtain ⟨g, e1, e2, e3, e4⟩ := hw hL
        exact ⟨g, e1, e2, Nat.lt_of_lt_of_le e3 hm.size, e4.keep (hm.block g e3 (by omega))⟩)
      (fun x a' X => ∃ b cv, W0.heap.size + 2 ≤ b ∧ x.2.2 = .agg cv ∧ X.heap[b]? = some (.cells cv 62 (0, 0)) ∧ a' = { tmps := (((T.setIfInBounds 140 (.int .i64 (x.1 : Int))).setIfInBounds 141 x.2.2).setIfInBounds 26 (.int .i64 (x.1 : Int))).setIfInBounds 27 (.pointer (some ⟨b, 0, none⟩)), defers := [] })
      (fun x a' X Y hm h => by
        obtain ⟨b, cv, h1, h2, h3, h4⟩ := h
        exact ⟨b, cv, h1, h2, (hm.block _ (heap_lt h3) (by omega)).trans h3, h4⟩) ?assign ?body ?done ?stop
    case assign =>
      rintro l2 pre ⟨a, c, v⟩ V K hi ⟨hcr, A1, cap1, he, hw⟩ hsz hK
      dsimp only at he hcr hw
      subst he
      have hKK := hK _ _ ((Below.refl _ V).alloc (Nat.le_refl _) _) ⟨V.heap.size, _, hi.size, rfl, block_alloc _ _, rfl⟩
      dsimp only at hKK
      clear hK hi hsz hw hcr
      subst hT
      simp only [List.setIfInBounds_toArray, List.set_cons_succ, List.set_cons_zero] at hKK
      have HK := Lib.hid hKK
      clear hKK
      have z0 : (V.alloc (.cells #[.int .i8 0, .int .i64 0, .slice none 0 0] 62)).cell? ⟨V.heap.size, 0, none⟩ = some (.int .i8 0) := cell_of_row (block_alloc _ _) rfl
      have zf0 : (V.alloc (.cells #[.int .i8 0, .int .i64 0, .slice none 0 0] 62)).frozen? ⟨V.heap.size, 0, none⟩ = false := free_of_row (block_alloc _ _)
      have z1 : (V.alloc (.cells #[.int .i8 0, .int .i64 0, .slice none 0 0] 62)).cell? ⟨V.heap.size, 1, none⟩ = some (.int .i64 0) := cell_of_row (block_alloc _ _) rfl
      have zf1 : (V.alloc (.cells #[.int .i8 0, .int .i64 0, .slice none 0 0] 62)).frozen? ⟨V.heap.size, 1, none⟩ = false := free_of_row (block_alloc _ _)
      have z2 : (V.alloc (.cells #[.int .i8 0, .int .i64 0, .slice none 0 0] 62)).cell? ⟨V.heap.size, 2, none⟩ = some (.slice none 0 0) := cell_of_row (block_alloc _ _) rfl
      have zf2 : (V.alloc (.cells #[.int .i8 0, .int .i64 0, .slice none 0 0] 62)).frozen? ⟨V.heap.size, 2, none⟩ = false := free_of_row (block_alloc _ _)
      unfold encC
      dsimp only
      gi_wp2
      exact HK.out
    case body =>
      rintro l2 pre ⟨a, c, v⟩ a' V hi ⟨hcr, A1, cap1, he, hw⟩ ⟨b, cv, hb2, hv, hbx, rfl⟩ hsp hsz hlow
      dsimp only at he hcr hw hv hsp
      subst he
      simp only [Value.agg.injEq] at hv
      subst hv
      obtain ⟨hae, hpl⟩ := told_at hsp
      dsimp only at hae
      subst hae
      have hlen : (pre ++ [((pre.length, c, .agg #[.int .i8 c.k, .int .i64 c.size, .slice A1 c.L.length cap1]) : CI)]).length = pre.length + 1 := by simp
      have h14V : Below W14.heap.size W14 V := hi.below HB140.out HN0.out.2.1
      have hcl := cell_len HOKO.out.good hcr
      have hlow2 := HOKO.out.good.low pre.length c hcr
      have hcr2 := hcr
      rw [HCSO.out] at hcr2
      have hrv := HP14.out.under h14V
      obtain ⟨gq, qcap, Aq, cpq, hCS, k0, k1, k2, hWq⟩ := hrv.cell hcr2
      have hpb := hrv.box
      have hown := hrv.own
      have hpair : PairW V A1 Aq (c.L.map awOf) := by
        by_cases hL : c.L = []
        · intro j q hq; rw [hL] at hq; simp at hq
        · obtain ⟨g1, rfl, e2, e3, e4⟩ := hw hL
          obtain ⟨g2, rfl, hG, hW2⟩ := hWq hL
          exact PairW.of ((wrow_of (n := pre.length) (cap := c.L.length) hlow2 (by have := HPLL.out; omega) e4 (Nat.le_refl _)).keep (Q := (· < V.heap.size)) (fun _ _ => rfl) (fun b e => by subst e; exact e3)) (hW2.keep (Q := (· < V.heap.size)) (fun _ _ => rfl) (fun b e => by subst e; exact (hown _ hG).1))
      rw [hCS, colC_len] at hpb
      have g7 : V.heap[BP]? = some (.cells #[.pointer (some ⟨po, 0, none⟩)] 34 (0, 0)) := ((HB714.out.trans (h14V.mono HB714.out.size)).block _ (heap_lt G7.out)).trans G7.out
      have g2 := ((HB14.out.trans (h14V.mono HB14.out.size)).block _ (heap_lt G1.out.2.2.1)).trans G1.out.2.2.1
      have HPAIR := Lib.hid hpair
      have HFACT := Lib.hid (And.intro hi.nb (And.intro g7 (And.intro (cell_of_row (i := 0) hpb rfl) (And.intro k0 (And.intro k1 (And.intro k2 (And.intro hbx g2)))))))
      have HI := Lib.hid (And.intro hi hlen)
      have HCN : Hid (c.L.length + 1 ≤ 256) := hcl
      have hplm := HPLL.out
      have i0 : (0 : Int) ≤ ((pre.length : Nat) : Int) := by omega
      have i1 : ((pre.length : Nat) : Int) < ((PL.length : Nat) : Int) := by omega
      have i2 : ¬ ((PL.length : Nat) : Int) ≤ ((pre.length : Nat) : Int) := by omega
      have i3 : decide (PL.length ≤ pre.length) = false := by rw [decide_eq_false_iff_not]; omega
      clear hi hw hb2 hbx hsp hsz hlow h14V hcl hlow2 hcr2 hrv hCS k0 k1 k2 hWq hpb hown hpair g7 g2 hcr hlen
      subst hT
      simp only [List.setIfInBounds_toArray, List.set_cons_succ, List.set_cons_zero]
      gi_wp2_with fail
      refine region_quiet_in (C := fun X => Below V.heap.size V X) ?hq (by kernel_rfl) (by kernel_rfl) (by kernel_rfl) (drew_below V) ?_
      case hq =>
        rintro ⟨a, w, h⟩
        exact h
      refine wpq (v := ?_) (by kernel_rfl) ?_ ?_; rotate_left; (intro X hV; (try dsimp only at hV); go_simp; first | done | with_reducible rfl); (try simp only [Act.put, sI, sZ, sS])
      refine wpq (v := ?_) (by kernel_rfl) ?_ ?_; rotate_left; (intro X hV; (try dsimp only at hV); have n0 := below_cell hV (cell_of_row (i := 0) HFACT.out.1 rfl); go_simp; first | done | with_reducible rfl); (try simp only [Act.put, sI, sZ, sS])
      refine wpq (v := ?_) (by kernel_rfl) ?_ ?_; rotate_left; (intro X hV; (try dsimp only at hV); go_simp; first | done | with_reducible rfl); (try simp only [Act.put, sI, sZ, sS])
      refine wpq (v := ?_) (by kernel_rfl) ?_ ?_; rotate_left; (intro X hV; (try dsimp only at hV); go_simp; first | done | with_reducible rfl); (try simp only [Act.put, sI, sZ, sS])
      refine wpq (v := ?_) (by kernel_rfl) ?_ ?_; rotate_left; (intro X hV; (try dsimp only at hV); have n0 := below_cell hV (cell_of_row (i := 0) HFACT.out.1 rfl); go_simp; first | done | with_reducible rfl); (try simp only [Act.put, sI, sZ, sS])
      refine wpq (v := ?_) (by kernel_rfl) ?_ ?_; rotate_left; (intro X hV; (try dsimp only at hV); have z0 := below_cell hV (cell_of_row (i := 0) HFACT.out.2.1 rfl); have z1 := below_cell hV HFACT.out.2.2.1; go_simp; first | done | with_reducible rfl); (try simp only [Act.put, sI, sZ, sS])
      refine wpq (v := ?_) (by kernel_rfl) ?_ ?_; rotate_left; (intro X hV; (try dsimp only at hV); go_simp; first | done | with_reducible rfl); (try simp only [Act.put, sI, sZ, sS])
      refine wpq (v := ?_) (by kernel_rfl) ?_ ?_; rotate_left; (intro X hV; (try dsimp only at hV); go_simp; first | done | with_reducible rfl); (try simp only [Act.put, sI, sZ, sS])
      refine wpq (v := ?_) (by kernel_rfl) ?_ ?_; rotate_left; (intro X hV; (try dsimp only at hV); have z0 := below_cell hV (cell_of_row (i := 0) HFACT.out.2.1 rfl); have z1 := below_cell hV HFACT.out.2.2.1; go_simp; first | done | with_reducible rfl); (try simp only [Act.put, sI, sZ, sS])
      refine wpq (v := ?_) (by kernel_rfl) ?_ ?_; rotate_left; (intro X hV; (try dsimp only at hV); go_simp; first | done | with_reducible rfl); (try simp only [Act.put, sI, sZ, sS])
      refine wpq (v := ?_) (by kernel_rfl) ?_ ?_; rotate_left; (intro X hV; (try dsimp only at hV); go_simp; first | done | with_reducible rfl); (try simp only [Act.put, sI, sZ, sS])
      refine wpq (v := ?_) (by kernel_rfl) ?_ ?_; rotate_left; (intro X hV; (try dsimp only at hV); go_simp; first | done | with_reducible rfl); (try simp only [Act.put, sI, sZ, sS])
      refine wpq (v := ?_) (by kernel_rfl) ?_ ?_; rotate_left; (intro X hV; (try dsimp only at hV); go_simp; first | done | with_reducible rfl); (try simp only [Act.put, sI, sZ, sS])
      refine wpq (v := ?_) (by kernel_rfl) ?_ ?_; rotate_left; (intro X hV; (try dsimp only at hV); have c0 := below_cell hV (cell_of_row (i := 0) HFACT.out.2.2.2.2.2.2.1 rfl); have c1 := below_cell hV (cell_of_row (i := 1) HFACT.out.2.2.2.2.2.2.1 rfl); have c2 := below_cell hV (cell_of_row (i := 2) HFACT.out.2.2.2.2.2.2.1 rfl); go_simp; first | done | with_reducible rfl); (try simp only [Act.put, sI, sZ, sS])
      refine wpq (v := ?_) (by kernel_rfl) ?_ ?_; rotate_left; (intro X hV; (try dsimp only at hV); have z0 := below_cell hV (cell_of_row (i := 0) HFACT.out.2.1 rfl); have z1 := below_cell hV HFACT.out.2.2.1; go_simp; first | done | with_reducible rfl); (try simp only [Act.put, sI, sZ, sS])
      refine wpq (v := ?_) (by kernel_rfl) ?_ ?_; rotate_left; (intro X hV; (try dsimp only at hV); go_simp; first | done | with_reducible rfl); (try simp only [Act.put, sI, sZ, sS])
      refine wpq (v := ?_) (by kernel_rfl) ?_ ?_; rotate_left; (intro X hV; (try dsimp only at hV); go_simp; first | done | with_reducible rfl); (try simp only [Act.put, sI, sZ, sS])
      refine wpq (v := ?_) (by kernel_rfl) ?_ ?_; rotate_left; (intro X hV; (try dsimp only at hV); have z0 := below_cell hV (cell_of_row (i := 0) HFACT.out.2.1 rfl); have z1 := below_cell hV HFACT.out.2.2.1; go_simp; first | done | with_reducible rfl); (try simp only [Act.put, sI, sZ, sS])
      refine wpq (v := ?_) (by kernel_rfl) ?_ ?_; rotate_left; (intro X hV; (try dsimp only at hV); have n0 := below_cell hV (cell_of_row (i := 0) HFACT.out.1 rfl); go_simp; first | done | with_reducible rfl); (try simp only [Act.put, sI, sZ, sS])
      refine wpq (v := ?_) (by kernel_rfl) ?_ ?_; rotate_left; (intro X hV; (try dsimp only at hV); go_simp; first | done | with_reducible rfl); (try simp only [Act.put, sI, sZ, sS])
      refine wpq (v := ?_) (by kernel_rfl) ?_ ?_; rotate_left; (intro X hV; (try dsimp only at hV); have k0 := below_cell hV HFACT.out.2.2.2.1; have k1 := below_cell hV HFACT.out.2.2.2.2.1; have k2 := below_cell hV HFACT.out.2.2.2.2.2.1; go_simp; first | done | with_reducible rfl); (try simp only [Act.put, sI, sZ, sS])
      refine wpq (v := .bool true) (by kernel_rfl) ?_ ?_; (· intro X hV; (try dsimp only at hV); go_simp; refine (sameCell_aw (c.L.map awOf) A1 Aq c.L.length c.L.length cap1 cpq c.k c.size X (List.length_map _) (List.length_map _) (HPAIR.out.under hV) (by have := HCN.out; omega)).mono ?_; rintro e V2 ⟨rfl, b2⟩; exact ⟨rfl, hV.trans (b2.mono hV.size)⟩); (try simp only [Act.put, sI, sZ, sS])
      refine wpq (v := ?_) (by kernel_rfl) ?_ ?_; rotate_left; (intro X hV; (try dsimp only at hV); go_simp; first | done | with_reducible rfl); (try simp only [Act.put, sI, sZ, sS])
      refine wpq (v := ?_) (by kernel_rfl) ?_ ?_; rotate_left; (intro X hV; (try dsimp only at hV); go_simp; first | done | with_reducible rfl); (try simp only [Act.put, sI, sZ, sS])
      refine wpQuiet_nil ?_
      intro V9 h9
      (try dsimp only at h9)
      have HV9 := Lib.hid h9
      clear h9 i2 i3
      have y0 : V9.cell? ⟨bn, 0, none⟩ = some (.int .i64 ((pre.length : Nat) : Int)) := below_cell HV9.out (cell_of_row HFACT.out.1 rfl)
      have hnb9 := (HV9.out.block _ (heap_lt HFACT.out.1)).trans HFACT.out.1
      have yf0 : V9.frozen? ⟨bn, 0, none⟩ = false := free_of_row hnb9
      have m10 : Mod (fun k => k = bn) V9 (V9.setCell ⟨bn, 0, none⟩ (.int .i64 ((pre.length : Int) + 1))) := Mod.setCell _ _ _ (.inl rfl)
      have hn10 := set_row (i := 0) (.int .i64 ((pre.length : Int) + 1)) hnb9
      have hne2 : B2 ≠ bn := by have h1 := HN0.out.2.1; have h2 := heap_lt G1.out.2.2.1; have h3 := HB14.out.size; omega
      have g9 := (HV9.out.block _ (heap_lt HFACT.out.2.2.2.2.2.2.2)).trans HFACT.out.2.2.2.2.2.2.2
      have g10 := (m10.block _ (heap_lt g9) hne2).trans g9
      have q0 : (V9.setCell ⟨bn, 0, none⟩ (.int .i64 ((pre.length : Int) + 1))).cell? ⟨bn, 0, none⟩ = some (.int .i64 ((pre.length : Int) + 1)) := cell_of_row hn10 rfl
      have q1 : (V9.setCell ⟨bn, 0, none⟩ (.int .i64 ((pre.length : Int) + 1))).cell? ⟨B2, 0, none⟩ = some (.int .i64 a4) := cell_of_row g10 rfl
      have hkeep : ∀ k, k < V.heap.size → k ≠ bn → (V9.setCell ⟨bn, 0, none⟩ (.int .i64 ((pre.length : Int) + 1))).heap[k]? = V.heap[k]? := fun k hk hne => (m10.block k (Nat.lt_of_lt_of_le hk HV9.out.size) hne).trans (HV9.out.block k hk)
      have hsv := HI.out.1.size
      have hs9 := HV9.out.size
      have hs10 := m10.size
      have hbn := HN0.out.1
      have HKC : Hid (KC (fun k C => W0.heap.size + 2 ≤ k ∧ k < C.heap.size) (fun k => k < W0.heap.size ∧ k ≠ bn) W0.heap.size V (V9.setCell ⟨bn, 0, none⟩ (.int .i64 ((pre.length : Int) + 1))) ∧ TlI W0 bn (pre.length + 1) (V9.setCell ⟨bn, 0, none⟩ (.int .i64 ((pre.length : Int) + 1)))) := by
        refine ⟨⟨⟨by omega, fun k hk => hkeep k (by omega) hk.2, fun k hk => ⟨hkeep k hk.2 (by have := hk.1; omega), hk.1, by have := hk.2; omega⟩⟩, hkeep _ (by omega) (by omega), hkeep _ (by omega) (by omega)⟩, ⟨by omega, fun k hk hne => (hkeep k (by omega) hne).trans (HI.out.1.lo k hk hne), ?_, ?_⟩⟩
        · have e : (((pre.length + 1 : Nat)) : Int) = (pre.length : Int) + 1 := by omega
          rw [e]; exact hn10
        · exact ⟨(m10.os.trans HV9.out.os).trans HI.out.1.os.1, (m10.tape.trans HV9.out.tape).trans HI.out.1.os.2.1, (m10.output.trans HV9.out.output).trans HI.out.1.os.2.2⟩
      clear m10 hn10 hne2 g9 g10 hkeep hsv hs9 hs10 hbn hnb9
      by_cases hlv : (pre.length : Int) + 1 = a4
      · have hl1 : (((pre.length : Int) + 1) == a4) = true := by simpa using hlv
        have hl2 : decide ((pre.length : Int) + 1 = a4) = true := by simpa using hlv
        have HLV := Lib.hid hlv
        clear hlv
        gi_wp2_with fail
        exact ⟨HKC.out.1, rfl, (by show TlI W0 bn (pre ++ [_]).length _; rw [HI.out.2]; exact HKC.out.2), (by show (((pre ++ [_]).length : Nat) : Int) = a4; rw [HI.out.2, ← HLV.out]; omega)⟩
      · have hl1 : (((pre.length : Int) + 1) == a4) = false := by simpa using hlv
        have hl2 : decide ((pre.length : Int) + 1 = a4) = false := by simpa using hlv
        gi_wp2_with fail
        exact ⟨HKC.out.1, (by show TlI W0 bn (pre ++ [_]).length _; rw [HI.out.2]; exact HKC.out.2)⟩
    case done =>
      rintro xs V hxs hi hd
      have hxl : xs.length = PL.length := by have := congrArg List.length hxs; simpa using this
      rw [hxl] at hi
      have h14V : Below W14.heap.size W14 V := hi.below HB140.out HN0.out.2.1
      have h1V := HB14.out.trans (h14V.mono HB14.out.size)
      have hrv := HP14.out.under h14V
      have hpb := hrv.box
      have g7 : V.heap[BP]? = some (.cells #[.pointer (some ⟨po, 0, none⟩)] 34 (0, 0)) := ((HB714.out.trans (h14V.mono HB714.out.size)).block _ (heap_lt G7.out)).trans G7.out
      have g2 := (h1V.block _ (heap_lt G1.out.2.2.1)).trans G1.out.2.2.1
      have g3 := (h1V.block _ (heap_lt G1.out.2.2.2)).trans G1.out.2.2.2
      have hne : B2 ≠ B3 ∧ B3 ≠ bn ∧ B3 ≠ BP ∧ B3 ≠ po ∧ B3 < W0.heap.size ∧ w.heap.size ≤ B3 := by
        have h1 := HN0.out; have h2 := heap_lt G1.out.2.2.2; have h3 := HB14.out.size; have h4 := HBP.out; have h5 := HB6.out.size; have h6 := HP14.out.low; have h7 := HB5.out.size; have h8 := HBK.out
        omega
      rw [HPC.out, colC_len] at hpb
      have hS0 : (fun X : World => X.heap[bn]? = some (.cells #[.int .i64 ((PL.length : Nat) : Int)] 3 (0, 0)) ∧ X.heap[BP]? = some (.cells #[.pointer (some ⟨po, 0, none⟩)] 34 (0, 0)) ∧ X.heap[po]? = some (.cells #[.slice PA PL.length pcap] 60 (0, 0)) ∧ X.heap[B2]? = some (.cells #[.int .i64 a4] 3 (0, 0))) V := ⟨hi.nb, g7, hpb, g2⟩
      have HS0 := Lib.hid hS0
      have HG3 := Lib.hid g3
      have HD := Lib.hid hd
      have HNE := Lib.hid hne
      have HBV : Hid (Below w.heap.size w V) := HB1.out.trans (h1V.mono HB1.out.size)
      have HZ : Hid (W0.heap.size + 2 ≤ V.heap.size) := hi.size
      clear h14V h1V hrv hpb g7 g2 g3 hne hS0 hi hd
      subst hT
      go_wp2_with fail
      refine wp_mono ?_ only_n
      refine wp_region_held (S := (fun X : World => X.heap[bn]? = some (.cells #[.int .i64 ((PL.length : Nat) : Int)] 3 (0, 0)) ∧ X.heap[BP]? = some (.cells #[.pointer (some ⟨po, 0, none⟩)] 34 (0, 0)) ∧ X.heap[po]? = some (.cells #[.slice PA PL.length pcap] 60 (0, 0)) ∧ X.heap[B2]? = some (.cells #[.int .i64 a4] 3 (0, 0)))) (by kernel_rfl) ?_
      show wpAnyH _ _ _ _ _ _ _ _ V.drew
      have hdr := drew_below V
      have hS1 : (fun X : World => X.heap[bn]? = some (.cells #[.int .i64 ((PL.length : Nat) : Int)] 3 (0, 0)) ∧ X.heap[BP]? = some (.cells #[.pointer (some ⟨po, 0, none⟩)] 34 (0, 0)) ∧ X.heap[po]? = some (.cells #[.slice PA PL.length pcap] 60 (0, 0)) ∧ X.heap[B2]? = some (.cells #[.int .i64 a4] 3 (0, 0))) V.drew := ⟨(hdr.block _ (heap_lt HS0.out.1)).trans HS0.out.1, (hdr.block _ (heap_lt HS0.out.2.1)).trans HS0.out.2.1, (hdr.block _ (heap_lt HS0.out.2.2.1)).trans HS0.out.2.2.1, (hdr.block _ (heap_lt HS0.out.2.2.2)).trans HS0.out.2.2.2⟩
      have HDR := Lib.hid hdr
      clear hdr
      generalize V.drew = D at hS1 HDR ⊢
      refine wpAnyH_take (i := 0) (oi := ⟨some 171, _, _, _, _, _⟩) (v := ?_) rfl (by kernel_rfl) (by kernel_rfl) (by kernel_rfl) (fun _ _ _ h => h) (Or.inl ⟨by kernel_rfl, ?_⟩) (by assumption) ?_; rotate_left; (intro w hSw; (try dsimp only at hSw); obtain ⟨s0, s1, s2, s3⟩ := hSw; have r0 := cell_of_row (i := 0) s0 rfl; have r1 := cell_of_row (i := 0) s1 rfl; have r2 := cell_of_row (i := 0) s2 rfl; have r3 := cell_of_row (i := 0) s3 rfl; go_simp; first | done | with_reducible rfl); (try simp only [Act.put, sI, sZ, sS])
      refine wpAnyH_take (i := 1) (oi := ⟨some 172, _, _, _, _, _⟩) (v := ?_) rfl (by kernel_rfl) (by kernel_rfl) (by kernel_rfl) (fun _ _ _ h => h) (Or.inl ⟨by kernel_rfl, ?_⟩) (by assumption) ?_; rotate_left; (intro w hSw; (try dsimp only at hSw); obtain ⟨s0, s1, s2, s3⟩ := hSw; have r0 := cell_of_row (i := 0) s0 rfl; have r1 := cell_of_row (i := 0) s1 rfl; have r2 := cell_of_row (i := 0) s2 rfl; have r3 := cell_of_row (i := 0) s3 rfl; go_simp; first | done | with_reducible rfl); (try simp only [Act.put, sI, sZ, sS])
      refine wpAnyH_take (i := 2) (oi := ⟨some 173, _, _, _, _, _⟩) (v := ?_) rfl (by kernel_rfl) (by kernel_rfl) (by kernel_rfl) (fun _ _ _ h => h) (Or.inl ⟨by kernel_rfl, ?_⟩) (by assumption) ?_; rotate_left; (intro w hSw; (try dsimp only at hSw); go_simp; first | done | with_reducible rfl); (try simp only [Act.put, sI, sZ, sS])
      refine wpAnyH_take (i := 3) (oi := ⟨some 174, _, _, _, _, _⟩) (v := ?_) rfl (by kernel_rfl) (by kernel_rfl) (by kernel_rfl) (fun _ _ _ h => h) (Or.inl ⟨by kernel_rfl, ?_⟩) (by assumption) ?_; rotate_left; (intro w hSw; (try dsimp only at hSw); go_simp; first | done | with_reducible rfl); (try simp only [Act.put, sI, sZ, sS])
      refine wpAnyH_take (i := 4) (oi := ⟨some 175, _, _, _, _, _⟩) (v := ?_) rfl (by kernel_rfl) (by kernel_rfl) (by kernel_rfl) (fun _ _ _ h => h) (Or.inl ⟨by kernel_rfl, ?_⟩) (by assumption) ?_; rotate_left; (intro w hSw; (try dsimp only at hSw); obtain ⟨s0, s1, s2, s3⟩ := hSw; have r0 := cell_of_row (i := 0) s0 rfl; have r1 := cell_of_row (i := 0) s1 rfl; have r2 := cell_of_row (i := 0) s2 rfl; have r3 := cell_of_row (i := 0) s3 rfl; go_simp; first | done | with_reducible rfl); (try simp only [Act.put, sI, sZ, sS])
      refine wpAnyH_take (i := 5) (oi := ⟨some 176, _, _, _, _, _⟩) (v := ?_) rfl (by kernel_rfl) (by kernel_rfl) (by kernel_rfl) (fun _ _ _ h => h) (Or.inl ⟨by kernel_rfl, ?_⟩) (by assumption) ?_; rotate_left; (intro w hSw; (try dsimp only at hSw); go_simp; first | done | with_reducible rfl); (try simp only [Act.put, sI, sZ, sS])
      refine wpAnyH_take (i := 6) (oi := ⟨some 177, _, _, _, _, _⟩) (v := ?_) rfl (by kernel_rfl) (by kernel_rfl) (by kernel_rfl) (fun _ _ _ h => h) (Or.inl ⟨by kernel_rfl, ?_⟩) (by assumption) ?_; rotate_left; (intro w hSw; (try dsimp only at hSw); go_simp; first | done | with_reducible rfl); (try simp only [Act.put, sI, sZ, sS])
      refine wpAnyH_take (i := 7) (oi := ⟨some 178, _, _, _, _, _⟩) (v := ?_) rfl (by kernel_rfl) (by kernel_rfl) (by kernel_rfl) (fun _ _ _ h => h) (Or.inl ⟨by kernel_rfl, ?_⟩) (by assumption) ?_; rotate_left; (intro w hSw; (try dsimp only at hSw); go_simp; first | done | with_reducible rfl); (try simp only [Act.put, sI, sZ, sS])
      refine wpAnyH_take (i := 8) (oi := ⟨some 179, _, _, _, _, _⟩) (v := undef) rfl (by kernel_rfl) (by kernel_rfl) (by kernel_rfl) (fun _ _ _ h => h) (Or.inr ⟨by kernel_rfl, rfl⟩) (by assumption) ?_; (try simp only [Act.put, sI, sZ, sS])
      refine wpAnyH_take (i := 9) (oi := ⟨some 180, _, _, _, _, _⟩) (v := undef) rfl (by kernel_rfl) (by kernel_rfl) (by kernel_rfl) (fun _ _ _ h => h) (Or.inr ⟨by kernel_rfl, rfl⟩) (by assumption) ?_; (try simp only [Act.put, sI, sZ, sS])
      refine wpAnyH_take (i := 10) (oi := ⟨some 181, _, _, _, _, _⟩) (v := undef) rfl (by kernel_rfl) (by kernel_rfl) (by kernel_rfl) (fun _ _ _ h => h) (Or.inr ⟨by kernel_rfl, rfl⟩) (by assumption) ?_; (try simp only [Act.put, sI, sZ, sS])
      refine wpAnyH_take (i := 11) (oi := ⟨some 182, _, _, _, _, _⟩) (v := ?_) rfl (by kernel_rfl) (by kernel_rfl) (by kernel_rfl) (fun _ _ _ h => h) (Or.inl ⟨by kernel_rfl, ?_⟩) (by assumption) ?_; rotate_left; (intro w hSw; (try dsimp only at hSw); go_simp; first | done | with_reducible rfl); (try simp only [Act.put, sI, sZ, sS])
      refine wpAnyH_take (i := 12) (oi := ⟨some 183, _, _, _, _, _⟩) (v := ?_) rfl (by kernel_rfl) (by kernel_rfl) (by kernel_rfl) (fun _ _ _ h => h) (Or.inl ⟨by kernel_rfl, ?_⟩) (by assumption) ?_; rotate_left; (intro w hSw; (try dsimp only at hSw); go_simp; first | done | with_reducible rfl); (try simp only [Act.put, sI, sZ, sS])
      refine wpAnyH_ready (rs := [13]) (by kernel_rfl) (by simp) ?_
      refine AllReadyH.cons (o := ⟨some 184, _, _, _, _, _⟩) rfl (fun K hK => ?_) AllReadyH.nil
      rw [if_pos (by rfl)]
      go_simp
      have hbD : Below w.heap.size w D := HBV.out.trans (HDR.out.mono HBV.out.size)
      refine (wakes5_ok D (HS.out.below hbD HS.out.lt)).mono ?_
      rintro e X8 ⟨rfl, b8⟩
      have hb8 : Below V.heap.size V X8 := HDR.out.trans (b8.mono HDR.out.size)
      have hS8 : (fun X : World => X.heap[bn]? = some (.cells #[.int .i64 ((PL.length : Nat) : Int)] 3 (0, 0)) ∧ X.heap[BP]? = some (.cells #[.pointer (some ⟨po, 0, none⟩)] 34 (0, 0)) ∧ X.heap[po]? = some (.cells #[.slice PA PL.length pcap] 60 (0, 0)) ∧ X.heap[B2]? = some (.cells #[.int .i64 a4] 3 (0, 0))) X8 := ⟨(hb8.block _ (heap_lt HS0.out.1)).trans HS0.out.1, (hb8.block _ (heap_lt HS0.out.2.1)).trans HS0.out.2.1, (hb8.block _ (heap_lt HS0.out.2.2.1)).trans HS0.out.2.2.1, (hb8.block _ (heap_lt HS0.out.2.2.2)).trans HS0.out.2.2.2⟩
      have HB8 := Lib.hid hb8
      clear b8 hbD
      refine hK.out _ _ hS8 (fun hSn => ?_)
      clear hK K; (try simp only [Act.put, sI, sZ, sS])
      refine wpAnyH_take (i := 14) (oi := ⟨some 185, _, _, _, _, _⟩) (v := ?_) rfl (by kernel_rfl) (by kernel_rfl) (by kernel_rfl) (fun _ _ _ h => h) (Or.inl ⟨by kernel_rfl, ?_⟩) (by assumption) ?_; rotate_left; (intro w hSw; (try dsimp only at hSw); go_simp; first | done | with_reducible rfl); (try simp only [Act.put, sI, sZ, sS])
      have g8 := (HB8.out.block _ (heap_lt HG3.out)).trans HG3.out
      have y0 : X8.cell? ⟨B3, 0, none⟩ = some (.bool false) := cell_of_row g8 rfl
      have yf0 : X8.frozen? ⟨B3, 0, none⟩ = false := free_of_row g8
      have m9 : Mod (fun k => k = B3) X8 (X8.setCell ⟨B3, 0, none⟩ (.bool true)) := Mod.setCell _ _ _ (.inl rfl)
      refine wpAnyH_ready (rs := [15]) (by kernel_rfl) (by simp) ?_
      refine AllReadyH.cons (o := ⟨none, _, _, _, _, _⟩) rfl (fun K hK => ?_) AllReadyH.nil
      rw [if_pos (by rfl)]
      go_simp
      obtain ⟨n1, n2, n3, n4, n5, n6⟩ := HNE.out
      have hS9 : (fun X : World => X.heap[bn]? = some (.cells #[.int .i64 ((PL.length : Nat) : Int)] 3 (0, 0)) ∧ X.heap[BP]? = some (.cells #[.pointer (some ⟨po, 0, none⟩)] 34 (0, 0)) ∧ X.heap[po]? = some (.cells #[.slice PA PL.length pcap] 60 (0, 0)) ∧ X.heap[B2]? = some (.cells #[.int .i64 a4] 3 (0, 0))) (X8.setCell ⟨B3, 0, none⟩ (.bool true)) := ⟨(m9.block _ (heap_lt hS8.1) (fun e => n2 e.symm)).trans hS8.1, (m9.block _ (heap_lt hS8.2.1) (fun e => n3 e.symm)).trans hS8.2.1, (m9.block _ (heap_lt hS8.2.2.1) (fun e => n4 e.symm)).trans hS8.2.2.1, (m9.block _ (heap_lt hS8.2.2.2) (fun e => n1 e)).trans hS8.2.2.2⟩
      refine hK.out _ _ hS9 (fun hSn => ?_)
      clear hK K; (try simp only [Act.put, sI, sZ, sS])
      refine wpAnyH_done (by kernel_rfl) ?_ _
      simp only [onlyN]
      have h9 := set_row (i := 0) (.bool true) g8
      have hd8 := (HB8.out.block _ (heap_lt HD.out)).trans HD.out
      have hd9 : (X8.setCell ⟨B3, 0, none⟩ (.bool true)).heap[W0.heap.size]? = some (.deferred (some [])) := (m9.block _ (heap_lt hd8) (by have := HNE.out; omega)).trans hd8
      have h5 : ((X8.setCell ⟨B3, 0, none⟩ (.bool true)).putObj W0.heap.size (.deferred none)).cell? ⟨B3, 0, none⟩ = some (.bool true) := cell_of_row ((World.putObj_heap_other (by have := HNE.out; omega)).trans h9) rfl
      have hB9 : Below w.heap.size w (X8.setCell ⟨B3, 0, none⟩ (.bool true)) := (HBV.out.trans (HB8.out.mono HBV.out.size)).setCell (by have := HNE.out; show w.heap.size ≤ B3; omega) _
      have hB7 : Below w.heap.size w ((X8.setCell ⟨B3, 0, none⟩ (.bool true)).putObj W0.heap.size (.deferred none)) := hB9.trans ((Mod.putObj (F := fun k => k = W0.heap.size) _ _ _ rfl).below hB9.size (fun k (e : k = W0.heap.size) => by have := HNE.out; omega))
      have HB7 := Lib.hid hB7
      clear h9 hd8 hB9 hB7 g8 y0 yf0 m9 hS8 hS9 hS1
      go_wp2_with fail
      refine ⟨by simp, .inl ⟨_, _, rfl, run_takeDeferred hd9, ?_⟩⟩
      exact ⟨.bool true, by simp [results, Tryz.f3, go_sem, h5], rfl, HB7.out⟩
    case stop =>
      rintro c pre V hsp ⟨rfl, hi, hlv⟩ hd
      refine wpIn_wide.2 ?_
      by_cases hnl : pre.length = PL.length
      · rw [hnl] at hi
        have h14V : Below W14.heap.size W14 V := hi.below HB140.out HN0.out.2.1
        have h1V := HB14.out.trans (h14V.mono HB14.out.size)
        have hrv := HP14.out.under h14V
        have hpb := hrv.box
        have g7 : V.heap[BP]? = some (.cells #[.pointer (some ⟨po, 0, none⟩)] 34 (0, 0)) := ((HB714.out.trans (h14V.mono HB714.out.size)).block _ (heap_lt G7.out)).trans G7.out
        have g2 := (h1V.block _ (heap_lt G1.out.2.2.1)).trans G1.out.2.2.1
        have g3 := (h1V.block _ (heap_lt G1.out.2.2.2)).trans G1.out.2.2.2
        have hne : B2 ≠ B3 ∧ B3 ≠ bn ∧ B3 ≠ BP ∧ B3 ≠ po ∧ B3 < W0.heap.size ∧ w.heap.size ≤ B3 := by
          have h1 := HN0.out; have h2 := heap_lt G1.out.2.2.2; have h3 := HB14.out.size; have h4 := HBP.out; have h5 := HB6.out.size; have h6 := HP14.out.low; have h7 := HB5.out.size; have h8 := HBK.out
          omega
        rw [HPC.out, colC_len] at hpb
        have hS0 : (fun X : World => X.heap[bn]? = some (.cells #[.int .i64 ((PL.length : Nat) : Int)] 3 (0, 0)) ∧ X.heap[BP]? = some (.cells #[.pointer (some ⟨po, 0, none⟩)] 34 (0, 0)) ∧ X.heap[po]? = some (.cells #[.slice PA PL.length pcap] 60 (0, 0)) ∧ X.heap[B2]? = some (.cells #[.int .i64 a4] 3 (0, 0))) V := ⟨hi.nb, g7, hpb, g2⟩
        have HS0 := Lib.hid hS0
        have HG3 := Lib.hid g3
        have HD := Lib.hid hd
        have HNE := Lib.hid hne
        have HBV : Hid (Below w.heap.size w V) := HB1.out.trans (h1V.mono HB1.out.size)
        have HZ : Hid (W0.heap.size + 2 ≤ V.heap.size) := hi.size
        clear h14V h1V hrv hpb g7 g2 g3 hne hS0 hi hd
        subst hT
        go_wp2_with fail
        refine wp_mono ?_ only_n
        refine wp_region_held (S := (fun X : World => X.heap[bn]? = some (.cells #[.int .i64 ((PL.length : Nat) : Int)] 3 (0, 0)) ∧ X.heap[BP]? = some (.cells #[.pointer (some ⟨po, 0, none⟩)] 34 (0, 0)) ∧ X.heap[po]? = some (.cells #[.slice PA PL.length pcap] 60 (0, 0)) ∧ X.heap[B2]? = some (.cells #[.int .i64 a4] 3 (0, 0)))) (by kernel_rfl) ?_
        show wpAnyH _ _ _ _ _ _ _ _ V.drew
        have hdr := drew_below V
        have hS1 : (fun X : World => X.heap[bn]? = some (.cells #[.int .i64 ((PL.length : Nat) : Int)] 3 (0, 0)) ∧ X.heap[BP]? = some (.cells #[.pointer (some ⟨po, 0, none⟩)] 34 (0, 0)) ∧ X.heap[po]? = some (.cells #[.slice PA PL.length pcap] 60 (0, 0)) ∧ X.heap[B2]? = some (.cells #[.int .i64 a4] 3 (0, 0))) V.drew := ⟨(hdr.block _ (heap_lt HS0.out.1)).trans HS0.out.1, (hdr.block _ (heap_lt HS0.out.2.1)).trans HS0.out.2.1, (hdr.block _ (heap_lt HS0.out.2.2.1)).trans HS0.out.2.2.1, (hdr.block _ (heap_lt HS0.out.2.2.2)).trans HS0.out.2.2.2⟩
        have HDR := Lib.hid hdr
        clear hdr
        generalize V.drew = D at hS1 HDR ⊢
        refine wpAnyH_take (i := 0) (oi := ⟨some 171, _, _, _, _, _⟩) (v := ?_) rfl (by kernel_rfl) (by kernel_rfl) (by kernel_rfl) (fun _ _ _ h => h) (Or.inl ⟨by kernel_rfl, ?_⟩) (by assumption) ?_; rotate_left; (intro w hSw; (try dsimp only at hSw); obtain ⟨s0, s1, s2, s3⟩ := hSw; have r0 := cell_of_row (i := 0) s0 rfl; have r1 := cell_of_row (i := 0) s1 rfl; have r2 := cell_of_row (i := 0) s2 rfl; have r3 := cell_of_row (i := 0) s3 rfl; go_simp; first | done | with_reducible rfl); (try simp only [Act.put, sI, sZ, sS])
        refine wpAnyH_take (i := 1) (oi := ⟨some 172, _, _, _, _, _⟩) (v := ?_) rfl (by kernel_rfl) (by kernel_rfl) (by kernel_rfl) (fun _ _ _ h => h) (Or.inl ⟨by kernel_rfl, ?_⟩) (by assumption) ?_; rotate_left; (intro w hSw; (try dsimp only at hSw); obtain ⟨s0, s1, s2, s3⟩ := hSw; have r0 := cell_of_row (i := 0) s0 rfl; have r1 := cell_of_row (i := 0) s1 rfl; have r2 := cell_of_row (i := 0) s2 rfl; have r3 := cell_of_row (i := 0) s3 rfl; go_simp; first | done | with_reducible rfl); (try simp only [Act.put, sI, sZ, sS])
        refine wpAnyH_take (i := 2) (oi := ⟨some 173, _, _, _, _, _⟩) (v := ?_) rfl (by kernel_rfl) (by kernel_rfl) (by kernel_rfl) (fun _ _ _ h => h) (Or.inl ⟨by kernel_rfl, ?_⟩) (by assumption) ?_; rotate_left; (intro w hSw; (try dsimp only at hSw); go_simp; first | done | with_reducible rfl); (try simp only [Act.put, sI, sZ, sS])
        refine wpAnyH_take (i := 3) (oi := ⟨some 174, _, _, _, _, _⟩) (v := ?_) rfl (by kernel_rfl) (by kernel_rfl) (by kernel_rfl) (fun _ _ _ h => h) (Or.inl ⟨by kernel_rfl, ?_⟩) (by assumption) ?_; rotate_left; (intro w hSw; (try dsimp only at hSw); go_simp; first | done | with_reducible rfl); (try simp only [Act.put, sI, sZ, sS])
        refine wpAnyH_take (i := 4) (oi := ⟨some 175, _, _, _, _, _⟩) (v := ?_) rfl (by kernel_rfl) (by kernel_rfl) (by kernel_rfl) (fun _ _ _ h => h) (Or.inl ⟨by kernel_rfl, ?_⟩) (by assumption) ?_; rotate_left; (intro w hSw; (try dsimp only at hSw); obtain ⟨s0, s1, s2, s3⟩ := hSw; have r0 := cell_of_row (i := 0) s0 rfl; have r1 := cell_of_row (i := 0) s1 rfl; have r2 := cell_of_row (i := 0) s2 rfl; have r3 := cell_of_row (i := 0) s3 rfl; go_simp; first | done | with_reducible rfl); (try simp only [Act.put, sI, sZ, sS])
        refine wpAnyH_take (i := 5) (oi := ⟨some 176, _, _, _, _, _⟩) (v := ?_) rfl (by kernel_rfl) (by kernel_rfl) (by kernel_rfl) (fun _ _ _ h => h) (Or.inl ⟨by kernel_rfl, ?_⟩) (by assumption) ?_; rotate_left; (intro w hSw; (try dsimp only at hSw); go_simp; first | done | with_reducible rfl); (try simp only [Act.put, sI, sZ, sS])
        refine wpAnyH_take (i := 6) (oi := ⟨some 177, _, _, _, _, _⟩) (v := ?_) rfl (by kernel_rfl) (by kernel_rfl) (by kernel_rfl) (fun _ _ _ h => h) (Or.inl ⟨by kernel_rfl, ?_⟩) (by assumption) ?_; rotate_left; (intro w hSw; (try dsimp only at hSw); go_simp; first | done | with_reducible rfl); (try simp only [Act.put, sI, sZ, sS])
        refine wpAnyH_take (i := 7) (oi := ⟨some 178, _, _, _, _, _⟩) (v := ?_) rfl (by kernel_rfl) (by kernel_rfl) (by kernel_rfl) (fun _ _ _ h => h) (Or.inl ⟨by kernel_rfl, ?_⟩) (by assumption) ?_; rotate_left; (intro w hSw; (try dsimp only at hSw); go_simp; first | done | with_reducible rfl); (try simp only [Act.put, sI, sZ, sS])
        refine wpAnyH_take (i := 8) (oi := ⟨some 179, _, _, _, _, _⟩) (v := undef) rfl (by kernel_rfl) (by kernel_rfl) (by kernel_rfl) (fun _ _ _ h => h) (Or.inr ⟨by kernel_rfl, rfl⟩) (by assumption) ?_; (try simp only [Act.put, sI, sZ, sS])
        refine wpAnyH_take (i := 9) (oi := ⟨some 180, _, _, _, _, _⟩) (v := undef) rfl (by kernel_rfl) (by kernel_rfl) (by kernel_rfl) (fun _ _ _ h => h) (Or.inr ⟨by kernel_rfl, rfl⟩) (by assumption) ?_; (try simp only [Act.put, sI, sZ, sS])
        refine wpAnyH_take (i := 10) (oi := ⟨some 181, _, _, _, _, _⟩) (v := undef) rfl (by kernel_rfl) (by kernel_rfl) (by kernel_rfl) (fun _ _ _ h => h) (Or.inr ⟨by kernel_rfl, rfl⟩) (by assumption) ?_; (try simp only [Act.put, sI, sZ, sS])
        refine wpAnyH_take (i := 11) (oi := ⟨some 182, _, _, _, _, _⟩) (v := ?_) rfl (by kernel_rfl) (by kernel_rfl) (by kernel_rfl) (fun _ _ _ h => h) (Or.inl ⟨by kernel_rfl, ?_⟩) (by assumption) ?_; rotate_left; (intro w hSw; (try dsimp only at hSw); go_simp; first | done | with_reducible rfl); (try simp only [Act.put, sI, sZ, sS])
        refine wpAnyH_take (i := 12) (oi := ⟨some 183, _, _, _, _, _⟩) (v := ?_) rfl (by kernel_rfl) (by kernel_rfl) (by kernel_rfl) (fun _ _ _ h => h) (Or.inl ⟨by kernel_rfl, ?_⟩) (by assumption) ?_; rotate_left; (intro w hSw; (try dsimp only at hSw); go_simp; first | done | with_reducible rfl); (try simp only [Act.put, sI, sZ, sS])
        refine wpAnyH_ready (rs := [13]) (by kernel_rfl) (by simp) ?_
        refine AllReadyH.cons (o := ⟨some 184, _, _, _, _, _⟩) rfl (fun K hK => ?_) AllReadyH.nil
        rw [if_pos (by rfl)]
        go_simp
        have hbD : Below w.heap.size w D := HBV.out.trans (HDR.out.mono HBV.out.size)
        refine (wakes5_ok D (HS.out.below hbD HS.out.lt)).mono ?_
        rintro e X8 ⟨rfl, b8⟩
        have hb8 : Below V.heap.size V X8 := HDR.out.trans (b8.mono HDR.out.size)
        have hS8 : (fun X : World => X.heap[bn]? = some (.cells #[.int .i64 ((PL.length : Nat) : Int)] 3 (0, 0)) ∧ X.heap[BP]? = some (.cells #[.pointer (some ⟨po, 0, none⟩)] 34 (0, 0)) ∧ X.heap[po]? = some (.cells #[.slice PA PL.length pcap] 60 (0, 0)) ∧ X.heap[B2]? = some (.cells #[.int .i64 a4] 3 (0, 0))) X8 := ⟨(hb8.block _ (heap_lt HS0.out.1)).trans HS0.out.1, (hb8.block _ (heap_lt HS0.out.2.1)).trans HS0.out.2.1, (hb8.block _ (heap_lt HS0.out.2.2.1)).trans HS0.out.2.2.1, (hb8.block _ (heap_lt HS0.out.2.2.2)).trans HS0.out.2.2.2⟩
        have HB8 := Lib.hid hb8
        clear b8 hbD
        refine hK.out _ _ hS8 (fun hSn => ?_)
        clear hK K; (try simp only [Act.put, sI, sZ, sS])
        refine wpAnyH_take (i := 14) (oi := ⟨some 185, _, _, _, _, _⟩) (v := ?_) rfl (by kernel_rfl) (by kernel_rfl) (by kernel_rfl) (fun _ _ _ h => h) (Or.inl ⟨by kernel_rfl, ?_⟩) (by assumption) ?_; rotate_left; (intro w hSw; (try dsimp only at hSw); go_simp; first | done | with_reducible rfl); (try simp only [Act.put, sI, sZ, sS])
        have g8 := (HB8.out.block _ (heap_lt HG3.out)).trans HG3.out
        have y0 : X8.cell? ⟨B3, 0, none⟩ = some (.bool false) := cell_of_row g8 rfl
        have yf0 : X8.frozen? ⟨B3, 0, none⟩ = false := free_of_row g8
        have m9 : Mod (fun k => k = B3) X8 (X8.setCell ⟨B3, 0, none⟩ (.bool true)) := Mod.setCell _ _ _ (.inl rfl)
        refine wpAnyH_ready (rs := [15]) (by kernel_rfl) (by simp) ?_
        refine AllReadyH.cons (o := ⟨none, _, _, _, _, _⟩) rfl (fun K hK => ?_) AllReadyH.nil
        rw [if_pos (by rfl)]
        go_simp
        obtain ⟨n1, n2, n3, n4, n5, n6⟩ := HNE.out
        have hS9 : (fun X : World => X.heap[bn]? = some (.cells #[.int .i64 ((PL.length : Nat) : Int)] 3 (0, 0)) ∧ X.heap[BP]? = some (.cells #[.pointer (some ⟨po, 0, none⟩)] 34 (0, 0)) ∧ X.heap[po]? = some (.cells #[.slice PA PL.length pcap] 60 (0, 0)) ∧ X.heap[B2]? = some (.cells #[.int .i64 a4] 3 (0, 0))) (X8.setCell ⟨B3, 0, none⟩ (.bool true)) := ⟨(m9.block _ (heap_lt hS8.1) (fun e => n2 e.symm)).trans hS8.1, (m9.block _ (heap_lt hS8.2.1) (fun e => n3 e.symm)).trans hS8.2.1, (m9.block _ (heap_lt hS8.2.2.1) (fun e => n4 e.symm)).trans hS8.2.2.1, (m9.block _ (heap_lt hS8.2.2.2) (fun e => n1 e)).trans hS8.2.2.2⟩
        refine hK.out _ _ hS9 (fun hSn => ?_)
        clear hK K; (try simp only [Act.put, sI, sZ, sS])
        refine wpAnyH_done (by kernel_rfl) ?_ _
        simp only [onlyN]
        have h9 := set_row (i := 0) (.bool true) g8
        have hd8 := (HB8.out.block _ (heap_lt HD.out)).trans HD.out
        have hd9 : (X8.setCell ⟨B3, 0, none⟩ (.bool true)).heap[W0.heap.size]? = some (.deferred (some [])) := (m9.block _ (heap_lt hd8) (by have := HNE.out; omega)).trans hd8
        have h5 : ((X8.setCell ⟨B3, 0, none⟩ (.bool true)).putObj W0.heap.size (.deferred none)).cell? ⟨B3, 0, none⟩ = some (.bool true) := cell_of_row ((World.putObj_heap_other (by have := HNE.out; omega)).trans h9) rfl
        have hB9 : Below w.heap.size w (X8.setCell ⟨B3, 0, none⟩ (.bool true)) := (HBV.out.trans (HB8.out.mono HBV.out.size)).setCell (by have := HNE.out; show w.heap.size ≤ B3; omega) _
        have hB7 : Below w.heap.size w ((X8.setCell ⟨B3, 0, none⟩ (.bool true)).putObj W0.heap.size (.deferred none)) := hB9.trans ((Mod.putObj (F := fun k => k = W0.heap.size) _ _ _ rfl).below hB9.size (fun k (e : k = W0.heap.size) => by have := HNE.out; omega))
        have HB7 := Lib.hid hB7
        clear h9 hd8 hB9 hB7 g8 y0 yf0 m9 hS8 hS9 hS1
        go_wp2_with fail
        refine ⟨by simp, .inl ⟨_, _, rfl, run_takeDeferred hd9, ?_⟩⟩
        exact ⟨.bool true, by simp [results, Tryz.f3, go_sem, h5], rfl, HB7.out⟩
      · obtain ⟨kn, hkn⟩ : ∃ k, k = pre.length := ⟨_, rfl⟩
        rw [← hkn] at hi hlv hnl
        clear hkn
        have h14V : Below W14.heap.size W14 V := hi.below HB140.out HN0.out.2.1
        have h1V := HB14.out.trans (h14V.mono HB14.out.size)
        have hrv := HP14.out.under h14V
        have hpb := hrv.box
        have g7 : V.heap[BP]? = some (.cells #[.pointer (some ⟨po, 0, none⟩)] 34 (0, 0)) := ((HB714.out.trans (h14V.mono HB714.out.size)).block _ (heap_lt G7.out)).trans G7.out
        have g2 := (h1V.block _ (heap_lt G1.out.2.2.1)).trans G1.out.2.2.1
        have g3 := (h1V.block _ (heap_lt G1.out.2.2.2)).trans G1.out.2.2.2
        have hne : B2 ≠ B3 ∧ B3 ≠ bn ∧ B3 ≠ BP ∧ B3 ≠ po ∧ B3 < W0.heap.size ∧ w.heap.size ≤ B3 := by
          have h1 := HN0.out; have h2 := heap_lt G1.out.2.2.2; have h3 := HB14.out.size; have h4 := HBP.out; have h5 := HB6.out.size; have h6 := HP14.out.low; have h7 := HB5.out.size; have h8 := HBK.out
          omega
        rw [HPC.out, colC_len] at hpb
        have hS0 : (fun X : World => X.heap[bn]? = some (.cells #[.int .i64 ((kn : Nat) : Int)] 3 (0, 0)) ∧ X.heap[BP]? = some (.cells #[.pointer (some ⟨po, 0, none⟩)] 34 (0, 0)) ∧ X.heap[po]? = some (.cells #[.slice PA PL.length pcap] 60 (0, 0)) ∧ X.heap[B2]? = some (.cells #[.int .i64 a4] 3 (0, 0))) V := ⟨hi.nb, g7, hpb, g2⟩
        have HS0 := Lib.hid hS0
        have HG3 := Lib.hid g3
        have HD := Lib.hid hd
        have HNE := Lib.hid hne
        have HBV : Hid (Below w.heap.size w V) := HB1.out.trans (h1V.mono HB1.out.size)
        have HZ : Hid (W0.heap.size + 2 ≤ V.heap.size) := hi.size
        clear h14V h1V hrv hpb g7 g2 g3 hne hS0 hi hd
        subst hT
        have hl0 : (((kn : Nat) : Int) == ((PL.length : Nat) : Int)) = false := by rw [beq_eq_false_iff_ne]; omega
        have hl00 : decide (kn = PL.length) = false := by rw [decide_eq_false_iff_not]; exact hnl
        have hl1 : (((kn : Nat) : Int) == a4) = true := by rw [beq_iff_eq]; exact hlv
        have hl2 : decide (((kn : Nat) : Int) = a4) = true := decide_eq_true hlv
        clear hlv
        go_wp2_with fail
        refine wp_mono ?_ only_n
        refine wp_region_held (S := (fun X : World => X.heap[bn]? = some (.cells #[.int .i64 ((kn : Nat) : Int)] 3 (0, 0)) ∧ X.heap[BP]? = some (.cells #[.pointer (some ⟨po, 0, none⟩)] 34 (0, 0)) ∧ X.heap[po]? = some (.cells #[.slice PA PL.length pcap] 60 (0, 0)) ∧ X.heap[B2]? = some (.cells #[.int .i64 a4] 3 (0, 0)))) (by kernel_rfl) ?_
        show wpAnyH _ _ _ _ _ _ _ _ V.drew
        have hdr := drew_below V
        have hS1 : (fun X : World => X.heap[bn]? = some (.cells #[.int .i64 ((kn : Nat) : Int)] 3 (0, 0)) ∧ X.heap[BP]? = some (.cells #[.pointer (some ⟨po, 0, none⟩)] 34 (0, 0)) ∧ X.heap[po]? = some (.cells #[.slice PA PL.length pcap] 60 (0, 0)) ∧ X.heap[B2]? = some (.cells #[.int .i64 a4] 3 (0, 0))) V.drew := ⟨(hdr.block _ (heap_lt HS0.out.1)).trans HS0.out.1, (hdr.block _ (heap_lt HS0.out.2.1)).trans HS0.out.2.1, (hdr.block _ (heap_lt HS0.out.2.2.1)).trans HS0.out.2.2.1, (hdr.block _ (heap_lt HS0.out.2.2.2)).trans HS0.out.2.2.2⟩
        have HDR := Lib.hid hdr
        clear hdr
        generalize V.drew = D at hS1 HDR ⊢
        refine wpAnyH_take (i := 0) (oi := ⟨some 171, _, _, _, _, _⟩) (v := ?_) rfl (by kernel_rfl) (by kernel_rfl) (by kernel_rfl) (fun _ _ _ h => h) (Or.inl ⟨by kernel_rfl, ?_⟩) (by assumption) ?_; rotate_left; (intro w hSw; (try dsimp only at hSw); obtain ⟨s0, s1, s2, s3⟩ := hSw; have r0 := cell_of_row (i := 0) s0 rfl; have r1 := cell_of_row (i := 0) s1 rfl; have r2 := cell_of_row (i := 0) s2 rfl; have r3 := cell_of_row (i := 0) s3 rfl; go_simp; first | done | with_reducible rfl); (try simp only [Act.put, sI, sZ, sS])
        refine wpAnyH_take (i := 1) (oi := ⟨some 172, _, _, _, _, _⟩) (v := ?_) rfl (by kernel_rfl) (by kernel_rfl) (by kernel_rfl) (fun _ _ _ h => h) (Or.inl ⟨by kernel_rfl, ?_⟩) (by assumption) ?_; rotate_left; (intro w hSw; (try dsimp only at hSw); obtain ⟨s0, s1, s2, s3⟩ := hSw; have r0 := cell_of_row (i := 0) s0 rfl; have r1 := cell_of_row (i := 0) s1 rfl; have r2 := cell_of_row (i := 0) s2 rfl; have r3 := cell_of_row (i := 0) s3 rfl; go_simp; first | done | with_reducible rfl); (try simp only [Act.put, sI, sZ, sS])
        refine wpAnyH_take (i := 2) (oi := ⟨some 173, _, _, _, _, _⟩) (v := ?_) rfl (by kernel_rfl) (by kernel_rfl) (by kernel_rfl) (fun _ _ _ h => h) (Or.inl ⟨by kernel_rfl, ?_⟩) (by assumption) ?_; rotate_left; (intro w hSw; (try dsimp only at hSw); go_simp; first | done | with_reducible rfl); (try simp only [Act.put, sI, sZ, sS])
        refine wpAnyH_take (i := 3) (oi := ⟨some 174, _, _, _, _, _⟩) (v := ?_) rfl (by kernel_rfl) (by kernel_rfl) (by kernel_rfl) (fun _ _ _ h => h) (Or.inl ⟨by kernel_rfl, ?_⟩) (by assumption) ?_; rotate_left; (intro w hSw; (try dsimp only at hSw); go_simp; first | done | with_reducible rfl); (try simp only [Act.put, sI, sZ, sS])
        refine wpAnyH_take (i := 4) (oi := ⟨some 175, _, _, _, _, _⟩) (v := ?_) rfl (by kernel_rfl) (by kernel_rfl) (by kernel_rfl) (fun _ _ _ h => h) (Or.inl ⟨by kernel_rfl, ?_⟩) (by assumption) ?_; rotate_left; (intro w hSw; (try dsimp only at hSw); obtain ⟨s0, s1, s2, s3⟩ := hSw; have r0 := cell_of_row (i := 0) s0 rfl; have r1 := cell_of_row (i := 0) s1 rfl; have r2 := cell_of_row (i := 0) s2 rfl; have r3 := cell_of_row (i := 0) s3 rfl; go_simp; first | done | with_reducible rfl); (try simp only [Act.put, sI, sZ, sS])
        refine wpAnyH_take (i := 5) (oi := ⟨some 176, _, _, _, _, _⟩) (v := ?_) rfl (by kernel_rfl) (by kernel_rfl) (by kernel_rfl) (fun _ _ _ h => h) (Or.inl ⟨by kernel_rfl, ?_⟩) (by assumption) ?_; rotate_left; (intro w hSw; (try dsimp only at hSw); go_simp; first | done | with_reducible rfl); (try simp only [Act.put, sI, sZ, sS])
        refine wpAnyH_take (i := 6) (oi := ⟨some 177, _, _, _, _, _⟩) (v := ?_) rfl (by kernel_rfl) (by kernel_rfl) (by kernel_rfl) (fun _ _ _ h => h) (Or.inl ⟨by kernel_rfl, ?_⟩) (by assumption) ?_; rotate_left; (intro w hSw; (try dsimp only at hSw); go_simp; first | done | with_reducible rfl); (try simp only [Act.put, sI, sZ, sS])
        refine wpAnyH_take (i := 7) (oi := ⟨some 178, _, _, _, _, _⟩) (v := ?_) rfl (by kernel_rfl) (by kernel_rfl) (by kernel_rfl) (fun _ _ _ h => h) (Or.inl ⟨by kernel_rfl, ?_⟩) (by assumption) ?_; rotate_left; (intro w hSw; (try dsimp only at hSw); go_simp; first | done | with_reducible rfl); (try simp only [Act.put, sI, sZ, sS])
        refine wpAnyH_take (i := 8) (oi := ⟨some 179, _, _, _, _, _⟩) (v := ?_) rfl (by kernel_rfl) (by kernel_rfl) (by kernel_rfl) (fun _ _ _ h => h) (Or.inl ⟨by kernel_rfl, ?_⟩) (by assumption) ?_; rotate_left; (intro w hSw; (try dsimp only at hSw); obtain ⟨s0, s1, s2, s3⟩ := hSw; have r0 := cell_of_row (i := 0) s0 rfl; have r1 := cell_of_row (i := 0) s1 rfl; have r2 := cell_of_row (i := 0) s2 rfl; have r3 := cell_of_row (i := 0) s3 rfl; go_simp; first | done | with_reducible rfl); (try simp only [Act.put, sI, sZ, sS])
        refine wpAnyH_take (i := 9) (oi := ⟨some 180, _, _, _, _, _⟩) (v := ?_) rfl (by kernel_rfl) (by kernel_rfl) (by kernel_rfl) (fun _ _ _ h => h) (Or.inl ⟨by kernel_rfl, ?_⟩) (by assumption) ?_; rotate_left; (intro w hSw; (try dsimp only at hSw); obtain ⟨s0, s1, s2, s3⟩ := hSw; have r0 := cell_of_row (i := 0) s0 rfl; have r1 := cell_of_row (i := 0) s1 rfl; have r2 := cell_of_row (i := 0) s2 rfl; have r3 := cell_of_row (i := 0) s3 rfl; go_simp; first | done | with_reducible rfl); (try simp only [Act.put, sI, sZ, sS])
        refine wpAnyH_take (i := 10) (oi := ⟨some 181, _, _, _, _, _⟩) (v := ?_) rfl (by kernel_rfl) (by kernel_rfl) (by kernel_rfl) (fun _ _ _ h => h) (Or.inl ⟨by kernel_rfl, ?_⟩) (by assumption) ?_; rotate_left; (intro w hSw; (try dsimp only at hSw); go_simp; first | done | with_reducible rfl); (try simp only [Act.put, sI, sZ, sS])
        refine wpAnyH_take (i := 11) (oi := ⟨some 182, _, _, _, _, _⟩) (v := ?_) rfl (by kernel_rfl) (by kernel_rfl) (by kernel_rfl) (fun _ _ _ h => h) (Or.inl ⟨by kernel_rfl, ?_⟩) (by assumption) ?_; rotate_left; (intro w hSw; (try dsimp only at hSw); go_simp; first | done | with_reducible rfl); (try simp only [Act.put, sI, sZ, sS])
        refine wpAnyH_take (i := 12) (oi := ⟨some 183, _, _, _, _, _⟩) (v := ?_) rfl (by kernel_rfl) (by kernel_rfl) (by kernel_rfl) (fun _ _ _ h => h) (Or.inl ⟨by kernel_rfl, ?_⟩) (by assumption) ?_; rotate_left; (intro w hSw; (try dsimp only at hSw); go_simp; first | done | with_reducible rfl); (try simp only [Act.put, sI, sZ, sS])
        refine wpAnyH_ready (rs := [13]) (by kernel_rfl) (by simp) ?_
        refine AllReadyH.cons (o := ⟨some 184, _, _, _, _, _⟩) rfl (fun K hK => ?_) AllReadyH.nil
        rw [if_pos (by rfl)]
        go_simp
        have hbD : Below w.heap.size w D := HBV.out.trans (HDR.out.mono HBV.out.size)
        refine (wakes5_ok D (HS.out.below hbD HS.out.lt)).mono ?_
        rintro e X8 ⟨rfl, b8⟩
        have hb8 : Below V.heap.size V X8 := HDR.out.trans (b8.mono HDR.out.size)
        have hS8 : (fun X : World => X.heap[bn]? = some (.cells #[.int .i64 ((kn : Nat) : Int)] 3 (0, 0)) ∧ X.heap[BP]? = some (.cells #[.pointer (some ⟨po, 0, none⟩)] 34 (0, 0)) ∧ X.heap[po]? = some (.cells #[.slice PA PL.length pcap] 60 (0, 0)) ∧ X.heap[B2]? = some (.cells #[.int .i64 a4] 3 (0, 0))) X8 := ⟨(hb8.block _ (heap_lt HS0.out.1)).trans HS0.out.1, (hb8.block _ (heap_lt HS0.out.2.1)).trans HS0.out.2.1, (hb8.block _ (heap_lt HS0.out.2.2.1)).trans HS0.out.2.2.1, (hb8.block _ (heap_lt HS0.out.2.2.2)).trans HS0.out.2.2.2⟩
        have HB8 := Lib.hid hb8
        clear b8 hbD
        refine hK.out _ _ hS8 (fun hSn => ?_)
        clear hK K; (try simp only [Act.put, sI, sZ, sS])
        refine wpAnyH_take (i := 14) (oi := ⟨some 185, _, _, _, _, _⟩) (v := ?_) rfl (by kernel_rfl) (by kernel_rfl) (by kernel_rfl) (fun _ _ _ h => h) (Or.inl ⟨by kernel_rfl, ?_⟩) (by assumption) ?_; rotate_left; (intro w hSw; (try dsimp only at hSw); go_simp; first | done | with_reducible rfl); (try simp only [Act.put, sI, sZ, sS])
        have g8 := (HB8.out.block _ (heap_lt HG3.out)).trans HG3.out
        have y0 : X8.cell? ⟨B3, 0, none⟩ = some (.bool false) := cell_of_row g8 rfl
        have yf0 : X8.frozen? ⟨B3, 0, none⟩ = false := free_of_row g8
        have m9 : Mod (fun k => k = B3) X8 (X8.setCell ⟨B3, 0, none⟩ (.bool true)) := Mod.setCell _ _ _ (.inl rfl)
        refine wpAnyH_ready (rs := [15]) (by kernel_rfl) (by simp) ?_
        refine AllReadyH.cons (o := ⟨none, _, _, _, _, _⟩) rfl (fun K hK => ?_) AllReadyH.nil
        rw [if_pos (by rfl)]
        go_simp
        obtain ⟨n1, n2, n3, n4, n5, n6⟩ := HNE.out
        have hS9 : (fun X : World => X.heap[bn]? = some (.cells #[.int .i64 ((kn : Nat) : Int)] 3 (0, 0)) ∧ X.heap[BP]? = some (.cells #[.pointer (some ⟨po, 0, none⟩)] 34 (0, 0)) ∧ X.heap[po]? = some (.cells #[.slice PA PL.length pcap] 60 (0, 0)) ∧ X.heap[B2]? = some (.cells #[.int .i64 a4] 3 (0, 0))) (X8.setCell ⟨B3, 0, none⟩ (.bool true)) := ⟨(m9.block _ (heap_lt hS8.1) (fun e => n2 e.symm)).trans hS8.1, (m9.block _ (heap_lt hS8.2.1) (fun e => n3 e.symm)).trans hS8.2.1, (m9.block _ (heap_lt hS8.2.2.1) (fun e => n4 e.symm)).trans hS8.2.2.1, (m9.block _ (heap_lt hS8.2.2.2) (fun e => n1 e)).trans hS8.2.2.2⟩
        refine hK.out _ _ hS9 (fun hSn => ?_)
        clear hK K; (try simp only [Act.put, sI, sZ, sS])
        refine wpAnyH_done (by kernel_rfl) ?_ _
        simp only [onlyN]
        have h9 := set_row (i := 0) (.bool true) g8
        have hd8 := (HB8.out.block _ (heap_lt HD.out)).trans HD.out
        have hd9 : (X8.setCell ⟨B3, 0, none⟩ (.bool true)).heap[W0.heap.size]? = some (.deferred (some [])) := (m9.block _ (heap_lt hd8) (by have := HNE.out; omega)).trans hd8
        have h5 : ((X8.setCell ⟨B3, 0, none⟩ (.bool true)).putObj W0.heap.size (.deferred none)).cell? ⟨B3, 0, none⟩ = some (.bool true) := cell_of_row ((World.putObj_heap_other (by have := HNE.out; omega)).trans h9) rfl
        have hB9 : Below w.heap.size w (X8.setCell ⟨B3, 0, none⟩ (.bool true)) := (HBV.out.trans (HB8.out.mono HBV.out.size)).setCell (by have := HNE.out; show w.heap.size ≤ B3; omega) _
        have hB7 : Below w.heap.size w ((X8.setCell ⟨B3, 0, none⟩ (.bool true)).putObj W0.heap.size (.deferred none)) := hB9.trans ((Mod.putObj (F := fun k => k = W0.heap.size) _ _ _ rfl).below hB9.size (fun k (e : k = W0.heap.size) => by have := HNE.out; omega))
        have HB7 := Lib.hid hB7
        clear h9 hd8 hB9 hB7 g8 y0 yf0 m9 hS8 hS9 hS1
        go_wp2_with fail
        refine ⟨by simp, .inl ⟨_, _, rfl, run_takeDeferred hd9, ?_⟩⟩
        exact ⟨.bool true, by simp [results, Tryz.f3, go_sem, h5], rfl, HB7.out⟩
end Go.Proofs.YtaemfjmmklpjeaaGreatDoor
