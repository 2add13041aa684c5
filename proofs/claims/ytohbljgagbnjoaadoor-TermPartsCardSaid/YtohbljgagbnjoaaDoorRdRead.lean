/- term.Read at a term's text. -/
import Derived.Test.YtohbljgagbnjoaaDoorRdTm
import Derived.Test.YtohbljgagbnjoaaDoorSizeT
import Derived.Deep.RegionHeld
import Derived.OrdersHeld
set_option linter.unusedVariables false
namespace Go.Proofs.YtohbljgagbnjoaaDoor
open Go.RowKit

/-- The result's box holds these cells, the reader's block its own; nothing else was turned since V0. -/
structure SRead (V0 : World) (B rb : Nat) (cs : Array Value) (s : ByteArray) (q bg : Nat) (V : World) : Prop where
  box : V.heap[B]? = some (.cells cs 25 (0, 0))
  rd : V.heap[rb]? = some (.cells #[.string s, .int .i64 q, .int .i64 bg] 74 (0, 0))
  mod : Mod (fun k => k = B) V0 V

theorem SRead.set {V0 V V' : World} {B q bg : Nat} {cs cs' : Array Value} {s : ByteArray} (h : SRead V0 B (B + 1) cs s q bg V) (hb : V'.heap[B]? = some (.cells cs' 25 (0, 0))) (m : Mod (fun k => k = B) V V') : SRead V0 B (B + 1) cs' s q bg V' :=
  ⟨hb, (m.block _ (heap_lt h.rd) (by omega)).trans h.rd, h.mod.trans m (fun _ _ h => h)⟩

set_option maxHeartbeats 4000000 in
set_option maxRecDepth 100000 in
theorem Read_ok (x : Tm) (hV : Valid x) (hn : x.nodes ≤ 256) (s : ByteArray) (hsz : s.size ≤ 1099511627776) {r : List UInt8} (hd : s.data.toList = txt x ++ r) (hr : Good r) (w : World) (hS : Spans w) (hp : PowTab w) :
    Calls Tryd.prog 15 #[.string s] w fun e w' => ∃ tv, e = .returned (.tuple #[tv, .int .i64 (txt x).length, .int .i64 0]) ∧ TmAt (fun b => w.heap.size ≤ b ∧ b < w'.heap.size) w' x tv ∧ Below w.heap.size w w' := by
  obtain ⟨w1, hw1⟩ : ∃ w1, w1 = (w.alloc termZ).alloc (.cells #[.string s, .int .i64 0, .int .i64 0] 74) := ⟨_, rfl⟩
  have z1 : (w.alloc termZ).heap.size = w.heap.size + 1 := World.size_alloc _ _
  have b1 : Below w.heap.size w w1 := by rw [hw1]; exact ((Below.refl _ w).alloc (Nat.le_refl _) _).alloc (by simp) _
  have gb : w1.heap[w.heap.size]? = some termZ := by rw [hw1, Below.heap_alloc _ _ _ (by omega)]; exact block_alloc _ _
  have gr : w1.heap[w.heap.size + 1]? = some (.cells #[.string s, .int .i64 ((0 : Nat) : Int), .int .i64 ((0 : Nat) : Int)] 74 (0, 0)) := by rw [hw1, ← z1]; exact block_alloc _ _
  have hrs : RS w (w.heap.size + 1) s 0 0 w1 := ⟨gr, b1, by omega⟩
  have HC := Lib.hid (read_of hS hp hsz _ x (Nat.le_refl _) hV (w.heap.size + 1) 0 0 w1 r hrs hd hr (by omega))
  have HGB := Lib.hid gb
  have HW1 := Lib.hid hw1
  have HB1 := Lib.hid b1
  have HZ1 : Hid (w.heap.size + 2 ≤ w1.heap.size) := by have := heap_lt gr; exact (by omega : w.heap.size + 2 ≤ w1.heap.size)
  clear hrs gr gb b1 z1 hd hr hV hS hp
  go_enter Tryd.func15, Tryd.ntmps15
  go_wp2_with fail
  have e1 := HW1.out
  unfold termZ at e1
  rw [← e1]
  clear e1 hw1
  refine HC.out.mono ?_
  rintro e V ⟨tv, bg', rfl, hT, h1, hbg, m1⟩
  obtain ⟨kz, nz, sz, tz, Lz, Az, capz, hzz, rfl⟩ : ∃ k' n' s' t' L' A' cap', x = Tm.mk k' n' s' t' L' ∧ tv = .agg #[.int .i8 k', .int .i64 n', .string s', .string t', .slice A' L'.length cap'] := by
    cases hT; exact ⟨_, _, _, _, _, _, _, rfl, rfl⟩
  clear hzz
  have gV : V.heap[w.heap.size]? = some termZ := (m1.block _ (heap_lt HGB.out) (by omega)).trans HGB.out
  unfold termZ at gV
  have r0 : (V).cell? ⟨w.heap.size, 0, none⟩ = some (.int .i8 0) := cell_of_row gV rfl
  have r1 : (V).cell? ⟨w.heap.size, 1, none⟩ = some (.int .i64 0) := cell_of_row gV rfl
  have r2 : (V).cell? ⟨w.heap.size, 2, none⟩ = some (.string ⟨#[]⟩) := cell_of_row gV rfl
  have r3 : (V).cell? ⟨w.heap.size, 3, none⟩ = some (.string ⟨#[]⟩) := cell_of_row gV rfl
  have r4 : (V).cell? ⟨w.heap.size, 4, none⟩ = some (.slice none 0 0) := cell_of_row gV rfl
  have f0 : (V).frozen? ⟨w.heap.size, 0, none⟩ = false := free_of_row gV
  have f1 : (V).frozen? ⟨w.heap.size, 1, none⟩ = false := free_of_row gV
  have f2 : (V).frozen? ⟨w.heap.size, 2, none⟩ = false := free_of_row gV
  have f3 : (V).frozen? ⟨w.heap.size, 3, none⟩ = false := free_of_row gV
  have f4 : (V).frozen? ⟨w.heap.size, 4, none⟩ = false := free_of_row gV
  have S5 := Lib.hid (set_five (.int .i8 kz) (.int .i64 nz) (.string sz) (.string tz) (.slice Az Lz.length capz) gV)
  have HT := Lib.hid hT
  have H1 := Lib.hid h1
  have M1 := Lib.hid m1
  obtain ⟨V2, hV2⟩ : ∃ V2, V2 = ((((((V).setCell ⟨w.heap.size, 0, none⟩ (.int .i8 kz)).setCell ⟨w.heap.size, 1, none⟩ (.int .i64 nz)).setCell ⟨w.heap.size, 2, none⟩ (.string sz)).setCell ⟨w.heap.size, 3, none⟩ (.string tz)).setCell ⟨w.heap.size, 4, none⟩ (.slice Az Lz.length capz)) := ⟨_, rfl⟩
  have s5 := S5.out
  rw [← hV2] at s5
  have x0 : (V2).cell? ⟨w.heap.size, 0, none⟩ = some (.int .i8 kz) := cell_of_row s5.1 rfl
  have x1 : (V2).cell? ⟨w.heap.size, 1, none⟩ = some (.int .i64 nz) := cell_of_row s5.1 rfl
  have x2 : (V2).cell? ⟨w.heap.size, 2, none⟩ = some (.string sz) := cell_of_row s5.1 rfl
  have x3 : (V2).cell? ⟨w.heap.size, 3, none⟩ = some (.string tz) := cell_of_row s5.1 rfl
  have x4 : (V2).cell? ⟨w.heap.size, 4, none⟩ = some (.slice Az Lz.length capz) := cell_of_row s5.1 rfl
  have fx0 : (V2).frozen? ⟨w.heap.size, 0, none⟩ = false := free_of_row s5.1
  have fx1 : (V2).frozen? ⟨w.heap.size, 1, none⟩ = false := free_of_row s5.1
  have fx2 : (V2).frozen? ⟨w.heap.size, 2, none⟩ = false := free_of_row s5.1
  have fx3 : (V2).frozen? ⟨w.heap.size, 3, none⟩ = false := free_of_row s5.1
  have fx4 : (V2).frozen? ⟨w.heap.size, 4, none⟩ = false := free_of_row s5.1
  have HS5 := Lib.hid s5
  have HV2 := Lib.hid hV2
  clear gV hT h1 m1 s5
  subst hV2
  go_wp2_with fail
  have hT2 : TmAt (fun b => w.heap.size + 1 < b ∧ b < ((((((V).setCell ⟨w.heap.size, 0, none⟩ (.int .i8 kz)).setCell ⟨w.heap.size, 1, none⟩ (.int .i64 nz)).setCell ⟨w.heap.size, 2, none⟩ (.string sz)).setCell ⟨w.heap.size, 3, none⟩ (.string tz)).setCell ⟨w.heap.size, 4, none⟩ (.slice Az Lz.length capz)).heap.size) ((((((V).setCell ⟨w.heap.size, 0, none⟩ (.int .i8 kz)).setCell ⟨w.heap.size, 1, none⟩ (.int .i64 nz)).setCell ⟨w.heap.size, 2, none⟩ (.string sz)).setCell ⟨w.heap.size, 3, none⟩ (.string tz)).setCell ⟨w.heap.size, 4, none⟩ (.slice Az Lz.length capz)) x (.agg #[(.int .i8 kz), (.int .i64 nz), (.string sz), (.string tz), (.slice Az Lz.length capz)]) := by
    have m5 := HS5.out.2
    have hz := m5.size
    have hw1 : w.heap.size + 1 < (w.heap.size + 2) := by omega
    have hs1 := (heap_lt H1.out.rd)
    have hs2 : w.heap.size + 2 ≤ w1.heap.size := HZ1.out
    exact HT.out.keep (fun b hb => m5.block b hb.2 (by omega)) (fun b hb => ⟨by omega, by omega⟩)
  have HT2 := Lib.hid hT2
  clear hT2
  refine (Size_any x _ _ (HT2.out.mono (fun b hb => hb.2))).mono ?_
  rintro e V4 ⟨rfl, b4⟩
  have HB4 := Lib.hid b4
  clear b4
  have hmin : ((min 257 x.nodes : Nat) : Int) = (x.nodes : Int) := by omega
  rw [hmin]
  have hgt : decide ((256 : Int) < (x.nodes : Int)) = false := decide_eq_false (by omega)
  have hgt' : decide (256 < x.nodes) = false := decide_eq_false (by omega)
  obtain ⟨q, hq⟩ : ∃ q, q = (txt x).length := ⟨_, rfl⟩
  have HQ := Lib.hid hq
  have h1r := H1.out.rd
  rw [← hq, Nat.zero_add] at h1r
  have m5 := HS5.out.2
  have r4 := (HB4.out.block _ (by have := m5.size; have := heap_lt h1r; omega)).trans ((m5.block _ (heap_lt h1r) (by omega)).trans h1r)
  have s4 := (HB4.out.block _ (heap_lt HS5.out.1)).trans HS5.out.1
  have a1 : V4.cell? ⟨w.heap.size + 1, 1, none⟩ = some (.int .i64 q) := cell_of_row r4 rfl
  have y0 : (V4).cell? ⟨w.heap.size, 0, none⟩ = some (.int .i8 kz) := cell_of_row s4 rfl
  have y1 : (V4).cell? ⟨w.heap.size, 1, none⟩ = some (.int .i64 nz) := cell_of_row s4 rfl
  have y2 : (V4).cell? ⟨w.heap.size, 2, none⟩ = some (.string sz) := cell_of_row s4 rfl
  have y3 : (V4).cell? ⟨w.heap.size, 3, none⟩ = some (.string tz) := cell_of_row s4 rfl
  have y4 : (V4).cell? ⟨w.heap.size, 4, none⟩ = some (.slice Az Lz.length capz) := cell_of_row s4 rfl
  have fy0 : (V4).frozen? ⟨w.heap.size, 0, none⟩ = false := free_of_row s4
  have fy1 : (V4).frozen? ⟨w.heap.size, 1, none⟩ = false := free_of_row s4
  have fy2 : (V4).frozen? ⟨w.heap.size, 2, none⟩ = false := free_of_row s4
  have fy3 : (V4).frozen? ⟨w.heap.size, 3, none⟩ = false := free_of_row s4
  have fy4 : (V4).frozen? ⟨w.heap.size, 4, none⟩ = false := free_of_row s4
  have S4 := Lib.hid s4
  have H4R := Lib.hid r4
  clear h1r m5 r4 s4 hq
  go_wp2_with fail
  have hS0 : SRead V4 w.heap.size (w.heap.size + 1) #[(.int .i8 kz), (.int .i64 nz), (.string sz), (.string tz), (.slice Az Lz.length capz)] s q bg' V4.drew := ⟨S4.out, H4R.out, ⟨rfl, rfl, rfl, Nat.le_refl _, fun _ _ _ => rfl⟩⟩
  have S7 := Lib.hid (set_five (.int .i8 kz) (.int .i64 nz) (.string sz) (.string tz) (.slice Az Lz.length capz) hS0.box)
  refine wp_region_held (S := SRead V4 w.heap.size (w.heap.size + 1) #[(.int .i8 kz), (.int .i64 nz), (.string sz), (.string tz), (.slice Az Lz.length capz)] s q bg') (by kernel_rfl) ?_
  refine wpAnyH_take (i := 0) (oi := ⟨some 23, _, _, _, _, _⟩) (v := ?_) rfl (by kernel_rfl) (by kernel_rfl) (by kernel_rfl) (fun _ _ _ h => h) (Or.inl ⟨by kernel_rfl, ?_⟩) (by assumption) ?_; rotate_left; (intro w hSw; (try dsimp only at hSw); have z0 := cell_of_row (i := 0) hSw.box rfl; have z1 := cell_of_row (i := 1) hSw.box rfl; have z2 := cell_of_row (i := 2) hSw.box rfl; have z3 := cell_of_row (i := 3) hSw.box rfl; have z4 := cell_of_row (i := 4) hSw.box rfl; have z5 := cell_of_row (i := 1) hSw.rd rfl; go_simp; first | done | with_reducible rfl); (try simp only [Act.put, List.setIfInBounds_toArray, List.set_cons_zero, List.set_cons_succ])
  refine wpAnyH_take (i := 1) (oi := ⟨some 24, _, _, _, _, _⟩) (v := ?_) rfl (by kernel_rfl) (by kernel_rfl) (by kernel_rfl) (fun _ _ _ h => h) (Or.inl ⟨by kernel_rfl, ?_⟩) (by assumption) ?_; rotate_left; (intro w hSw; (try dsimp only at hSw); have z0 := cell_of_row (i := 0) hSw.box rfl; have z1 := cell_of_row (i := 1) hSw.box rfl; have z2 := cell_of_row (i := 2) hSw.box rfl; have z3 := cell_of_row (i := 3) hSw.box rfl; have z4 := cell_of_row (i := 4) hSw.box rfl; have z5 := cell_of_row (i := 1) hSw.rd rfl; go_simp; first | done | with_reducible rfl); (try simp only [Act.put, List.setIfInBounds_toArray, List.set_cons_zero, List.set_cons_succ])
  refine wpAnyH_take (i := 2) (oi := ⟨some 25, _, _, _, _, _⟩) (v := ?_) rfl (by kernel_rfl) (by kernel_rfl) (by kernel_rfl) (fun _ _ _ h => h) (Or.inl ⟨by kernel_rfl, ?_⟩) (by assumption) ?_; rotate_left; (intro w hSw; (try dsimp only at hSw); have z0 := cell_of_row (i := 0) hSw.box rfl; have z1 := cell_of_row (i := 1) hSw.box rfl; have z2 := cell_of_row (i := 2) hSw.box rfl; have z3 := cell_of_row (i := 3) hSw.box rfl; have z4 := cell_of_row (i := 4) hSw.box rfl; have z5 := cell_of_row (i := 1) hSw.rd rfl; go_simp; first | done | with_reducible rfl); (try simp only [Act.put, List.setIfInBounds_toArray, List.set_cons_zero, List.set_cons_succ])
  refine wpAnyH_ready (rs := [3]) (by kernel_rfl) (by simp) ?_
  refine AllReadyH.cons (o := ⟨none, _, _, _, _, _⟩) rfl (fun K hK => ?_) AllReadyH.nil
  rw [if_pos (by rfl)]
  go_simp
  have hS3 := SRead.set hS0 S7.out.1 S7.out.2
  refine hK.out _ _ hS3 (fun hSn => ?_)
  clear hK K; (try simp only [Act.put, List.setIfInBounds_toArray, List.set_cons_zero, List.set_cons_succ])
  refine wpAnyH_take (i := 4) (oi := ⟨some 3, _, _, _, _, _⟩) (v := ?_) rfl (by kernel_rfl) (by kernel_rfl) (by kernel_rfl) (fun _ _ _ h => h) (Or.inl ⟨by kernel_rfl, ?_⟩) (by assumption) ?_; rotate_left; (intro w hSw; (try dsimp only at hSw); go_simp; first | done | with_reducible rfl); (try simp only [Act.put, List.setIfInBounds_toArray, List.set_cons_zero, List.set_cons_succ])
  refine wpAnyH_take (i := 5) (oi := ⟨some 4, _, _, _, _, _⟩) (v := ?_) rfl (by kernel_rfl) (by kernel_rfl) (by kernel_rfl) (fun _ _ _ h => h) (Or.inl ⟨by kernel_rfl, ?_⟩) (by assumption) ?_; rotate_left; (intro w hSw; (try dsimp only at hSw); go_simp; first | done | with_reducible rfl); (try simp only [Act.put, List.setIfInBounds_toArray, List.set_cons_zero, List.set_cons_succ])
  refine wpAnyH_done (by kernel_rfl) ?_ _
  have HS6 := Lib.hid hS3
  clear y0 fy0 y1 fy1 y2 fy2 y3 fy3 y4 fy4 hS0 hS3
  go_wp2_with fail
  obtain ⟨VX, hVX⟩ : ∃ VX, VX = (((((((V4).setCell ⟨w.heap.size, 0, none⟩ (.int .i8 kz)).setCell ⟨w.heap.size, 1, none⟩ (.int .i64 nz)).setCell ⟨w.heap.size, 2, none⟩ (.string sz)).setCell ⟨w.heap.size, 3, none⟩ (.string tz)).setCell ⟨w.heap.size, 4, none⟩ (.slice Az Lz.length capz))).drew := ⟨_, rfl⟩
  have h6 : SRead V4 w.heap.size (w.heap.size + 1) #[(.int .i8 kz), (.int .i64 nz), (.string sz), (.string tz), (.slice Az Lz.length capz)] s q bg' VX := by rw [hVX]; exact HS6.out
  rw [← hVX]
  clear hVX
  have s5 := h6.box
  have z0 : VX.cell? ⟨w.heap.size, 0, none⟩ = some (.int .i8 kz) := cell_of_row s5 rfl
  have z1 : VX.cell? ⟨w.heap.size, 1, none⟩ = some (.int .i64 nz) := cell_of_row s5 rfl
  have z2 : VX.cell? ⟨w.heap.size, 2, none⟩ = some (.string sz) := cell_of_row s5 rfl
  have z3 : VX.cell? ⟨w.heap.size, 3, none⟩ = some (.string tz) := cell_of_row s5 rfl
  have z4 : VX.cell? ⟨w.heap.size, 4, none⟩ = some (.slice Az Lz.length capz) := cell_of_row s5 rfl
  refine bodyPost_ret (v := .tuple #[.agg #[(.int .i8 kz), (.int .i64 nz), (.string sz), (.string tz), (.slice Az Lz.length capz)], .int .i64 q, .int .i64 0]) (by simp [results, Tryd.f15, go_sem, z0, z1, z2, z3, z4]) rfl ?_
  have m2 := HS5.out.2
  have z2 := m2.size
  have z4 := HB4.out.size
  have m7 := h6.mod
  have z7 := m7.size
  have zz := heap_lt H1.out.rd
  refine ⟨_, by rw [HQ.out], HT2.out.keep (fun b hb => ?_) (fun b hb => ⟨by omega, by omega⟩), ?_⟩
  · exact (m7.block b (by omega) (by omega)).trans (HB4.out.block b hb.2)
  · have k1 : Below w.heap.size w V := HB1.out.trans (M1.out.below HB1.out.size (fun k (e : k = _) => by omega))
    have zV := k1.size
    exact k1.trans ((m2.below zV (fun k (e : k = _) => by omega)).trans ((HB4.out.mono (by omega)).trans (m7.below (by omega) (fun k (e : k = _) => by omega))))
end Go.Proofs.YtohbljgagbnjoaaDoor
