/- Layer 9: laid: its contract. -/
import Derived.Test.YtmdcdhdjojimeaaGreatDoorKCla9
import Derived.Test.YtmdcdhdjojimeaaGreatDoorKLay9
section
set_option linter.unusedVariables false
set_option linter.unusedSimpArgs false
namespace Go.Proofs.YtmdcdhdjojimeaaGreatDoor
open Go.RowKit

theorem mem_pres9 : ∀ {l : List Tm} {x y : Tm}, x ∈ l → y ∈ x.pre → y ∈ Tm.pres l
 | z :: l, x, y, h, hy => by
  rw [Tm.pres, List.mem_append]
  rcases List.mem_cons.1 h with rfl | h
  ·exact .inl hy
  ·exact .inr (mem_pres9 h hy)
def okN (y : Tm) : Prop := (y.k = 13 → y.l.length = 2) ∧ (y.k = 3 → ∃ m : Nat, y.n = (m : Int) ∧ m ≤ 8 ∧ m ≤ y.l.length) ∧ (y.k = 19 → 1 ≤ y.l.length)
def Two9 (X : WCtx) (p k0 k1 : Nat) (W : World) : Prop := W.heap[k0]? = some (.cells #[.pointer (some ⟨X.B, 0, none⟩)] 71 (0, 0)) ∧ W.heap[k1]? = some (.cells #[.int .i64 (p : Int)] 3 (0, 0))
def Thr9 (y : Tm) (E k2 : Nat) (W : World) : Prop := ∃ A cap, W.heap[k2]? = some (.cells #[.int .i8 y.k, .int .i64 y.n, .string y.s, .string y.t, .slice A y.l.length cap, .int .i64 (E : Int)] 102 (0, 0))
theorem Two9.keep {X : WCtx} {p k0 k1 : Nat} {W W' : World} (h : Two9 X p k0 k1 W) (k : KeepC W W') : Two9 X p k0 k1 W' := ⟨k.cells _ _ _ _ h.1 (by decide) (by decide) (by decide), k.cells _ _ _ _ h.2 (by decide) (by decide) (by decide)⟩
theorem Thr9.keep {y : Tm} {E k2 : Nat} {W W' : World} (h : Thr9 y E k2 W) (k : KeepC W W') : Thr9 y E k2 W' := by
 obtain ⟨A, cap, h⟩ := h
 exact ⟨A, cap, k.cells _ _ _ _ h (by decide) (by decide) (by decide)⟩
theorem keepC_below {A B : World} (h : Below A.heap.size A B) : KeepC A B := (KeepT.of_below (mb := 0) (me := 0) h).toC
set_option maxRecDepth 100000 in
theorem over1_any (X : WCtx) (st' : Wk) (V : World) (p k0 k1 : Nat) (h : Two9 X p k0 k1 V) (hC : Calls Tryz.prog 75 #[.pointer (some ⟨X.B, 0, none⟩), .int .i64 (p : Int)] V (WalkTo X st' V)) :
  Calls Tryz.prog 74 #[.pointer (some ⟨k0, 0, none⟩), .pointer (some ⟨k1, 0, none⟩)] V (WalkTo X st' V) := by
 have c0 := cell_of_row (i := 0) h.1 rfl
 have c1 := cell_of_row (i := 0) h.2 rfl
 have HC := Lib.hid hC
 clear hC h
 go_enter Tryz.func74, Tryz.ntmps74
 go_wp2_with fail
 refine HC.out.mono ?_
 rintro e w2 ⟨rfl, hW2, hK2⟩
 have HW2 := Lib.hid hW2
 have HK2 := Lib.hid hK2
 clear hW2 hK2
 go_wp2_with fail
 go_end0
 exact ⟨rfl, HW2.out, HK2.out⟩
set_option maxRecDepth 100000 in
theorem over2_any (X : WCtx) (st' : Wk) (V : World) (p E k0 k1 k2 : Nat) (y : Tm) (hp : (p : Int) < 4096) (h : Two9 X p k0 k1 V) (h3 : Thr9 y E k2 V) (hC : Calls Tryz.prog 77 #[.pointer (some ⟨X.B, 0, none⟩), .int .i64 ((p + 1 : Nat) : Int), .int .i64 (E : Int)] V (WalkTo X st' V)) :
  Calls Tryz.prog 76 #[.pointer (some ⟨k0, 0, none⟩), .pointer (some ⟨k1, 0, none⟩), .pointer (some ⟨k2, 0, none⟩)] V (WalkTo X st' V) := by
 obtain ⟨A, cap, h3⟩ := h3
 have c0 := cell_of_row (i := 0) h.1 rfl
 have c1 := cell_of_row (i := 0) h.2 rfl
 have c5 := cell_of_row (i := 5) h3 rfl
 have hp0 : (0 : Int) ≤ (p : Int) := by omega
 have HC := Lib.hid hC
 clear hC h h3
 go_enter Tryz.func76, Tryz.ntmps76
 go_wp2_with fail
 refine HC.out.mono ?_
 rintro e w2 ⟨rfl, hW2, hK2⟩
 have HW2 := Lib.hid hW2
 have HK2 := Lib.hid hK2
 clear hW2 hK2
 go_wp2_with fail
 go_end0
 exact ⟨rfl, HW2.out, HK2.out⟩
set_option maxRecDepth 100000 in
theorem over3_any (X : WCtx) (st' : Wk) (V : World) (p k0 k1 : Nat) (hp : (p : Int) < 4096) (h : Two9 X p k0 k1 V) (hC : Calls Tryz.prog 51 #[.pointer (some ⟨X.B, 0, none⟩), .int .i64 ((p + 1 : Nat) : Int)] V (WalkTo X st' V)) :
  Calls Tryz.prog 78 #[.pointer (some ⟨k0, 0, none⟩), .pointer (some ⟨k1, 0, none⟩)] V (WalkTo X st' V) := by
 have c0 := cell_of_row (i := 0) h.1 rfl
 have c1 := cell_of_row (i := 0) h.2 rfl
 have hp0 : (0 : Int) ≤ (p : Int) := by omega
 have HC := Lib.hid hC
 clear hC h
 go_enter Tryz.func78, Tryz.ntmps78
 go_wp2_with fail
 refine HC.out.mono ?_
 rintro e w2 ⟨rfl, hW2, hK2⟩
 have HW2 := Lib.hid hW2
 have HK2 := Lib.hid hK2
 clear hW2 hK2
 go_wp2_with fail
 go_end0
 exact ⟨rfl, HW2.out, HK2.out⟩
set_option maxHeartbeats 16000000 in
set_option maxRecDepth 100000 in
theorem over_any9 (X : WCtx) (y : Tm) : (∀ z ∈ y.pre, okN z) → OverC X y := by
 induction y using Tm.ind with
 | h k n s t l ih =>
 intro hok st V p m h hP hm hml
 have hle := hP.le
 have hy := hP.get
 have hpar := hP.parts
 have hlen := h.1.lay.len
 rw [nodes_mk9] at hle hml
 have hp1 : (p : Int) < (X.P.length : Int) := by omega
 have hp0 : (0 : Int) ≤ (p : Int) := by omega
 have hp2 : (p : Int) < 4096 := by omega
 have had := add6 X.LB p
 have hO : ∀ x ∈ l, OverC X x := fun x hx => ih x hx (fun z hz => hok z (by rw [Tm.pre]; exact List.mem_cons_of_mem _ (mem_pres9 hx hz)))
 have hself := hok (.mk k n s t l) (by rw [Tm.pre]; exact List.mem_cons_self)
 obtain ⟨E, hE⟩ : ∃ E : Nat, E = p + 1 + (Tm.pres l).length := ⟨_, rfl⟩
 -- the boxes of the walk and of the place
 have g0 := block_alloc V (.cells #[.pointer (some ⟨X.B, 0, none⟩)] 71)
 have z1 : (V.alloc (.cells #[.pointer (some ⟨X.B, 0, none⟩)] 71)).heap.size = V.heap.size + 1 := World.size_alloc _ _
 have g1 := block_alloc (V.alloc (.cells #[.pointer (some ⟨X.B, 0, none⟩)] 71)) (.cells #[.int .i64 (p : Int)] 3)
 rw [z1] at g1
 have bV : Below V.heap.size V ((V.alloc (.cells #[.pointer (some ⟨X.B, 0, none⟩)] 71)).alloc (.cells #[.int .i64 (p : Int)] 3)) := ((Below.refl _ _).alloc (Nat.le_refl _) _).alloc (by omega) _
 have h2 : Two9 X p V.heap.size (V.heap.size + 1) ((V.alloc (.cells #[.pointer (some ⟨X.B, 0, none⟩)] 71)).alloc (.cells #[.int .i64 (p : Int)] 3)) := ⟨(Below.heap_alloc _ _ _ (by omega)).trans g0, g1⟩
 have HY := Lib.hid hy
 have H := Lib.hid h
 have H2 := Lib.hid h2
 have HBV := Lib.hid bV
 have HZ : Hid (((V.alloc (.cells #[.pointer (some ⟨X.B, 0, none⟩)] 71)).alloc (.cells #[.int .i64 (p : Int)] 3)).heap.size = V.heap.size + 2) := by show _ = _; rw [World.size_alloc, z1]
 have HE := Lib.hid hE
 have HP := Lib.hid hP
 have HPAR := Lib.hid hpar
 have HLE : Hid (p + 1 + (Tm.pres l).length ≤ X.P.length) := by show _ ≤ _; omega
 have HPN := Lib.hid hlen
 have HM := Lib.hid hm
 have HML : Hid (m + (Tm.pres l).length + 1 ≤ 50000) := by show _ ≤ _; omega
 have HO := Lib.hid hO
 have HS := Lib.hid hself
 clear hle hy hpar hlen g0 g1 z1 bV h2 hE hP hm hml hO hself hok ih h
 go_enter Tryz.func51, Tryz.ntmps51
 go_upto_region 1 with fail
 generalize (V.alloc (.cells #[.pointer (some ⟨X.B, 0, none⟩)] 71)).alloc (.cells #[.int .i64 (p : Int)] 3) = V1 at H2 HBV HZ ⊢
 have HL1 : Hid (∀ W, Below V1.heap.size V1 W → ∃ nv ov fv, Look X nv ov fv p (.mk k n s t l) W) := fun W hW => ((H.out.under HBV.out).under hW).open_ HY.out
 have HT1 : Hid (∀ W, Below V1.heap.size V1 W → Two9 X p V.heap.size (V.heap.size + 1) W) := fun W hW => H2.out.keep (keepC_below hW)
 obtain ⟨nv, ov, fv, hl⟩ := HL1.out V1 (Below.refl _ _)
 obtain ⟨A4, cap4, hA4⟩ := hl.s4
 have HA4 : Hid (∀ W, Below V1.heap.size V1 W → W.cell? ⟨X.LB, p * 6 + 4, none⟩ = some (.slice A4 l.length cap4)) := fun W hW => (hW.cell (World.block_lt_of_cell? _ _ hA4)).trans hA4
 clear hl hA4 nv ov fv
 refine wp_region_E (S := fun W => Below V1.heap.size V1 W) [] (by kernel_rfl) ((Below.refl _ _).drew) (fun hS0 => ?_)
 generalize V1.drew = D at hS0 ⊢
 refine wpAnyE_take (i := 0) (oi := ⟨some 5, _, _, _, _, _⟩) (v := ?_) rfl (by kernel_rfl) (by kernel_rfl) (by kernel_rfl) (by kernel_rfl) (fun _ _ _ h => h) (Or.inl ⟨by kernel_rfl, ?_⟩) (by assumption) ?_; rotate_left; (intro w hSw; (try dsimp only at hSw); have c0 := cell_of_row (i := 0) (HT1.out w hSw).1 rfl; go_simp; first | done | with_reducible rfl); (try simp only [Act.put, sI, sZ, sS])
 refine te0 1 ?_; (try simp only [Act.put, sI, sZ, sS])
 refine te0 2 ?_; (try simp only [Act.put, sI, sZ, sS])
 refine wpAnyE_take (i := 3) (oi := ⟨some 8, _, _, _, _, _⟩) (v := ?_) rfl (by kernel_rfl) (by kernel_rfl) (by kernel_rfl) (by kernel_rfl) (fun _ _ _ h => h) (Or.inl ⟨by kernel_rfl, ?_⟩) (by assumption) ?_; rotate_left; (intro w hSw; (try dsimp only at hSw); obtain ⟨nv, ov, fv, ⟨b0, -, -, -, -, -, -, -, -, -, -, -, -, -, -, -⟩⟩ := HL1.out w hSw; go_simp; first | done | with_reducible rfl); (try simp only [Act.put, sI, sZ, sS])
 refine wpAnyE_take (i := 4) (oi := ⟨some 9, _, _, _, _, _⟩) (v := ?_) rfl (by kernel_rfl) (by kernel_rfl) (by kernel_rfl) (by kernel_rfl) (fun _ _ _ h => h) (Or.inl ⟨by kernel_rfl, ?_⟩) (by assumption) ?_; rotate_left; (intro w hSw; (try dsimp only at hSw); have c1 := cell_of_row (i := 0) (HT1.out w hSw).2 rfl; go_simp; first | done | with_reducible rfl); (try simp only [Act.put, sI, sZ, sS])
 refine te0 5 ?_; (try simp only [Act.put, sI, sZ, sS])
 refine wpAnyE_take (i := 6) (oi := ⟨some 11, _, _, _, _, _⟩) (v := ?_) rfl (by kernel_rfl) (by kernel_rfl) (by kernel_rfl) (by kernel_rfl) (fun _ _ _ h => h) (Or.inl ⟨by kernel_rfl, ?_⟩) (by assumption) ?_; rotate_left; (intro w hSw; (try dsimp only at hSw); obtain ⟨nv, ov, fv, ⟨-, -, -, -, -, -, -, -, -, -, s0, s1, s2, s3, -, s5⟩⟩ := HL1.out w hSw; have s4 := HA4.out w hSw; rw [show p + (Tm.mk k n s t l).nodes = E by rw [nodes_mk9]; have := HE.out; omega] at s5; simp only [Tm.k, Tm.n, Tm.s, Tm.t, Tm.l] at s0 s1 s2 s3 s4; go_simp; first | done | with_reducible rfl); (try simp only [Act.put, sI, sZ, sS])
 refine wpAnyE_one (i := 7) (o := ⟨some 4, _, _, _, _, _⟩) (by kernel_rfl) rfl (fun K hK => ?_)
 rw [if_pos (by rfl)]
 go_simp
 refine hK.out _ _ (hS0.alloc (by have := hS0.size; omega) _) (fun hSn => ?_)
 clear hK K; (try simp only [Act.put, sI, sZ, sS])
 have g2 := block_alloc D (.cells #[.int .i8 0, .int .i64 0, .string ⟨#[]⟩, .string ⟨#[]⟩, .slice none 0 0, .int .i64 0] 102)
 have hk2 : V1.heap.size ≤ D.heap.size := hS0.size
 clear hS0
 generalize D.alloc (.cells #[.int .i8 0, .int .i64 0, .string ⟨#[]⟩, .string ⟨#[]⟩, .slice none 0 0, .int .i64 0] 102) = V2 at g2 hSn ⊢
 generalize D.heap.size = k2 at g2 hk2 ⊢
 have d0 : V2.cell? ⟨k2, 0, none⟩ = some (.int .i8 0) := cell_of_row g2 rfl
 have e0 : V2.frozen? ⟨k2, 0, none⟩ = false := free_of_row g2
 have d1 : V2.cell? ⟨k2, 1, none⟩ = some (.int .i64 0) := cell_of_row g2 rfl
 have e1 : V2.frozen? ⟨k2, 1, none⟩ = false := free_of_row g2
 have d2 : V2.cell? ⟨k2, 2, none⟩ = some (.string ⟨#[]⟩) := cell_of_row g2 rfl
 have e2 : V2.frozen? ⟨k2, 2, none⟩ = false := free_of_row g2
 have d3 : V2.cell? ⟨k2, 3, none⟩ = some (.string ⟨#[]⟩) := cell_of_row g2 rfl
 have e3 : V2.frozen? ⟨k2, 3, none⟩ = false := free_of_row g2
 have d4 : V2.cell? ⟨k2, 4, none⟩ = some (.slice none 0 0) := cell_of_row g2 rfl
 have e4 : V2.frozen? ⟨k2, 4, none⟩ = false := free_of_row g2
 have d5 : V2.cell? ⟨k2, 5, none⟩ = some (.int .i64 0) := cell_of_row g2 rfl
 have e5 : V2.frozen? ⟨k2, 5, none⟩ = false := free_of_row g2
 refine wpAnyE_one (i := 8) (o := ⟨none, _, _, _, _, _⟩) (by kernel_rfl) rfl (fun K hK => ?_)
 rw [if_pos (by rfl)]
 go_simp
 refine hK.out _ _ ((((((hSn.setCell (p := ⟨k2, 0, none⟩) hk2 _).setCell (p := ⟨k2, 1, none⟩) hk2 _).setCell (p := ⟨k2, 2, none⟩) hk2 _).setCell (p := ⟨k2, 3, none⟩) hk2 _).setCell (p := ⟨k2, 4, none⟩) hk2 _).setCell (p := ⟨k2, 5, none⟩) hk2 _) (fun hSn => ?_)
 clear hK K; (try simp only [Act.put, sI, sZ, sS])
 have g3 : ((((((V2.setCell ⟨k2, 0, none⟩ (.int .i8 k)).setCell ⟨k2, 1, none⟩ (.int .i64 n)).setCell ⟨k2, 2, none⟩ (.string s)).setCell ⟨k2, 3, none⟩ (.string t)).setCell ⟨k2, 4, none⟩ (.slice A4 l.length cap4)).setCell ⟨k2, 5, none⟩ (.int .i64 (E : Int))).heap[k2]? = some (.cells #[.int .i8 k, .int .i64 n, .string s, .string t, .slice A4 l.length cap4, .int .i64 (E : Int)] 102 (0, 0)) := (set_row (i := 5) (.int .i64 (E : Int)) (set_row (i := 4) (.slice A4 l.length cap4) (set_row (i := 3) (.string t) (set_row (i := 2) (.string s) (set_row (i := 1) (.int .i64 n) (set_row (i := 0) (.int .i8 k) g2))))))
 clear d0 d1 d2 d3 d4 d5 e0 e1 e2 e3 e4 e5 g2
 generalize (((((V2.setCell ⟨k2, 0, none⟩ (.int .i8 k)).setCell ⟨k2, 1, none⟩ (.int .i64 n)).setCell ⟨k2, 2, none⟩ (.string s)).setCell ⟨k2, 3, none⟩ (.string t)).setCell ⟨k2, 4, none⟩ (.slice A4 l.length cap4)).setCell ⟨k2, 5, none⟩ (.int .i64 (E : Int)) = V3 at g3 hSn ⊢
 refine wpAnyE_done (by kernel_rfl) ?_ _
 have HB3 : Hid (Below V.heap.size V V3) := HBV.out.trans (hSn.mono HBV.out.size)
 have H3 := Lib.hid (H.out.under HB3.out)
 have HTW : Hid (Two9 X p V.heap.size (V.heap.size + 1) V3) := HT1.out V3 hSn
 have HTH : Hid (Thr9 (.mk k n s t l) E k2 V3) := ⟨A4, cap4, g3⟩
 have q0 := cell_of_row (i := 0) HTW.out.1 rfl
 have q1 := cell_of_row (i := 0) HTW.out.2 rfl
 have c0 := cell_of_row (i := 0) g3 rfl
 have c5 := cell_of_row (i := 5) g3 rfl
 have HL5 : Hid (st.lee 50000) := lee_mono HM.out (by have := HML.out; omega)
 clear hSn g3 HL1 HT1 HA4 H2 HBV HZ hk2
 by_cases h5 : k = 5
 ·subst h5
  have HD : Hid (overW X.most st p (.mk 5 n s t l) = toldW st s p) := by show _ = _; rw [overW]; simp
  have HC := Lib.hid (told_any X st V3 p _ H3.out HY.out (lee_mono HL5.out (by omega)))
  go_wp2_with fail
  refine HC.out.mono ?_
  rintro e w2 ⟨rfl, hW2, hK2⟩
  have HW2 := Lib.hid hW2
  have HK2 := Lib.hid hK2
  clear hW2 hK2
  go_wp2_with fail
  go_end0
  rw [HD.out]
  exact ⟨rfl, HW2.out, (KeepT.of_below HB3.out).trans HK2.out⟩
 by_cases h13 : k = 13
 ·subst h13
  obtain ⟨a, e, rfl⟩ : ∃ a e, l = [a, e] := by
   have := HS.out.1 rfl
   match l, this with
   | [a, e], _ => exact ⟨a, e, rfl⟩
  have HD : Hid (overW X.most st p (.mk 13 n s t [a, e]) = patW X.most (overW X.most st (p + 1 + a.nodes) e) (p + 1) a.pre) := by show _ = _; rw [overW]; simp [matchW, allW]
  have ha := HPAR.out.head
  have he := ha.2.head.1
  have hnn : (Tm.pres [a, e]).length = a.nodes + e.nodes := by simp [Tm.pres, Tm.nodes]
  have hle1 := lee_over X.most e st (p + 1 + a.nodes) m HM.out
  obtain ⟨pa, hpa⟩ : ∃ pa : Nat, pa = p + 1 := ⟨_, rfl⟩
  obtain ⟨r, hr⟩ : ∃ r : Nat, r = pa + a.nodes := ⟨_, rfl⟩
  rw [← hpa] at ha he hle1 HD
  rw [← hr] at HD hle1 he
  have HCO := Lib.hid (fun W hW => HO.out e (by simp) st W r m hW he HM.out (by have := HML.out; omega))
  have HCP := Lib.hid (fun W hW => pattern_any X (overW X.most st r e) W pa a hW ha.1 (lee_mono hle1 (by have := HML.out; omega)))
  have HAG := Lib.hid ha.1.get
  have hp3 : (pa : Int) < (X.P.length : Int) := by have := ha.1.le; have := Tm.pre_ne a; unfold Tm.nodes at *; omega
  have hp4 : (0 : Int) ≤ (pa : Int) := by omega
  have had1 := add6 X.LB pa
  have hpp : (p : Int) + 1 = (pa : Int) := by omega
  have hwr : IntKind.i64.wrap (pa : Int) = (pa : Int) := by rw [IntKind.wrap_i64]; omega
  have HRR := Lib.hid hr
  clear ha he hnn hle1 hr hpa
  go_upto_region 7 with fail
  refine wp_region_E (S := fun W => (∃ st2, WkAt X st2 W) ∧ Two9 X p V.heap.size (V.heap.size + 1) W) [] (by kernel_rfl) ⟨⟨st, H3.out.under ((Below.refl _ _).drew)⟩, HTW.out.keep (keepC_below ((Below.refl _ _).drew))⟩ (fun hS0 => ?_)
  have hDD : Below V3.heap.size V3 V3.drew := (Below.refl _ _).drew
  generalize V3.drew = D2 at hS0 hDD ⊢
  refine wpAnyE_take (i := 0) (oi := ⟨some 28, _, _, _, _, _⟩) (v := ?_) rfl (by kernel_rfl) (by kernel_rfl) (by kernel_rfl) (by kernel_rfl) (fun _ _ _ h => h) (Or.inl ⟨by kernel_rfl, ?_⟩) (by assumption) ?_; rotate_left; (intro w hSw; (try dsimp only at hSw); have q0 := cell_of_row (i := 0) hSw.2.1 rfl; go_simp; first | done | with_reducible rfl); (try simp only [Act.put, sI, sZ, sS])
  refine wpAnyE_take (i := 1) (oi := ⟨some 29, _, _, _, _, _⟩) (v := ?_) rfl (by kernel_rfl) (by kernel_rfl) (by kernel_rfl) (by kernel_rfl) (fun _ _ _ h => h) (Or.inl ⟨by kernel_rfl, ?_⟩) (by assumption) ?_; rotate_left; (intro w hSw; (try dsimp only at hSw); have q0 := cell_of_row (i := 0) hSw.2.1 rfl; go_simp; first | done | with_reducible rfl); (try simp only [Act.put, sI, sZ, sS])
  refine te0 2 ?_; (try simp only [Act.put, sI, sZ, sS])
  refine te0 3 ?_; (try simp only [Act.put, sI, sZ, sS])
  refine wpAnyE_take (i := 4) (oi := ⟨some 32, _, _, _, _, _⟩) (v := ?_) rfl (by kernel_rfl) (by kernel_rfl) (by kernel_rfl) (by kernel_rfl) (fun _ _ _ h => h) (Or.inl ⟨by kernel_rfl, ?_⟩) (by assumption) ?_; rotate_left; (intro w hSw; (try dsimp only at hSw); obtain ⟨⟨st2, w2⟩, qq⟩ := hSw; obtain ⟨nv, ov, fv, ⟨b0, -, -, -, -, -, -, -, -, -, -, -, -, -, -, -⟩⟩ := w2.open_ HAG.out; go_simp; first | done | with_reducible rfl); (try simp only [Act.put, sI, sZ, sS])
  refine wpAnyE_take (i := 5) (oi := ⟨some 33, _, _, _, _, _⟩) (v := ?_) rfl (by kernel_rfl) (by kernel_rfl) (by kernel_rfl) (by kernel_rfl) (fun _ _ _ h => h) (Or.inl ⟨by kernel_rfl, ?_⟩) (by assumption) ?_; rotate_left; (intro w hSw; (try dsimp only at hSw); have q1 := cell_of_row (i := 0) hSw.2.2 rfl; go_simp; first | done | with_reducible rfl); (try simp only [Act.put, sI, sZ, sS])
  refine te0 6 ?_; (try simp only [Act.put, sI, sZ, sS])
  refine te0 7 ?_; (try simp only [Act.put, sI, sZ, sS])
  refine te0 8 ?_; (try simp only [Act.put, sI, sZ, sS])
  refine wpAnyE_take (i := 9) (oi := ⟨some 37, _, _, _, _, _⟩) (v := ?_) rfl (by kernel_rfl) (by kernel_rfl) (by kernel_rfl) (by kernel_rfl) (fun _ _ _ h => h) (Or.inl ⟨by kernel_rfl, ?_⟩) (by assumption) ?_; rotate_left; (intro w hSw; (try dsimp only at hSw); obtain ⟨⟨st2, w2⟩, qq⟩ := hSw; obtain ⟨nv, ov, fv, ⟨-, -, -, -, -, -, -, -, -, -, -, -, -, -, -, s5⟩⟩ := w2.open_ HAG.out; rw [← HRR.out] at s5; go_simp; first | done | with_reducible rfl); (try simp only [Act.put, sI, sZ, sS])
  refine wpAnyE_one (i := 10) (o := ⟨some 38, _, _, _, _, _⟩) (by kernel_rfl) rfl (fun K hK => ?_)
  rw [if_pos (by rfl)]
  go_simp
  refine (HCO.out _ (H3.out.under hDD)).mono ?_
  rintro e9 w2 ⟨rfl, hW2, hK2⟩
  have HW2 := Lib.hid hW2
  have HK2 := Lib.hid hK2
  clear hW2 hK2
  go_wp2_with fail
  refine hK.out _ _ ⟨⟨_, HW2.out⟩, hS0.2.keep HK2.out.toC⟩ (fun hSn => ?_)
  clear hK K; (try simp only [Act.put, sI, sZ, sS])
  refine wpAnyE_done (by kernel_rfl) ?_ _
  have HK3 := Lib.hid ((KeepT.of_below (mb := X.mb) (me := X.me) hDD).trans HK2.out)
  have HTW2 := Lib.hid (HTW.out.keep HK3.out.toC)
  clear q0 q1 c0 c5 hS0 hSn hDD
  have q0 := cell_of_row (i := 0) HTW2.out.1 rfl
  have q1 := cell_of_row (i := 0) HTW2.out.2 rfl
  go_wp2_with fail
  refine (HCP.out _ HW2.out).mono ?_
  rintro e9 w9 ⟨rfl, hW9, hK9⟩
  have HW9 := Lib.hid hW9
  have HK9 := Lib.hid hK9
  clear hW9 hK9
  go_wp2_with fail
  go_end0
  rw [HD.out]
  exact ⟨rfl, HW9.out, (KeepT.of_below HB3.out).trans (HK3.out.trans HK9.out)⟩
 by_cases h3 : k = 3
 ·subst h3
  obtain ⟨mN, rfl, hN8, hNl⟩ := HS.out.2.1 rfl
  simp only [Tm.l] at hNl
  have HD : Hid (overW X.most st p (.mk 3 (mN : Int) s t l) = backW st (clauseW X.most st (p + 1) mN l)) := by show _ = _; rw [overW]; simp
  have HC := Lib.hid (within1_any X st (clauseW X.most st (p + 1) mN l) V3 V.heap.size (V.heap.size + 1) p _ H3.out HY.out (fwd_clause _ _ _ _ _) (lee_mono (lee_clause X.most mN l st (p + 1) m HM.out) (by have := HML.out; omega))
   (over1_any X _ V3 p _ _ HTW.out (clause_any9 X st V3 p m mN s t l H3.out HP.out hNl hN8 HM.out (by have := HML.out; omega) HO.out)))
  clear hNl hN8
  go_wp2_with fail
  refine HC.out.mono ?_
  rintro e w2 ⟨rfl, hW2, hK2⟩
  have HW2 := Lib.hid hW2
  have HK2 := Lib.hid hK2
  clear hW2 hK2
  go_wp2_with fail
  go_end0
  rw [HD.out]
  exact ⟨rfl, HW2.out, (KeepT.of_below HB3.out).trans HK2.out⟩
 by_cases h18 : k = 18
 ·subst h18
  have HD : Hid (overW X.most st p (.mk 18 n s t l) = backW st (allW X.most st (p + 1) l)) := by show _ = _; rw [overW]; simp
  have HC := Lib.hid (within2_any X st (allW X.most st (p + 1) l) V3 V.heap.size (V.heap.size + 1) k2 p _ H3.out HY.out (fwd_all _ _ _ _) (lee_mono (lee_all X.most l st (p + 1) m HM.out) (by have := HML.out; omega))
   (over2_any X _ V3 p E _ _ _ _ hp2 HTW.out HTH.out (all_any9 X st V3 (p + 1) E m l H3.out HPAR.out (by have := HLE.out; omega) HE.out HM.out (by have := HML.out; omega) HO.out)))
  go_wp2_with fail
  refine HC.out.mono ?_
  rintro e w2 ⟨rfl, hW2, hK2⟩
  have HW2 := Lib.hid hW2
  have HK2 := Lib.hid hK2
  clear hW2 hK2
  go_wp2_with fail
  go_end0
  rw [HD.out]
  exact ⟨rfl, HW2.out, (KeepT.of_below HB3.out).trans HK2.out⟩
 by_cases h21 : k = 21
 ·subst h21
  have HD : Hid (overW X.most st p (.mk 21 n s t l) = backW st (allW X.most st (p + 1) l)) := by show _ = _; rw [overW]; simp
  have HC := Lib.hid (within2_any X st (allW X.most st (p + 1) l) V3 V.heap.size (V.heap.size + 1) k2 p _ H3.out HY.out (fwd_all _ _ _ _) (lee_mono (lee_all X.most l st (p + 1) m HM.out) (by have := HML.out; omega))
   (over2_any X _ V3 p E _ _ _ _ hp2 HTW.out HTH.out (all_any9 X st V3 (p + 1) E m l H3.out HPAR.out (by have := HLE.out; omega) HE.out HM.out (by have := HML.out; omega) HO.out)))
  go_wp2_with fail
  refine HC.out.mono ?_
  rintro e w2 ⟨rfl, hW2, hK2⟩
  have HW2 := Lib.hid hW2
  have HK2 := Lib.hid hK2
  clear hW2 hK2
  go_wp2_with fail
  go_end0
  rw [HD.out]
  exact ⟨rfl, HW2.out, (KeepT.of_below HB3.out).trans HK2.out⟩
 by_cases h19 : k = 19
 ·subst h19
  obtain ⟨e, cs, rfl⟩ : ∃ e cs, l = e :: cs := by
   have := HS.out.2.2 rfl
   match l, this with
   | e :: cs, _ => exact ⟨e, cs, rfl⟩
  have he := HPAR.out.head
  have hnn : (Tm.pres (e :: cs)).length = e.nodes + (Tm.pres cs).length := nodes_pres_cons e cs
  have hle1 := lee_over X.most e st (p + 1) m HM.out
  have HC := Lib.hid (within3_any X st (overW X.most st (p + 1) e) V3 V.heap.size (V.heap.size + 1) p _ H3.out HY.out (fwd_over _ _ _ _) (lee_mono hle1 (by have := HML.out; omega))
   (over3_any X _ V3 p _ _ hp2 HTW.out (HO.out e (by simp) st V3 (p + 1) m H3.out he.1 HM.out (by have := HML.out; omega))))
  have HD : Hid (overW X.most st p (.mk 19 n s t (e :: cs)) = allW X.most (backW st (overW X.most st (p + 1) e)) (p + 1 + e.nodes) cs) := by show _ = _; rw [overW]; simp [tryW]
  obtain ⟨st1, hst1⟩ : ∃ st1, st1 = backW st (overW X.most st (p + 1) e) := ⟨_, rfl⟩
  have hle2 : st1.lee (m + e.nodes) := by rw [hst1]; exact lee_back hle1
  rw [← hst1] at HC HD
  obtain ⟨pa, hpa⟩ : ∃ pa : Nat, pa = p + 1 := ⟨_, rfl⟩
  obtain ⟨r, hr⟩ : ∃ r : Nat, r = pa + e.nodes := ⟨_, rfl⟩
  rw [← hpa] at he HD
  rw [← hr] at he HD
  have HCA := Lib.hid (fun W hW => all_any9 X st1 W r E (m + e.nodes) cs hW he.2 (by have := HLE.out; omega) (by have := HE.out; omega) hle2 (by have := HML.out; omega) (fun x hx => HO.out x (by simp [hx])))
  have HAG := Lib.hid he.1.get
  have hp3 : (pa : Int) < (X.P.length : Int) := by have := he.1.le; have := Tm.pre_ne e; unfold Tm.nodes at *; omega
  have hp4 : (0 : Int) ≤ (pa : Int) := by omega
  have had1 := add6 X.LB pa
  have hpp : (p : Int) + 1 = (pa : Int) := by omega
  have hwr : IntKind.i64.wrap (pa : Int) = (pa : Int) := by rw [IntKind.wrap_i64]; omega
  have HRR := Lib.hid hr
  have HST := Lib.hid hst1
  clear he hnn hle1 hle2 hr hpa hst1
  go_wp2_with fail
  refine HC.out.mono ?_
  rintro e w2 ⟨rfl, hW2, hK2⟩
  have HW2 := Lib.hid hW2
  have HK2 := Lib.hid hK2
  clear hW2 hK2
  have HTW2 := Lib.hid (HTW.out.keep HK2.out.toC)
  have HTH2 := Lib.hid (HTH.out.keep HK2.out.toC)
  clear q0 q1 c0 c5
  go_upto_region 16 with fail
  have HTH3 : Hid (∀ W, KeepC w2 W → W.cell? ⟨k2, 5, none⟩ = some (.int .i64 (E : Int))) := fun W hW => by obtain ⟨A, cap, h9⟩ := HTH2.out.keep hW; exact cell_of_row h9 rfl
  refine wp_region_E (S := fun W => ((∃ st2, WkAt X st2 W) ∧ Two9 X p V.heap.size (V.heap.size + 1) W) ∧ W.cell? ⟨k2, 5, none⟩ = some (.int .i64 (E : Int))) [] (by kernel_rfl) ⟨⟨⟨st1, HW2.out.under ((Below.refl _ _).drew)⟩, HTW2.out.keep (keepC_below ((Below.refl _ _).drew))⟩, HTH3.out _ (keepC_below ((Below.refl _ _).drew))⟩ (fun hS0 => ?_)
  have hDD : Below w2.heap.size w2 w2.drew := (Below.refl _ _).drew
  generalize w2.drew = D2 at hS0 hDD ⊢
  refine wpAnyE_take (i := 0) (oi := ⟨some 59, _, _, _, _, _⟩) (v := ?_) rfl (by kernel_rfl) (by kernel_rfl) (by kernel_rfl) (by kernel_rfl) (fun _ _ _ h => h) (Or.inl ⟨by kernel_rfl, ?_⟩) (by assumption) ?_; rotate_left; (intro w hSw; (try dsimp only at hSw); have q0 := cell_of_row (i := 0) hSw.1.2.1 rfl; go_simp; first | done | with_reducible rfl); (try simp only [Act.put, sI, sZ, sS])
  refine wpAnyE_take (i := 1) (oi := ⟨some 60, _, _, _, _, _⟩) (v := ?_) rfl (by kernel_rfl) (by kernel_rfl) (by kernel_rfl) (by kernel_rfl) (fun _ _ _ h => h) (Or.inl ⟨by kernel_rfl, ?_⟩) (by assumption) ?_; rotate_left; (intro w hSw; (try dsimp only at hSw); have q0 := cell_of_row (i := 0) hSw.1.2.1 rfl; go_simp; first | done | with_reducible rfl); (try simp only [Act.put, sI, sZ, sS])
  refine te0 2 ?_; (try simp only [Act.put, sI, sZ, sS])
  refine te0 3 ?_; (try simp only [Act.put, sI, sZ, sS])
  refine wpAnyE_take (i := 4) (oi := ⟨some 63, _, _, _, _, _⟩) (v := ?_) rfl (by kernel_rfl) (by kernel_rfl) (by kernel_rfl) (by kernel_rfl) (fun _ _ _ h => h) (Or.inl ⟨by kernel_rfl, ?_⟩) (by assumption) ?_; rotate_left; (intro w hSw; (try dsimp only at hSw); obtain ⟨⟨⟨st2, w2⟩, qq⟩, c5⟩ := hSw; obtain ⟨nv, ov, fv, ⟨b0, -, -, -, -, -, -, -, -, -, -, -, -, -, -, -⟩⟩ := w2.open_ HAG.out; go_simp; first | done | with_reducible rfl); (try simp only [Act.put, sI, sZ, sS])
  refine wpAnyE_take (i := 5) (oi := ⟨some 64, _, _, _, _, _⟩) (v := ?_) rfl (by kernel_rfl) (by kernel_rfl) (by kernel_rfl) (by kernel_rfl) (fun _ _ _ h => h) (Or.inl ⟨by kernel_rfl, ?_⟩) (by assumption) ?_; rotate_left; (intro w hSw; (try dsimp only at hSw); have q1 := cell_of_row (i := 0) hSw.1.2.2 rfl; go_simp; first | done | with_reducible rfl); (try simp only [Act.put, sI, sZ, sS])
  refine te0 6 ?_; (try simp only [Act.put, sI, sZ, sS])
  refine te0 7 ?_; (try simp only [Act.put, sI, sZ, sS])
  refine te0 8 ?_; (try simp only [Act.put, sI, sZ, sS])
  refine wpAnyE_take (i := 9) (oi := ⟨some 68, _, _, _, _, _⟩) (v := ?_) rfl (by kernel_rfl) (by kernel_rfl) (by kernel_rfl) (by kernel_rfl) (fun _ _ _ h => h) (Or.inl ⟨by kernel_rfl, ?_⟩) (by assumption) ?_; rotate_left; (intro w hSw; (try dsimp only at hSw); obtain ⟨⟨⟨st2, w2⟩, qq⟩, c5⟩ := hSw; obtain ⟨nv, ov, fv, ⟨-, -, -, -, -, -, -, -, -, -, -, -, -, -, -, s5⟩⟩ := w2.open_ HAG.out; rw [← HRR.out] at s5; go_simp; first | done | with_reducible rfl); (try simp only [Act.put, sI, sZ, sS])
  refine te0 10 ?_; (try simp only [Act.put, sI, sZ, sS])
  refine wpAnyE_take (i := 11) (oi := ⟨some 70, _, _, _, _, _⟩) (v := ?_) rfl (by kernel_rfl) (by kernel_rfl) (by kernel_rfl) (by kernel_rfl) (fun _ _ _ h => h) (Or.inl ⟨by kernel_rfl, ?_⟩) (by assumption) ?_; rotate_left; (intro w hSw; (try dsimp only at hSw); have c5 := hSw.2; go_simp; first | done | with_reducible rfl); (try simp only [Act.put, sI, sZ, sS])
  refine wpAnyE_one (i := 12) (o := ⟨some 71, _, _, _, _, _⟩) (by kernel_rfl) rfl (fun K hK => ?_)
  rw [if_pos (by rfl)]
  go_simp
  refine (HCA.out _ (HW2.out.under hDD)).mono ?_
  rintro e9 w9 ⟨rfl, hW9, hK9⟩
  have HW9 := Lib.hid hW9
  have HK9 := Lib.hid hK9
  clear hW9 hK9
  go_wp2_with fail
  refine hK.out _ _ ⟨⟨⟨_, HW9.out⟩, hS0.1.2.keep HK9.out.toC⟩, HTH3.out _ ((keepC_below hDD).trans HK9.out.toC)⟩ (fun hSn => ?_)
  clear hK K; (try simp only [Act.put, sI, sZ, sS])
  refine wpAnyE_done (by kernel_rfl) ?_ _
  go_wp2_with fail
  go_end0
  rw [HD.out]
  exact ⟨rfl, HW9.out, (KeepT.of_below HB3.out).trans (HK2.out.trans ((KeepT.of_below hDD).trans HK9.out))⟩
 have HD : Hid (overW X.most st p (.mk k n s t l) = allW X.most st (p + 1) l) := by show _ = _; rw [overW]; simp [h5, h13, h3, h18, h21, h19]
 have HC := Lib.hid (all_any9 X st V3 (p + 1) E m l H3.out HPAR.out (by have := HLE.out; omega) HE.out HM.out (by have := HML.out; omega) HO.out)
 go_wp2_with fail
 refine HC.out.mono ?_
 rintro e w2 ⟨rfl, hW2, hK2⟩
 have HW2 := Lib.hid hW2
 have HK2 := Lib.hid hK2
 clear hW2 hK2
 go_wp2_with fail
 go_end0
 rw [HD.out]
 exact ⟨rfl, HW2.out, (KeepT.of_below HB3.out).trans HK2.out⟩
end Go.Proofs.YtmdcdhdjojimeaaGreatDoor
end
section
set_option linter.unusedVariables false
set_option linter.unusedSimpArgs false
namespace Go.Proofs.YtmdcdhdjojimeaaGreatDoor
open Go.RowKit

theorem mkmap9 (w : World) : Sem.run Tryz.prog (Instr.makeMap 67 none) w = .ok (.map (some w.heap.size)) (w.alloc (.map #[] 0)) := by kernel_rfl
def WalkedTo (P : List Tm) (st : Wk) (w : World) (e : Ending) (w' : World) : Prop := ∃ X : WCtx, X.w0 = w ∧ X.base = w.heap.size ∧ X.P = P ∧ e = .returned (.pointer (some ⟨X.B, 0, none⟩)) ∧ WkAt X st w'
theorem three_at (w : World) (o0 o1 o2 : Obj) : (((w.alloc o0).alloc o1).alloc o2).heap[w.heap.size]? = some o0 ∧ (((w.alloc o0).alloc o1).alloc o2).heap[w.heap.size + 1]? = some o1 ∧
  (((w.alloc o0).alloc o1).alloc o2).heap[w.heap.size + 2]? = some o2 ∧ Below w.heap.size w (((w.alloc o0).alloc o1).alloc o2) ∧ (((w.alloc o0).alloc o1).alloc o2).heap.size = w.heap.size + 3 := by
 have z1 : (w.alloc o0).heap.size = w.heap.size + 1 := World.size_alloc _ _
 have z2 : ((w.alloc o0).alloc o1).heap.size = w.heap.size + 2 := by rw [World.size_alloc, z1]
 have a0 := block_alloc w o0
 have a1 := block_alloc (w.alloc o0) o1
 have a2 := block_alloc ((w.alloc o0).alloc o1) o2
 rw [z1] at a1
 rw [z2] at a2
 have b1 : ∀ k, k < w.heap.size + 1 → ((w.alloc o0).alloc o1).heap[k]? = (w.alloc o0).heap[k]? := fun k hk => Below.heap_alloc _ _ _ (by rw [z1]; exact hk)
 have b2 : ∀ k, k < w.heap.size + 2 → (((w.alloc o0).alloc o1).alloc o2).heap[k]? = ((w.alloc o0).alloc o1).heap[k]? := fun k hk => Below.heap_alloc _ _ _ (by rw [z2]; exact hk)
 exact ⟨by rw [b2 _ (by omega), b1 _ (by omega)]; exact a0, by rw [b2 _ (by omega)]; exact a1, a2, (((Below.refl _ w).alloc (Nat.le_refl _) _).alloc (by omega) _).alloc (by omega) _, by rw [World.size_alloc, z2]⟩
set_option maxHeartbeats 4000000 in
set_option maxRecDepth 100000 in
theorem walked_any9 (P : List Tm) (LB lc p : Nat) (c : Tm) (w : World) (hL : LayAt w LB lc P) (hP : PlaceAt P p c) (hok : ∀ z ∈ c.pre, okN z) (hn : 0 ≤ c.n ∧ c.n ≤ 8) :
  Calls Tryz.prog 33 #[.slice (some ⟨LB, 0, none⟩) P.length lc, .int .i64 (p : Int)] w (WalkedTo P (clW (32 - c.n) p c) w) := by
 have hle := hP.le
 have hy := hP.get
 have hLB : LB < w.heap.size := by obtain ⟨cs, h1, _⟩ := hL.row; exact heap_lt h1
 have hlen := hL.len
 have hp1 : (p : Int) < (P.length : Int) := by have := Tm.pre_ne c; unfold Tm.nodes at hle; omega
 have hp0 : (0 : Int) ≤ (p : Int) := by omega
 have had := add6 LB p
 obtain ⟨A4, cap4, -, s1, -⟩ := hL.spot hy
 obtain ⟨q, hq⟩ : ∃ q : Int, q = 32 - c.n := ⟨_, rfl⟩
 obtain ⟨N, hN⟩ : ∃ N : Int, N = c.n := ⟨_, rfl⟩
 rw [← hN] at s1
 have hN0 : 0 ≤ N := by omega
 have hN8 : N ≤ 8 := by omega
 have hm1 := mkmap9 w
 have hm2 := mkmap9 (w.alloc (.map #[] 0))
 obtain ⟨g0, g1, g2, b3, z3⟩ := three_at w (.map #[] 0) (.map #[] 0) (.cells #[.slice (some ⟨LB, 0, none⟩) P.length lc, .int .i64 q, .map (some w.heap.size), .slice none 0 0, .map (some (w.heap.size + 1)), .slice none 0 0, .slice none 0 0] 70)
 obtain ⟨X, hXe⟩ : ∃ X : WCtx, X = ⟨w, w.heap.size, w.heap.size + 2, w.heap.size, w.heap.size + 1, LB, lc, P, q⟩ := ⟨_, rfl⟩
 have hX : X.Ok := by rw [hXe]; exact ⟨Nat.le_refl _, Nat.le_add_right _ _, Nat.le_refl _, Nat.le_add_right _ _, by show w.heap.size ≠ w.heap.size + 1; omega, hLB, hL, by show -1000 ≤ q ∧ q ≤ 1000; omega⟩
 have h0 : WkAt X ⟨[], [], []⟩ (((w.alloc (.map #[] 0)).alloc (.map #[] 0)).alloc (.cells #[.slice (some ⟨LB, 0, none⟩) P.length lc, .int .i64 q, .map (some w.heap.size), .slice none 0 0, .map (some (w.heap.size + 1)), .slice none 0 0, .slice none 0 0] 70)) := by
  refine ⟨hX, List.nodup_nil, #[], #[], 0, 0, .slice none 0 0, .slice none 0 0, .slice none 0 0, [], ?_⟩
  rw [hXe]
  exact ⟨b3, g2, g0, g1, .nil, .nil, World.ownsRow_nil _ _ _ _, World.ownsRow_nil _ _ _ _, World.ownsRow_nil _ _ _ _, ⟨rfl, fun i e p h => by simp at h⟩, fun k h => by cases h⟩
 have hC := over_any9 X c hok ⟨[], [], []⟩ _ p 0 h0 (by rw [hXe]; exact hP) ⟨Nat.le_refl _, Nat.le_refl _, Nat.le_refl _⟩ (by omega)
 have e1 : X.B = w.heap.size + 2 := by rw [hXe]
 have e2 : X.most = q := by rw [hXe]
 have e3 : X.w0 = w ∧ X.base = w.heap.size ∧ X.P = P := by rw [hXe]; exact ⟨rfl, rfl, rfl⟩
 rw [e1, e2] at hC
 have HC := Lib.hid hC
 have HQ := Lib.hid hq
 have HNN := Lib.hid hN
 have HE1 := Lib.hid e1
 have HE3 := Lib.hid e3
 have hq9 : (32 : Int) - N = q := by omega
 have hwr : IntKind.i64.wrap q = q := by rw [IntKind.wrap_i64]; omega
 have hlw : w.heap.size + 1 + 1 = w.heap.size + 2 := by omega
 rw [World.size_alloc] at hm2
 clear hC h0 g0 g1 g2 b3 z3 hle hy hlen hok hL hP hq hN hn hX hXe e1 e2 e3
 go_enter Tryz.func33, Tryz.ntmps33
 go_wp2_with fail
 refine HC.out.mono ?_
 rintro e w2 ⟨rfl, hW2, hK2⟩
 have HW2 := Lib.hid hW2
 clear hW2 hK2
 go_wp2_with fail
 go_ret
 refine ⟨X, HE3.out.1, HE3.out.2.1, HE3.out.2.2, by rw [HE1.out]; rfl, ?_⟩
 have h := HW2.out
 unfold clW
 rw [← HQ.out]
 exact h
end Go.Proofs.YtmdcdhdjojimeaaGreatDoor
end
section
set_option linter.unusedVariables false
set_option linter.unusedSimpArgs false
namespace Go.Proofs.YtmdcdhdjojimeaaGreatDoor
open Go.RowKit

theorem lay_of_own {V : World} {base : Nat} {v : Value} {S : List Sp} {L : List Tm} (h : V.ownsRow base 102 6 v S.length (flatSp S)) (hy : S.map (·.y) = L) (hb : ∀ (i : Nat) (z : Sp), S[i]? = some z → z.b = i + z.y.nodes) (hL : L.length ≤ 4096) (hne : 1 ≤ L.length) :
  ∃ LB lc, v = .slice (some ⟨LB, 0, none⟩) L.length lc ∧ base ≤ LB ∧ LayAt V LB lc L := by
 have hl : S.length = L.length := by rw [← hy, List.length_map]
 rcases h.2 with ⟨e1, e2⟩ | ⟨g, cap, cur, e1, hg, hc, hn, _, _, ht⟩
 ·omega
 ·refine ⟨g, cap, by rw [e1, hl], hg, hL, by omega, cur, hc, fun i y hi => ?_⟩
  obtain ⟨z, hz, rfl⟩ : ∃ z, S[i]? = some z ∧ z.y = y := by
   rw [← hy, List.getElem?_map] at hi
   obtain ⟨z, hz, e⟩ := Option.map_eq_some_iff.1 hi
   exact ⟨z, hz, e⟩
  have hi2 := (List.getElem?_eq_some_iff.1 hz).1
  have at_ : ∀ j, j < 6 → cur[i * 6 + j]? = z.cells[j]? := fun j hj => by
   rw [← flatSp_at hz j hj, ← ht, List.getElem?_take_of_lt (by omega), Array.getElem?_toList]
  have h0 := at_ 0 (by decide)
  rw [Nat.add_zero] at h0
  refine ⟨z.A, z.c, h0, at_ 1 (by decide), at_ 2 (by decide), at_ 3 (by decide), at_ 4 (by decide), ?_⟩
  rw [at_ 5 (by decide), ← hb i z hz]
  rfl
set_option maxHeartbeats 4000000 in
set_option maxRecDepth 100000 in
theorem laid_any9 (x : Tm) (nv : Value) (w : World) (hT : TmAt (· < w.heap.size) w x nv) (hn : x.nodes ≤ 4096) :
  Calls Tryz.prog 34 #[nv] w fun e w' => ∃ LB lc, e = .returned (.slice (some ⟨LB, 0, none⟩) x.pre.length lc) ∧ LayAt w' LB lc x.pre ∧ Below w.heap.size w w' := by
 obtain ⟨k, n, s, t, L, A, cap, hx, rfl⟩ : ∃ k' n' s' t' L' A' cap', x = Tm.mk k' n' s' t' L' ∧ nv = .agg #[.int .i8 k', .int .i64 n', .string s', .string t', .slice A' L'.length cap'] := by
  cases hT; exact ⟨_, _, _, _, _, _, _, rfl, rfl⟩
 obtain ⟨g0, g1, g2, b3, z3⟩ := three_at w (.cells #[.int .i8 k, .int .i64 n, .string s, .string t, .slice A L.length cap] 25) (.cells #[.slice none 0 0] 66) (.cells #[.func (.func 52) #[] #[.pointer (some ⟨w.heap.size + 1, 0, none⟩), .pointer (some ⟨w.heap.size + 2, 0, none⟩)]] 58)
 obtain ⟨w3, hw3⟩ : ∃ w3, w3 = ((w.alloc (.cells #[.int .i8 k, .int .i64 n, .string s, .string t, .slice A L.length cap] 25)).alloc (.cells #[.slice none 0 0] 66)).alloc (.cells #[.func (.func 52) #[] #[.pointer (some ⟨w.heap.size + 1, 0, none⟩), .pointer (some ⟨w.heap.size + 2, 0, none⟩)]] 58) := ⟨_, rfl⟩
 rw [← hw3] at g0 g1 g2 b3 z3
 have hS : LayS w w.heap.size (w.heap.size + 1) (w.heap.size + 2) [] (.slice none 0 0) w3 := ⟨b3, ⟨Nat.le_refl _, Nat.le_add_right _ _⟩, g1, World.ownsRow_nil _ _ _ _, g2⟩
 have hC := lay1_any w w.heap.size (w.heap.size + 1) (w.heap.size + 2) w.heap.size (Nat.le_refl _) x [] _ _ w3 hS hT (by simpa using (by omega : x.nodes ≤ 5000))
 have d0 := cell_of_row (i := 0) g0 rfl
 have d1 := cell_of_row (i := 1) g0 rfl
 have d2 := cell_of_row (i := 2) g0 rfl
 have d3 := cell_of_row (i := 3) g0 rfl
 have d4 := cell_of_row (i := 4) g0 rfl
 have df := cell_of_row (i := 0) g2 rfl
 have HC := Lib.hid hC
 have HX := Lib.hid hx
 have HN := Lib.hid hn
 have HW3 := Lib.hid hw3
 clear hS hC hx hn hT g0 g1 g2 b3 z3
 subst hw3
 go_enter Tryz.func34, Tryz.ntmps34
 go_wp2_with fail
 refine HC.out.mono ?_
 clear d0 d1 d2 d3 d4 df
 rintro e w9 ⟨rfl, ⟨S', v', hS, hy, hp⟩, hK⟩
 rw [List.nil_append] at hS
 have cl := cell_of_row (i := 0) hS.box rfl
 obtain ⟨LB, lc, hv, hb, hlay⟩ := lay_of_own hS.own hy (fun i z hz => by have := hp i z hz; simpa using this) HN.out (Tm.pre_ne x)
 have HV := Lib.hid hv
 have HL := Lib.hid hlay
 have HB := Lib.hid hS.below
 clear hS hy hp hK hv hlay hb
 go_wp2_with fail
 go_ret
 exact ⟨LB, lc, by rw [← HV.out]; rfl, HL.out, HB.out⟩
end Go.Proofs.YtmdcdhdjojimeaaGreatDoor
end
