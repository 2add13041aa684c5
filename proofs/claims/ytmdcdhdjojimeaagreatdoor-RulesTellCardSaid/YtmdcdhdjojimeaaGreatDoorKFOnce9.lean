/- Layer 9: functionsOnce: each module's functions once. -/
import Derived.Test.YtmdcdhdjojimeaaGreatDoorKChk9
section
set_option linter.unusedVariables false
set_option linter.unusedSimpArgs false
namespace Go.Proofs.YtmdcdhdjojimeaaGreatDoor
open Go.RowKit Go.Shelf
attribute [local go_sem] Oper.semAt_some

theorem seven_at (w : World) (o0 o1 o2 o3 o4 o5 o6 : Obj) (V : World) (hV : V = ((((((w.alloc o0).alloc o1).alloc o2).alloc o3).alloc o4).alloc o5).alloc o6) :
  V.heap[w.heap.size]? = some o0 ∧ V.heap[w.heap.size + 1]? = some o1 ∧ V.heap[w.heap.size + 2]? = some o2 ∧ V.heap[w.heap.size + 3]? = some o3 ∧ V.heap[w.heap.size + 4]? = some o4 ∧ V.heap[w.heap.size + 5]? = some o5 ∧ V.heap[w.heap.size + 6]? = some o6 ∧ Below w.heap.size w V ∧ V.heap.size = w.heap.size + 7 := by
 obtain ⟨a0, a1, a2, a3, b, z⟩ := four_at w o0 o1 o2 o3
 obtain ⟨c0, c1, c2, b2, z2⟩ := three_at ((((w.alloc o0).alloc o1).alloc o2).alloc o3) o4 o5 o6
 rw [← hV] at c0 c1 c2 b2 z2
 rw [z] at c0 c1 c2 b2 z2
 have k : ∀ i (o : Obj), i < w.heap.size + 4 → ((((w.alloc o0).alloc o1).alloc o2).alloc o3).heap[i]? = some o → V.heap[i]? = some o := fun i o hi h => (b2.block i hi).trans h
 exact ⟨k _ _ (by omega) a0, k _ _ (by omega) a1, k _ _ (by omega) a2, k _ _ (by omega) a3, c0, c1, c2, b.trans (b2.mono (by omega)), by omega⟩
structure OncI (p k : Nat) (l : List Tm) (w : World) (xs : List Nat) (W : World) : Prop where
 is : xs = (placesL p l).take xs.length
 nodup : ∀ i z, i < xs.length → l[i]? = some z → keyT z ∉ (l.take i).map keyT
 map : ∃ es c, W.heap[k]? = some (.map es c) ∧ SetF es ((l.take xs.length).map fnK)
 mod : Mod (fun j => j = k) w W
structure OncX (p k : Nat) (l : List Tm) (w : World) (c : Code) (W : World) : Prop where
 is : c = .ret
 res : ∃ q r, onceW [] p l = some q ∧ W.heap[k - 1]? = some (.cells #[.iface 44 (.pointer (some ⟨r, 0, none⟩))] 47 (0, 0)) ∧ W.heap[r]? = some (.cells #[.int .i64 9, .int .i64 91, .int .i64 ((q : Nat) : Int)] 51 (0, 0))
 mod : Mod (fun j => j = k ∨ j = k - 1) w W
theorem mod_soft {F : Nat → Prop} {B : Nat} {w A C : World} (h : Mod F w A) (hB : w.heap.size ≤ B) (hs : Soft B A C) (hF : ∀ j, F j → j < w.heap.size) : Mod F w C := by
 have hb := hs.below
 exact ⟨hb.os.trans h.os, hb.tape.trans h.tape, hb.output.trans h.output, Nat.le_trans h.size hb.size, fun j hj hn => (hb.block j (by omega)).trans (h.block j hj hn)⟩
theorem keepC_mod {A C : World} {F : Nat → Prop} (h : Mod F A C) (hF : ∀ k c t z, F k → A.heap[k]? = some (.cells c t z) → t = 47) : KeepC A C :=
 ⟨h.size, fun k c t z hk _ _ h3 => (h.block k (heap_lt hk) (fun f => h3 (hF k c t z f hk))).trans hk⟩
theorem keepC_below9 {A B : World} (h : Below A.heap.size A B) : KeepC A B := (KeepT.of_below (mb := 0) (me := 0) h).toC
theorem OncI.soft {p k : Nat} {l : List Tm} {w A C : World} {xs : List Nat} (h : OncI p k l w xs A) (hs : Soft w.heap.size A C) (hk : k < w.heap.size) : OncI p k l w xs C := by
 obtain ⟨es, c, h1, h2⟩ := h.map
 exact ⟨h.is, h.nodup, ⟨es, c, hs.same _ _ h1 (.inr ⟨by omega, by omega⟩), h2⟩, mod_soft h.mod (Nat.le_refl _) hs (fun j e => by omega)⟩
theorem OncX.soft {p k : Nat} {l : List Tm} {w A C : World} {c : Code} (h : OncX p k l w c A) (hs : Soft w.heap.size A C) (hk : k < w.heap.size) (hk2 : 1 ≤ k) : OncX p k l w c C := by
 obtain ⟨q, r, h1, h2, h3⟩ := h.res
 exact ⟨h.is, ⟨q, r, h1, hs.same _ _ h2 (.inl rfl), hs.same _ _ h3 (.inl rfl)⟩, mod_soft h.mod (Nat.le_refl _) hs (fun j e => by omega)⟩
theorem own2_mod {A C : World} {F : Nat → Prop} {B : Nat} (h : Mod F A C) (hB : B + 1 < A.heap.size) (hF : ¬ F B ∧ ¬ F (B + 1)) : Own2 B A C := ⟨h.size, h.block _ (by omega) hF.2, h.block _ (by omega) hF.1⟩

set_option maxHeartbeats 16000000 in
set_option maxRecDepth 100000 in
theorem once_any (CB LB lc fm : Nat) (fv : Value) (x : Tm) (fl : List (Int × Nat)) (V : World) (p : Nat) (y : Tm) (h : Chk CB LB lc fm fv x fl V) (hP : PlaceAt x.pre p y) (hok : ∀ z ∈ y.l, TmOk z) :
  Calls Tryz.prog 80 #[.pointer (some ⟨CB, 0, none⟩), .int .i64 (p : Int)] V (RuleTo ((onceW [] (p + 1) y.l).map fun q => (91, q)) V) := by
 have hle := hP.le
 have hlen := h.lay.len
 have hpar : PlacesAt x.pre (p + 1) y.l := by cases y; exact hP.parts
 obtain ⟨E, hE⟩ : ∃ E : Nat, E = p + y.nodes := ⟨_, rfl⟩
 have hE2 : E = p + 1 + (Tm.pres y.l).length := by cases y; rw [hE, nodes_mk9]; simp only [Tm.l]; omega
 obtain ⟨w7, hw7⟩ : ∃ w7, w7 = ((((((V.alloc (.cells #[.pointer (some ⟨CB, 0, none⟩)] 88)).alloc (.cells #[Value.nilIface] 47)).alloc (.map #[] 0)).alloc (.cells #[.map (some (V.heap.size + 2))] 116)).alloc (.cells #[.slice (some ⟨LB, 0, none⟩) x.pre.length lc] 66)).alloc (.cells #[.int .i64 ((p + 1 : Nat) : Int)] 3)).alloc (.cells #[.int .i64 (E : Int)] 3) := ⟨_, rfl⟩
 obtain ⟨g0, g1, g2, g3, g4, g5, g6, b7, z7⟩ := seven_at V _ _ _ _ _ _ _ w7 hw7
 have h7 := h.under b7
 have hw7b := hw7
 rw [hE, show ((p + 1 : Nat) : Int) = (p : Int) + 1 by omega, show ((p + y.nodes : Nat) : Int) = (p : Int) + (y.nodes : Int) by omega] at hw7b
 have hst := between1_stops LB lc (V.heap.size + 5) (V.heap.size + 6) (V.heap.size + 4) x.pre (p + 1) E y.l (3 - 1) (by decide) w7 ⟨g5, g6, g4, h7.lay⟩ hpar (by have := Tm.pre_ne y; unfold Tm.nodes at hle; omega) hE2
 -- on the way to the range
 obtain ⟨a4, -, -, -, b4, z4⟩ := four_at V (.cells #[.pointer (some ⟨CB, 0, none⟩)] 88) (.cells #[Value.nilIface] 47) (.map #[] 0) (.cells #[.map (some (V.heap.size + 2))] 116)
 have h4 := h.under b4
 have c4 := cell_of_row (i := 0) a4 rfl
 have d4 := cell_of_row (i := 0) h4.box rfl
 have hmk := mkmapF ((V.alloc (.cells #[.pointer (some ⟨CB, 0, none⟩)] 88)).alloc (.cells #[Value.nilIface] 47))
 rw [World.size_alloc, World.size_alloc, show V.heap.size + 1 + 1 = V.heap.size + 2 from rfl] at hmk
 have HPI := Lib.hid (fun (m : Nat) => parts_in x.pre LB lc p y m _ h4.lay hP)
 have HST := Lib.hid hst
 have HG := Lib.hid (And.intro g0 (And.intro g1 (And.intro g2 g3)))
 have HB7 := Lib.hid b7
 have HZ7 := Lib.hid z7
 have H7 := Lib.hid h7
 have HPAR := Lib.hid hpar
 have HOK := Lib.hid hok
 have HE := Lib.hid hE
 have HLN := Lib.hid hlen
 have HLE := Lib.hid hle
 have h0 := Lib.hid h
 clear hst g0 g1 g2 g3 g4 g5 g6 b7 z7 h7 hpar hok hE hE2 hlen hle hP h a4 b4 h4
 refine (callsIn_wide (n := 3)).1 ?_
 refine callsIn_of_wp_marks Tryz.func80 rfl trivial ?_ rfl
 simp only [Tryz.ntmps80, List.size_toArray, List.length_cons, List.length_nil, Nat.reduceAdd, Nat.reduceSub, Array.replicate_succ, Array.replicate_zero, List.push_toArray, List.append_toArray, List.nil_append, List.cons_append]
 gi_wp2_with (refine ⟨trivial, ?_⟩; gi_at_call 56; refine (HPI.out _).mono ?_; rintro e w' ⟨rfl, rfl⟩)
 rw [← hw7b]
 clear hw7 hw7b hmk c4 d4 HPI z4
 simp only [Nat.add_assoc, Nat.reduceAdd]
 refine range_E (α := Nat) (gf := 91) (lb := #[.pointer (some ⟨V.heap.size + 5, 0, none⟩), .pointer (some ⟨V.heap.size + 6, 0, none⟩), .pointer (some ⟨V.heap.size + 4, 0, none⟩)]) rfl (enters_of Tryz.func91 (by kernel_rfl) rfl) (fun _ => rfl) HST.out
  KeepC.trans (fun W l o o' _ h ho => KeepC.put h ho) (fun A C h => keepC_below9 h)
  (OncI (p + 1) (V.heap.size + 2) y.l w7) (fun c _ W => OncX (p + 1) (V.heap.size + 2) y.l w7 c W)
  (fun s A C h hs _ => h.soft hs (by have := HZ7.out; omega)) (fun c s A C h hs _ => h.soft hs (by have := HZ7.out; omega) (by omega))
  ⟨by simp, fun i z hi => by simp at hi, ⟨#[], 0, HG.out.2.2.1, by simpa using SetF.nil⟩, .refl _ _⟩
  (fun q a' W => a' = { tmps := #[.pointer (some ⟨CB, 0, none⟩), .int .i64 (p : Int), .pointer (some ⟨V.heap.size, 0, none⟩), undef, .pointer (some ⟨V.heap.size + 1, 0, none⟩), .pointer (some ⟨V.heap.size + 3, 0, none⟩), .int .i64 (q : Int), undef, undef, undef, .map (some (V.heap.size + 2)), .pointer (some ⟨CB, 0, none⟩), .pointer (some ⟨CB, 0, none⟩), .pointer (some ⟨CB, 0, none⟩), .slice (some ⟨LB, 0, none⟩) x.pre.length lc, .int .i64 (p : Int),
   .func (.func 91) #[] #[.pointer (some ⟨V.heap.size + 5, 0, none⟩), .pointer (some ⟨V.heap.size + 6, 0, none⟩), .pointer (some ⟨V.heap.size + 4, 0, none⟩)], .int .i64 (q : Int), undef, undef, undef, undef, undef, undef, undef, undef, undef, undef, undef, undef, undef, undef, undef, undef, undef, undef, undef, undef, undef, undef, undef, undef, undef, undef, undef, undef, undef, undef, undef], defers := [] }) (fun _ _ _ _ h _ => h) ?assign ?body ?done ?stop (by decide)
 case assign =>
  rintro l' pre q W K hi hE hz hK
  have HK := Lib.hid hK
  simp only [encP]
  clear hK hi hE
  gi_wp2_with fail
  exact HK.out _ _ (Below.refl _ _) rfl
 case body =>
  rintro l' pre q a' W hi ⟨j, hpre, hq⟩ rfl hz ⟨rr, hrr⟩ ⟨dd, hdd⟩
  have hj : j < y.l.length := by have := (List.getElem?_eq_some_iff.1 hq).1; rw [placesL_len] at this; exact this
  have hpl : pre.length = j := by rw [hpre, List.length_take, placesL_len]; omega
  obtain ⟨z, hx⟩ : ∃ z, y.l[j]? = some z := ⟨y.l[j], List.getElem?_eq_getElem hj⟩
  have hq2 : q = p + 1 + (Tm.pres (y.l.take j)).length := by rw [placesL_get y.l (p + 1) j hj] at hq; exact (Option.some.inj hq).symm
  have hqp : PlaceAt x.pre q z := by rw [hq2]; exact HPAR.out.at_ hx
  have hql := hqp.le
  have hzok := HOK.out z (List.mem_of_getElem? hx)
  obtain ⟨es, cc, hmp, hset⟩ := hi.map
  rw [hpl] at hset
  have hk : ∀ (i : Nat) (o : Obj), w7.heap[i]? = some o → i ≠ V.heap.size + 2 → W.heap[i]? = some o := fun i o h hne => (hi.mod.block i (heap_lt h) hne).trans h
  have hcw : Below V.heap.size V W := HB7.out.trans (hi.mod.below (by have := HZ7.out; omega) (fun i e => by omega))
  have hchk : Chk CB LB lc fm fv x fl W := h0.out.under hcw
  have c0 := cell_of_row (i := 0) (hk _ _ HG.out.1 (by omega)) rfl
  have c3 := cell_of_row (i := 0) (hk _ _ HG.out.2.2.2 (by omega)) rfl
  have r1 := hk _ _ HG.out.2.1 (by omega)
  have hq1 : (q : Int) < (x.pre.length : Int) := by have := Tm.pre_ne z; unfold Tm.nodes at hql; omega
  have hq0 : (0 : Int) ≤ (q : Int) := by omega
  have had := add6 LB q
  have HCHK := Lib.hid hchk
  have HC0 := Lib.hid c0
  have HC3 := Lib.hid c3
  have HR1 := Lib.hid r1
  have HI := Lib.hid hi
  have HZ := Lib.hid hqp.get
  have HZOK := Lib.hid hzok
  have HMP := Lib.hid hmp
  have HSET := Lib.hid hset
  have HJ := Lib.hid hj
  have HPL := Lib.hid hpl
  have HX := Lib.hid hx
  have HQ := Lib.hid hq
  have HQ2 := Lib.hid hq2
  have HPRE := Lib.hid hpre
  have HRR := Lib.hid hrr
  have HDD := Lib.hid hdd
  clear hi hq hpre hj hpl hx hq2 hqp hql hzok hmp hset hk hcw hchk c0 c3 r1 hrr hdd
  gi_wp2_with fail
  refine wpIn_region_E (S := fun W' => Below W.heap.size W W') [] (by kernel_rfl) (by kernel_rfl) (by rintro ⟨_, _, h⟩; exact h) ((Below.refl _ _).drew) (fun hS0 => ?_)
  generalize W.drew = D at hS0 ⊢
  refine wpAnyE_take (i := 0) (oi := ⟨some 18, _, _, _, _, _⟩) (v := ?_) rfl (by kernel_rfl) (by kernel_rfl) (by kernel_rfl) (by kernel_rfl) (fun _ _ _ h => h) (Or.inl ⟨by kernel_rfl, ?_⟩) (by assumption) ?_; rotate_left; (intro w hSw; (try dsimp only at hSw); have c0 := (hSw.cell (World.block_lt_of_cell? _ _ HC0.out)).trans HC0.out; go_simp; first | done | with_reducible rfl); (try simp only [Act.put, sI, sZ, sS])
  refine te0 1 ?_; (try simp only [Act.put, sI, sZ, sS])
  refine te0 2 ?_; (try simp only [Act.put, sI, sZ, sS])
  refine wpAnyE_take (i := 3) (oi := ⟨some 21, _, _, _, _, _⟩) (v := ?_) rfl (by kernel_rfl) (by kernel_rfl) (by kernel_rfl) (by kernel_rfl) (fun _ _ _ h => h) (Or.inl ⟨by kernel_rfl, ?_⟩) (by assumption) ?_; rotate_left; (intro w hSw; (try dsimp only at hSw); have cb := cell_of_row (i := 0) (HCHK.out.under hSw).box rfl; go_simp; first | done | with_reducible rfl); (try simp only [Act.put, sI, sZ, sS])
  refine te0 4 ?_; (try simp only [Act.put, sI, sZ, sS])
  refine te0 5 ?_; (try simp only [Act.put, sI, sZ, sS])
  refine te0 6 ?_; (try simp only [Act.put, sI, sZ, sS])
  refine te0 7 ?_; (try simp only [Act.put, sI, sZ, sS])
  refine wpAnyE_take (i := 8) (oi := ⟨some 26, _, _, _, _, _⟩) (v := ?_) rfl (by kernel_rfl) (by kernel_rfl) (by kernel_rfl) (by kernel_rfl) (fun _ _ _ h => h) (Or.inl ⟨by kernel_rfl, ?_⟩) (by assumption) ?_; rotate_left; (intro w hSw; (try dsimp only at hSw); obtain ⟨A4, cap4, -, -, s2, -⟩ := (HCHK.out.under hSw).lay.spot HZ.out; go_simp; first | done | with_reducible rfl); (try simp only [Act.put, sI, sZ, sS])
  refine wpAnyE_take (i := 9) (oi := ⟨some 27, _, _, _, _, _⟩) (v := ?_) rfl (by kernel_rfl) (by kernel_rfl) (by kernel_rfl) (by kernel_rfl) (fun _ _ _ h => h) (Or.inl ⟨by kernel_rfl, ?_⟩) (by assumption) ?_; rotate_left; (intro w hSw; (try dsimp only at hSw); have c0 := (hSw.cell (World.block_lt_of_cell? _ _ HC0.out)).trans HC0.out; go_simp; first | done | with_reducible rfl); (try simp only [Act.put, sI, sZ, sS])
  refine te0 10 ?_; (try simp only [Act.put, sI, sZ, sS])
  refine te0 11 ?_; (try simp only [Act.put, sI, sZ, sS])
  refine wpAnyE_take (i := 12) (oi := ⟨some 30, _, _, _, _, _⟩) (v := ?_) rfl (by kernel_rfl) (by kernel_rfl) (by kernel_rfl) (by kernel_rfl) (fun _ _ _ h => h) (Or.inl ⟨by kernel_rfl, ?_⟩) (by assumption) ?_; rotate_left; (intro w hSw; (try dsimp only at hSw); have cb := cell_of_row (i := 0) (HCHK.out.under hSw).box rfl; go_simp; first | done | with_reducible rfl); (try simp only [Act.put, sI, sZ, sS])
  refine te0 13 ?_; (try simp only [Act.put, sI, sZ, sS])
  refine te0 14 ?_; (try simp only [Act.put, sI, sZ, sS])
  refine te0 15 ?_; (try simp only [Act.put, sI, sZ, sS])
  refine te0 16 ?_; (try simp only [Act.put, sI, sZ, sS])
  refine wpAnyE_take (i := 17) (oi := ⟨some 35, _, _, _, _, _⟩) (v := ?_) rfl (by kernel_rfl) (by kernel_rfl) (by kernel_rfl) (by kernel_rfl) (fun _ _ _ h => h) (Or.inl ⟨by kernel_rfl, ?_⟩) (by assumption) ?_; rotate_left; (intro w hSw; (try dsimp only at hSw); obtain ⟨A4, cap4, -, s1, -⟩ := (HCHK.out.under hSw).lay.spot HZ.out; go_simp; first | done | with_reducible rfl); (try simp only [Act.put, sI, sZ, sS])
  refine te0 18 ?_; (try simp only [Act.put, sI, sZ, sS])
  refine wpAnyE_one (i := 19) (o := ⟨some 7, _, _, _, _, _⟩) (by kernel_rfl) rfl (fun K hK => ?_)
  rw [if_pos (by rfl)]
  go_simp
  refine hK.out _ _ (hS0.alloc (by have := hS0.size; omega) _) (fun hSn => ?_)
  clear hK K; (try simp only [Act.put, sI, sZ, sS])
  have g2 := block_alloc D (.cells #[.string ⟨#[]⟩, .string ⟨#[]⟩, .int .i64 0, .int .i64 0, .int .i64 0] 64)
  have hk2 : W.heap.size ≤ D.heap.size := hS0.size
  clear hS0
  generalize D.alloc (.cells #[.string ⟨#[]⟩, .string ⟨#[]⟩, .int .i64 0, .int .i64 0, .int .i64 0] 64) = V2 at g2 hSn ⊢
  generalize D.heap.size = k2 at g2 hk2 ⊢
  have d0 : V2.cell? ⟨k2, 0, none⟩ = some (.string ⟨#[]⟩) := cell_of_row g2 rfl
  have e0 : V2.frozen? ⟨k2, 0, none⟩ = false := free_of_row g2
  have d1 : V2.cell? ⟨k2, 1, none⟩ = some (.string ⟨#[]⟩) := cell_of_row g2 rfl
  have e1 : V2.frozen? ⟨k2, 1, none⟩ = false := free_of_row g2
  have d2 : V2.cell? ⟨k2, 2, none⟩ = some (.int .i64 0) := cell_of_row g2 rfl
  have e2 : V2.frozen? ⟨k2, 2, none⟩ = false := free_of_row g2
  have d3 : V2.cell? ⟨k2, 3, none⟩ = some (.int .i64 0) := cell_of_row g2 rfl
  have e3 : V2.frozen? ⟨k2, 3, none⟩ = false := free_of_row g2
  have d4 : V2.cell? ⟨k2, 4, none⟩ = some (.int .i64 0) := cell_of_row g2 rfl
  have e4 : V2.frozen? ⟨k2, 4, none⟩ = false := free_of_row g2
  refine wpAnyE_one (i := 20) (o := ⟨none, _, _, _, _, _⟩) (by kernel_rfl) rfl (fun K hK => ?_)
  rw [if_pos (by rfl)]
  go_simp
  refine hK.out _ _ (((((hSn.setCell (p := ⟨k2, 0, none⟩) hk2 _).setCell (p := ⟨k2, 1, none⟩) hk2 _).setCell (p := ⟨k2, 2, none⟩) hk2 _).setCell (p := ⟨k2, 3, none⟩) hk2 _).setCell (p := ⟨k2, 4, none⟩) hk2 _) (fun hSn => ?_)
  clear hK K; (try simp only [Act.put, sI, sZ, sS])
  have g3 : (((((V2.setCell ⟨k2, 0, none⟩ (.string z.s)).setCell ⟨k2, 1, none⟩ (.string ⟨#[]⟩)).setCell ⟨k2, 2, none⟩ (.int .i64 z.n)).setCell ⟨k2, 3, none⟩ (.int .i64 0)).setCell ⟨k2, 4, none⟩ (.int .i64 0)).heap[k2]? = some (.cells #[.string z.s, .string ⟨#[]⟩, .int .i64 z.n, .int .i64 0, .int .i64 0] 64 (0, 0)) := (set_row (i := 4) (.int .i64 0) (set_row (i := 3) (.int .i64 0) (set_row (i := 2) (.int .i64 z.n) (set_row (i := 1) (.string ⟨#[]⟩) (set_row (i := 0) (.string z.s) g2)))))
  clear d0 d1 d2 d3 d4 e0 e1 e2 e3 e4 g2
  generalize ((((V2.setCell ⟨k2, 0, none⟩ (.string z.s)).setCell ⟨k2, 1, none⟩ (.string ⟨#[]⟩)).setCell ⟨k2, 2, none⟩ (.int .i64 z.n)).setCell ⟨k2, 3, none⟩ (.int .i64 0)).setCell ⟨k2, 4, none⟩ (.int .i64 0) = V3 at g3 hSn ⊢
  refine wpAnyE_done (by kernel_rfl) ?_ _
  have hmp3 := (hSn.block _ (heap_lt HMP.out)).trans HMP.out
  have c3 := (hSn.cell (World.block_lt_of_cell? _ _ HC3.out)).trans HC3.out
  have ql := HSET.out.look V3 (V.heap.size + 2) cc hmp3 (fnK_ok HZOK.out)
  rw [fnV_K] at ql
  have q0 := cell_of_row (i := 0) g3 rfl
  have q1 := cell_of_row (i := 1) g3 rfl
  have q2 := cell_of_row (i := 2) g3 rfl
  have q3 := cell_of_row (i := 3) g3 rfl
  have q4 := cell_of_row (i := 4) g3 rfl
  have HB3 := Lib.hid hSn
  have HG3 := Lib.hid g3
  clear hmp3 hSn g3 hk2
  cases hd : decide (fnK z ∈ (y.l.take j).map fnK)
  ·rw [hd] at ql
   have HND := Lib.hid (of_decide_eq_false hd)
   clear hd
   have b4 : Below V3.heap.size V3 (V3.alloc (.cells #[] 119)) := (Below.refl _ _).alloc (Nat.le_refl _) _
   have g4 := (b4.block _ (heap_lt HG3.out)).trans HG3.out
   have c3' := (b4.cell (World.block_lt_of_cell? _ _ c3)).trans c3
   have q0' := cell_of_row (i := 0) g4 rfl
   have q1' := cell_of_row (i := 1) g4 rfl
   have q2' := cell_of_row (i := 2) g4 rfl
   have q3' := cell_of_row (i := 3) g4 rfl
   have q4' := cell_of_row (i := 4) g4 rfl
   have hb4 := HB3.out.trans (b4.mono HB3.out.size)
   have hmp4 := (hb4.block _ (heap_lt HMP.out)).trans HMP.out
   obtain ⟨es2, c2, hput, hset2⟩ := HSET.out.put _ (V.heap.size + 2) cc hmp4 (fnK_ok HZOK.out)
   rw [fnV_K] at hput
   have m5 : Mod (fun k => k = V.heap.size + 2) W ((V3.alloc (.cells #[] 119)).putObj (V.heap.size + 2) (.map es2 c2)) := (Mod.of_below hb4).trans (Mod.putObj (F := fun k => k = V.heap.size + 2) _ _ _ rfl) (fun _ _ h => h)
   have hmap5 : ((V3.alloc (.cells #[] 119)).putObj (V.heap.size + 2) (.map es2 c2)).heap[V.heap.size + 2]? = some (.map es2 c2) := World.putObj_heap_same (heap_lt hmp4)
   have HM5 := Lib.hid (And.intro m5 (And.intro hmap5 hset2))
   clear b4 g4 hb4 hmp4 hset2 m5 hmap5
   gi_wp2_with fail
   obtain ⟨m5, hmap5, hset2⟩ := HM5.out
   have hl1 : (pre ++ [q]).length = j + 1 := by rw [List.length_append, HPL.out]; rfl
   refine ⟨own2_mod m5 (by omega) ⟨by have := HZ7.out; omega, by have := HZ7.out; omega⟩, keepC_mod m5 (fun k c t zz e hk => by rw [e, HMP.out] at hk; cases hk), ⟨?_, ?_, ⟨es2, c2, hmap5, ?_⟩, HI.out.mod.trans m5 (fun _ _ e => e)⟩⟩
   ·rw [hl1, List.take_add_one, HQ.out, ← HPRE.out]; rfl
   ·intro i zz hi hzz
    rw [hl1] at hi
    by_cases hij : i < j
    ·exact HI.out.nodup i zz (by rw [HPL.out]; exact hij) hzz
    ·obtain rfl : i = j := by omega
     rw [HX.out] at hzz; cases hzz
     exact fun hm => HND.out ((fnK_mem _ _).2 hm)
   ·rw [hl1, List.take_add_one, HX.out, List.map_append]; exact hset2
  ·rw [hd] at ql
   have HND := Lib.hid (of_decide_eq_true hd)
   clear hd
   have b4 : Below V3.heap.size V3 (V3.alloc (.cells #[] 119)) := (Below.refl _ _).alloc (Nat.le_refl _) _
   have hb4 := HB3.out.trans (b4.mono HB3.out.size)
   have HB4 := Lib.hid hb4
   clear b4 hb4
   gi_wp2_with fail
   refine ⟨trivial, ?_⟩
   generalize V3.alloc (.cells #[] 119) = V4 at HB4 ⊢
   refine (callsIn_wide.2 (refused_any _ _ _)).mono ?_
   rintro e w5 ⟨rfl, rfl⟩
   have g5 := block_alloc V4 (.cells #[.int .i64 9, .int .i64 91, .int .i64 (q : Int)] 51)
   have b5 : Below W.heap.size W (V4.alloc (.cells #[.int .i64 9, .int .i64 91, .int .i64 (q : Int)] 51)) := HB4.out.alloc (by have := HB4.out.size; omega) _
   have r5 := (b5.block _ (heap_lt HR1.out)).trans HR1.out
   have n5 := cell_of_row (i := 0) r5 rfl
   have f5 := free_of_row (i := 0) r5
   have HG5 := Lib.hid g5
   have HB5 := Lib.hid b5
   have HR5 := Lib.hid r5
   have HZ4 : Hid (W.heap.size ≤ V4.heap.size) := HB4.out.size
   clear g5 b5 r5
   generalize V4.heap.size = r at HG5 HZ4 ⊢
   generalize V4.alloc (.cells #[.int .i64 9, .int .i64 91, .int .i64 (q : Int)] 51) = V5 at HG5 HB5 HR5 n5 f5 ⊢
   gi_wp2_with fail
   have m6 : Mod (fun k => k = V.heap.size + 1) V5 (V5.setCell ⟨V.heap.size + 1, 0, none⟩ (.iface 44 (.pointer (some ⟨r, 0, none⟩)))) := Mod.setCell _ _ _ (.inl rfl)
   have m7 : Mod (fun k => k = V.heap.size + 1) W (V5.setCell ⟨V.heap.size + 1, 0, none⟩ (.iface 44 (.pointer (some ⟨r, 0, none⟩)))) := (Mod.of_below HB5.out).trans m6 (fun _ _ h => h)
   have hgt := heap_lt HR1.out
   refine ⟨own2_mod m7 (by omega) ⟨by have := HZ7.out; omega, by have := HZ7.out; omega⟩, ⟨rfl, ⟨q, r, ?_, set_row (i := 0) _ HR5.out, (m6.block _ (heap_lt HG5.out) (by have := HZ4.out; omega)).trans HG5.out⟩, (HI.out.mod.mono (fun _ _ e => .inl e)).trans m7 (fun _ _ e => .inr (by show _ = V.heap.size + 2 - 1; omega))⟩⟩
   rw [HQ2.out]
   refine onceW_at y.l [] (p + 1) j z HX.out (fun i zz hi hzz => ?_) ?_
   ·rw [List.nil_append]; exact HI.out.nodup i zz (by rw [HPL.out]; exact hi) hzz
   ·rw [List.nil_append]; exact (fnK_mem _ _).1 HND.out
 case done =>
  rintro xs W rfl hi hd
  have hlt := heap_lt HG.out.2.1
  have r1 := (hi.mod.block _ hlt (by omega)).trans HG.out.2.1
  have n1 := cell_of_row (i := 0) r1 rfl
  have f1 := free_of_row (i := 0) r1
  have HI := Lib.hid hi
  have HD := Lib.hid hd
  have HR1 := Lib.hid r1
  clear hi hd r1 hlt
  gi_wp2
  have m2 : Mod (fun k => k = V.heap.size + 1) W (W.setCell ⟨V.heap.size + 1, 0, none⟩ Value.nilIface) := Mod.setCell _ _ _ (.inl rfl)
  have hz := HZ7.out
  have hd2 := (m2.block _ (heap_lt HD.out) (by omega)).trans HD.out
  have m3 : Mod (fun k => k = w7.heap.size) (W.setCell ⟨V.heap.size + 1, 0, none⟩ Value.nilIface) ((W.setCell ⟨V.heap.size + 1, 0, none⟩ Value.nilIface).putObj w7.heap.size (.deferred none)) := Mod.putObj _ _ _ rfl
  have hc := cell_of_row (i := 0) ((m3.block _ (heap_lt (set_row (i := 0) Value.nilIface HR1.out)) (by omega)).trans (set_row (i := 0) Value.nilIface HR1.out)) rfl
  refine ⟨by simp, .inl ⟨_, _, rfl, run_takeDeferred hd2, ?_⟩⟩
  refine ⟨Value.nilIface, by simp [results, Tryz.f80, go_sem, hc], Value.nilIface, rfl, ?_, ?_⟩
  ·rw [onceW_none y.l [] (p + 1) (fun i zz hzz => by rw [List.nil_append]; exact HI.out.nodup i zz (by rw [placesL_len]; exact (List.getElem?_eq_some_iff.1 hzz).1) hzz)]
   rfl
  ·exact (HB7.out.trans (HI.out.mod.below (by omega) (fun i e => by omega))).trans ((m2.below (by have := HI.out.mod.size; omega) (fun i e => by omega)).trans (m3.below (by have := HI.out.mod.size; have := m2.size; omega) (fun i e => by omega)))
 case stop =>
  rintro c pre W _ ⟨rfl, ⟨q, r, h1, h2, h3⟩, hm⟩ hd
  have HD := Lib.hid hd
  have H1 := Lib.hid (And.intro h1 (And.intro h2 (And.intro h3 hm)))
  clear h1 h2 h3 hm hd
  gi_wp2
  obtain ⟨h1, h2, h3, hm⟩ := H1.out
  have hz := HZ7.out
  rw [show V.heap.size + 2 - 1 = V.heap.size + 1 by omega] at h2 hm
  have m3 : Mod (fun k => k = w7.heap.size) W (W.putObj w7.heap.size (.deferred none)) := Mod.putObj _ _ _ rfl
  have hc := cell_of_row (i := 0) ((m3.block _ (heap_lt h2) (by omega)).trans h2) rfl
  have hr : r ≠ w7.heap.size := fun e => by rw [e, HD.out] at h3; cases h3
  refine ⟨by simp, .inl ⟨_, _, rfl, run_takeDeferred HD.out, ?_⟩⟩
  refine ⟨.iface 44 (.pointer (some ⟨r, 0, none⟩)), by simp [results, Tryz.f80, go_sem, hc], _, rfl, ?_, ?_⟩
  ·rw [h1]
   exact ⟨r, rfl, (m3.block _ (heap_lt h3) hr).trans h3⟩
  ·exact (HB7.out.trans (hm.below (by omega) (fun i e => by omega))).trans (m3.below (by have := hm.size; omega) (fun i e => by omega))
end Go.Proofs.YtmdcdhdjojimeaaGreatDoor
end
section
set_option linter.unusedVariables false
set_option linter.unusedSimpArgs false
namespace Go.Proofs.YtmdcdhdjojimeaaGreatDoor
open Go.RowKit Go.Shelf
attribute [local go_sem] Oper.semAt_some

theorem onceM_at : ∀ (l : List Tm) (p j q : Nat) (m : Tm), l[j]? = some m → (∀ i z, i < j → l[i]? = some z → onceW [] (p + (Tm.pres (l.take i)).length + 1) z.l = none) → onceW [] (p + (Tm.pres (l.take j)).length + 1) m.l = some q → onceM p l = some q
 | y :: l, p, 0, q, x, hx, _, hm => by
  simp at hx; subst hx
  rw [onceM]
  simp [Tm.pres] at hm
  rw [hm]
 | y :: l, p, j + 1, q, x, hx, hn, hm => by
  have h0 : onceW [] (p + 1) y.l = none := by have := hn 0 y (by omega) rfl; simpa [Tm.pres] using this
  rw [onceM, h0]
  refine onceM_at l _ j q x (by simpa using hx) (fun i z hi hz => ?_) ?_
  ·have := hn (i + 1) z (by omega) (by simpa using hz)
   rw [List.take_succ_cons, nodes_pres_cons] at this
   rw [← this]; congr 1; omega
  ·rw [List.take_succ_cons, nodes_pres_cons] at hm
   rw [← hm]; congr 1; omega
theorem onceM_none : ∀ (l : List Tm) (p : Nat), (∀ i z, l[i]? = some z → onceW [] (p + (Tm.pres (l.take i)).length + 1) z.l = none) → onceM p l = none
 | [], _, _ => rfl
 | y :: l, p, hn => by
  have h0 : onceW [] (p + 1) y.l = none := by have := hn 0 y rfl; simpa [Tm.pres] using this
  rw [onceM, h0]
  refine onceM_none l _ (fun i z hz => ?_)
  have := hn (i + 1) z (by simpa using hz)
  rw [List.take_succ_cons, nodes_pres_cons] at this
  rw [← this]; congr 1; omega
theorem five_at (w : World) (o0 o1 o2 o3 o4 : Obj) (V : World) (hV : V = ((((w.alloc o0).alloc o1).alloc o2).alloc o3).alloc o4) :
  V.heap[w.heap.size]? = some o0 ∧ V.heap[w.heap.size + 1]? = some o1 ∧ V.heap[w.heap.size + 2]? = some o2 ∧ V.heap[w.heap.size + 3]? = some o3 ∧ V.heap[w.heap.size + 4]? = some o4 ∧ Below w.heap.size w V ∧ V.heap.size = w.heap.size + 5 := by
 obtain ⟨a0, a1, a2, a3, b, z⟩ := four_at w o0 o1 o2 o3
 have c0 := block_alloc ((((w.alloc o0).alloc o1).alloc o2).alloc o3) o4
 have zz : (((((w.alloc o0).alloc o1).alloc o2).alloc o3).alloc o4).heap.size = w.heap.size + 5 := by rw [World.size_alloc, z]
 rw [z] at c0
 subst hV
 have k : ∀ i (o : Obj), i < w.heap.size + 4 → ((((w.alloc o0).alloc o1).alloc o2).alloc o3).heap[i]? = some o → (((((w.alloc o0).alloc o1).alloc o2).alloc o3).alloc o4).heap[i]? = some o := fun i o hi h => (Below.heap_alloc _ _ _ (by omega)).trans h
 exact ⟨k _ _ (by omega) a0, k _ _ (by omega) a1, k _ _ (by omega) a2, k _ _ (by omega) a3, c0, b.alloc (by omega) _, zz⟩
structure FOnI (p : Nat) (l : List Tm) (w : World) (xs : List Nat) (W : World) : Prop where
 is : xs = (placesL p l).take xs.length
 once : ∀ i z, i < xs.length → l[i]? = some z → onceW [] (p + (Tm.pres (l.take i)).length + 1) z.l = none
 below : Below w.heap.size w W
structure FOnX (p k : Nat) (l : List Tm) (w : World) (c : Code) (W : World) : Prop where
 is : c = .ret
 res : ∃ q r, onceM p l = some q ∧ W.heap[k]? = some (.cells #[.iface 44 (.pointer (some ⟨r, 0, none⟩))] 47 (0, 0)) ∧ W.heap[r]? = some (.cells #[.int .i64 9, .int .i64 91, .int .i64 ((q : Nat) : Int)] 51 (0, 0))
 mod : Mod (fun j => j = k) w W
theorem FOnI.soft {p : Nat} {l : List Tm} {w A C : World} {xs : List Nat} (h : FOnI p l w xs A) (hs : Soft w.heap.size A C) : FOnI p l w xs C := ⟨h.is, h.once, h.below.trans hs.below⟩
theorem FOnX.soft {p k : Nat} {l : List Tm} {w A C : World} {c : Code} (h : FOnX p k l w c A) (hs : Soft w.heap.size A C) (hk : k < w.heap.size) : FOnX p k l w c C := by
 obtain ⟨q, r, h1, h2, h3⟩ := h.res
 exact ⟨h.is, ⟨q, r, h1, hs.same _ _ h2 (.inl rfl), hs.same _ _ h3 (.inl rfl)⟩, mod_soft h.mod (Nat.le_refl _) hs (fun j e => by omega)⟩

set_option maxHeartbeats 16000000 in
set_option maxRecDepth 100000 in
theorem functionsOnce_any (CB LB lc fm : Nat) (fv : Value) (x : Tm) (fl : List (Int × Nat)) (V : World) (h : Chk CB LB lc fm fv x fl V) (hP : PlaceAt x.pre 0 x) (hok : ∀ m ∈ x.l, ∀ z ∈ m.l, TmOk z) :
  Calls Tryz.prog 58 #[.pointer (some ⟨CB, 0, none⟩)] V (RuleTo ((onceM 1 x.l).map fun q => (91, q)) V) := by
 have hle := hP.le
 have hlen := h.lay.len
 have hpar : PlacesAt x.pre 1 x.l := by have := hP; cases x; exact this.parts
 obtain ⟨E, hE⟩ : ∃ E : Nat, E = 0 + x.nodes := ⟨_, rfl⟩
 have hE2 : E = 1 + (Tm.pres x.l).length := by cases x; rw [hE, nodes_mk9]; simp only [Tm.l]; omega
 obtain ⟨w5, hw5⟩ : ∃ w5, w5 = ((((V.alloc (.cells #[.pointer (some ⟨CB, 0, none⟩)] 88)).alloc (.cells #[Value.nilIface] 47)).alloc (.cells #[.slice (some ⟨LB, 0, none⟩) x.pre.length lc] 66)).alloc (.cells #[.int .i64 ((1 : Nat) : Int)] 3)).alloc (.cells #[.int .i64 (E : Int)] 3) := ⟨_, rfl⟩
 obtain ⟨g0, g1, g2, g3, g4, b5, z5⟩ := five_at V _ _ _ _ _ w5 hw5
 have h5 := h.under b5
 have hw5b := hw5
 rw [hE, Nat.zero_add, show ((1 : Nat) : Int) = 1 from rfl] at hw5b
 have hst := between1_stops LB lc (V.heap.size + 3) (V.heap.size + 4) (V.heap.size + 2) x.pre 1 E x.l (3 - 1) (by decide) w5 ⟨g3, g4, g2, h5.lay⟩ hpar (by have := Tm.pre_ne x; unfold Tm.nodes at hle; omega) hE2
 have a2 : (((V.alloc (.cells #[.pointer (some ⟨CB, 0, none⟩)] 88)).alloc (.cells #[Value.nilIface] 47))).heap[V.heap.size]? = some (.cells #[.pointer (some ⟨CB, 0, none⟩)] 88 (0, 0)) := (Below.heap_alloc _ _ _ (by simp)).trans (block_alloc _ _)
 have bb : Below V.heap.size V ((V.alloc (.cells #[.pointer (some ⟨CB, 0, none⟩)] 88)).alloc (.cells #[Value.nilIface] 47)) := ((Below.refl _ _).alloc (Nat.le_refl _) _).alloc (by simp) _
 have h2 := h.under bb
 have c4 := cell_of_row (i := 0) a2 rfl
 have d4 := cell_of_row (i := 0) h2.box rfl
 have HPI := Lib.hid (fun (m : Nat) => parts_in x.pre LB lc 0 x m _ h2.lay hP)
 have HST := Lib.hid hst
 have HG := Lib.hid (And.intro g0 g1)
 have HB5 := Lib.hid b5
 have HZ5 := Lib.hid z5
 have HPAR := Lib.hid hpar
 have HOK := Lib.hid hok
 have h0 := Lib.hid h
 clear hst g0 g1 g2 g3 g4 b5 z5 h5 hpar hok hE hE2 hlen hle h a2 bb h2
 have HP := Lib.hid hP
 clear hP
 refine (callsIn_wide (n := 3)).1 ?_
 refine callsIn_of_wp_marks Tryz.func58 rfl trivial ?_ rfl
 simp only [Tryz.ntmps58, List.size_toArray, List.length_cons, List.length_nil, Nat.reduceAdd, Nat.reduceSub, Array.replicate_succ, Array.replicate_zero, List.push_toArray, List.append_toArray, List.nil_append, List.cons_append]
 gi_wp2_with (refine ⟨trivial, ?_⟩; gi_at_call 56; refine (HPI.out _).mono ?_; rintro e w' ⟨rfl, rfl⟩)
 rw [← hw5b]
 clear hw5 hw5b c4 d4 HPI
 simp only [Nat.add_assoc, Nat.reduceAdd, World.size_alloc]
 refine range_E (α := Nat) (gf := 91) (lb := #[.pointer (some ⟨V.heap.size + 3, 0, none⟩), .pointer (some ⟨V.heap.size + 4, 0, none⟩), .pointer (some ⟨V.heap.size + 2, 0, none⟩)]) rfl (enters_of Tryz.func91 (by kernel_rfl) rfl) (fun _ => rfl) HST.out
  KeepC.trans (fun W l o o' _ h ho => KeepC.put h ho) (fun A C h => keepC_below9 h)
  (FOnI 1 x.l w5) (fun c _ W => FOnX 1 (V.heap.size + 1) x.l w5 c W)
  (fun s A C h hs _ => h.soft hs) (fun c s A C h hs _ => h.soft hs (by have := HZ5.out; omega))
  ⟨by simp, fun i z hi => by simp at hi, Below.refl _ _⟩
  (fun q a' W => a' = { tmps := #[.pointer (some ⟨CB, 0, none⟩), .pointer (some ⟨V.heap.size, 0, none⟩), .pointer (some ⟨V.heap.size + 1, 0, none⟩), .int .i64 (q : Int), undef, .pointer (some ⟨CB, 0, none⟩), .pointer (some ⟨CB, 0, none⟩), .pointer (some ⟨CB, 0, none⟩), .slice (some ⟨LB, 0, none⟩) x.pre.length lc,
   .func (.func 91) #[] #[.pointer (some ⟨V.heap.size + 3, 0, none⟩), .pointer (some ⟨V.heap.size + 4, 0, none⟩), .pointer (some ⟨V.heap.size + 2, 0, none⟩)], .int .i64 (q : Int), undef, undef, undef, undef, undef, undef], defers := [] }) (fun _ _ _ _ h _ => h) ?assign ?body ?done ?stop (by decide)
 case assign =>
  rintro l' pre q W K hi hE hz hK
  have HK := Lib.hid hK
  simp only [encP]
  clear hK hi hE
  gi_wp2_with fail
  exact HK.out _ _ (Below.refl _ _) rfl
 case body =>
  rintro l' pre q a' W hi ⟨j, hpre, hq⟩ rfl hz ⟨rr, hrr⟩ ⟨dd, hdd⟩
  have hj : j < x.l.length := by have := (List.getElem?_eq_some_iff.1 hq).1; rw [placesL_len] at this; exact this
  have hpl : pre.length = j := by rw [hpre, List.length_take, placesL_len]; omega
  obtain ⟨m, hx⟩ : ∃ m, x.l[j]? = some m := ⟨x.l[j], List.getElem?_eq_getElem hj⟩
  have hq2 : q = 1 + (Tm.pres (x.l.take j)).length := by rw [placesL_get x.l 1 j hj] at hq; exact (Option.some.inj hq).symm
  have hqp : PlaceAt x.pre q m := by rw [hq2]; exact HPAR.out.at_ hx
  have hcw : Below V.heap.size V W := HB5.out.trans (hi.below.mono (by have := HZ5.out; omega))
  have hchk : Chk CB LB lc fm fv x fl W := h0.out.under hcw
  have hz5 := HZ5.out
  have k0 := (hi.below.block _ (heap_lt HG.out.1)).trans HG.out.1
  have k1 := (hi.below.block _ (heap_lt HG.out.2)).trans HG.out.2
  have c0 := cell_of_row (i := 0) k0 rfl
  have hcall := once_any CB LB lc fm fv x fl W q m hchk hqp (HOK.out m (List.mem_of_getElem? hx))
  have HCALL := Lib.hid hcall
  have HR1 := Lib.hid k1
  have HI := Lib.hid hi
  have HPL := Lib.hid hpl
  have HX := Lib.hid hx
  have HQ := Lib.hid hq
  have HQ2 := Lib.hid hq2
  have HPRE := Lib.hid hpre
  have HRR := Lib.hid hrr
  have HDD := Lib.hid hdd
  clear hi hq hpre hj hpl hx hq2 hqp hcw hchk k0 k1 hrr hdd hcall hz5
  gi_wp2_with fail
  refine ⟨trivial, ?_⟩
  refine (callsIn_wide.2 HCALL.out).mono ?_
  rintro e W2 ⟨v, rfl, hv, hb⟩
  have HB2 := Lib.hid hb
  have hr2 := (hb.block _ (heap_lt HR1.out)).trans HR1.out
  have f2 := free_of_row (i := 0) hr2
  have n2 := cell_of_row (i := 0) hr2 rfl
  have HR2 := Lib.hid hr2
  clear hb hr2
  cases ho : onceW [] (q + 1) m.l with
  | none =>
   rw [ho] at hv
   have HO := Lib.hid ho
   obtain rfl : v = Value.nilIface := hv
   clear ho
   gi_wp2_with fail
   have hl1 : (pre ++ [q]).length = j + 1 := by rw [List.length_append, HPL.out]; rfl
   have hmz : Mod (fun _ => False) W W2 := Mod.of_below HB2.out
   refine ⟨own2_mod hmz (by have := heap_lt HRR.out; omega) ⟨fun h => h, fun h => h⟩, keepC_below9 HB2.out, ⟨?_, ?_, HI.out.below.trans (HB2.out.mono HI.out.below.size)⟩⟩
   ·rw [hl1, List.take_add_one, HQ.out, ← HPRE.out]; rfl
   ·intro i zz hi hzz
    rw [hl1] at hi
    by_cases hij : i < j
    ·exact HI.out.once i zz (by rw [HPL.out]; exact hij) hzz
    ·obtain rfl : i = j := by omega
     rw [HX.out] at hzz; cases hzz
     rw [← HQ2.out]; exact HO.out
  | some q9 =>
   rw [ho] at hv
   have HO := Lib.hid ho
   obtain ⟨r, rfl, h9⟩ := hv
   have H9 := Lib.hid h9
   clear ho h9
   gi_wp2_with fail
   have hz5 := HZ5.out
   have hgt := heap_lt HRR.out
   have m6 : Mod (fun k => k = V.heap.size + 1) W2 (W2.setCell ⟨V.heap.size + 1, 0, none⟩ (.iface 44 (.pointer (some ⟨r, 0, none⟩)))) := Mod.setCell _ _ _ (.inl rfl)
   have m7 : Mod (fun k => k = V.heap.size + 1) W (W2.setCell ⟨V.heap.size + 1, 0, none⟩ (.iface 44 (.pointer (some ⟨r, 0, none⟩)))) := (Mod.of_below HB2.out).trans m6 (fun _ _ h => h)
   have hrn : r ≠ V.heap.size + 1 := fun e => by
    have h9 := H9.out
    rw [e, HR2.out] at h9
    injection h9 with h9
    injection h9 with _ e2 _
    exact absurd e2 (by decide)
   refine ⟨own2_mod m7 (by omega) ⟨by omega, by omega⟩, ⟨rfl, ⟨q9, r, ?_, set_row (i := 0) _ HR2.out, (m6.block _ (heap_lt H9.out) hrn).trans H9.out⟩, (Mod.of_below (F := fun j => j = V.heap.size + 1) HI.out.below).trans m7 (fun _ _ e => e)⟩⟩
   refine onceM_at x.l 1 j q9 m HX.out (fun i zz hi hzz => HI.out.once i zz (by rw [HPL.out]; exact hi) hzz) ?_
   rw [← HQ2.out]; exact HO.out
 case done =>
  rintro xs W rfl hi hd
  have r1 := (hi.below.block _ (heap_lt HG.out.2)).trans HG.out.2
  have n1 := cell_of_row (i := 0) r1 rfl
  have f1 := free_of_row (i := 0) r1
  have HI := Lib.hid hi
  have HD := Lib.hid hd
  have HR1 := Lib.hid r1
  clear hi hd r1
  gi_wp2
  have m2 : Mod (fun k => k = V.heap.size + 1) W (W.setCell ⟨V.heap.size + 1, 0, none⟩ Value.nilIface) := Mod.setCell _ _ _ (.inl rfl)
  have hz := HZ5.out
  have hd2 := (m2.block _ (heap_lt HD.out) (by omega)).trans HD.out
  have m3 : Mod (fun k => k = w5.heap.size) (W.setCell ⟨V.heap.size + 1, 0, none⟩ Value.nilIface) ((W.setCell ⟨V.heap.size + 1, 0, none⟩ Value.nilIface).putObj w5.heap.size (.deferred none)) := Mod.putObj _ _ _ rfl
  have hc := cell_of_row (i := 0) ((m3.block _ (heap_lt (set_row (i := 0) Value.nilIface HR1.out)) (by omega)).trans (set_row (i := 0) Value.nilIface HR1.out)) rfl
  refine ⟨by simp, .inl ⟨_, _, rfl, run_takeDeferred hd2, ?_⟩⟩
  refine ⟨Value.nilIface, by simp [results, Tryz.f58, go_sem, hc], Value.nilIface, rfl, ?_, ?_⟩
  ·rw [onceM_none x.l 1 (fun i zz hzz => HI.out.once i zz (by rw [placesL_len]; exact (List.getElem?_eq_some_iff.1 hzz).1) hzz)]
   rfl
  ·have hwz := HI.out.below.size
   exact (HB5.out.trans (HI.out.below.mono (by omega))).trans ((m2.below (by omega) (fun i e => by omega)).trans (m3.below (by have := m2.size; omega) (fun i e => by omega)))
 case stop =>
  rintro c pre W _ ⟨rfl, ⟨q, r, h1, h2, h3⟩, hm⟩ hd
  have HD := Lib.hid hd
  have H1 := Lib.hid (And.intro h1 (And.intro h2 (And.intro h3 hm)))
  clear h1 h2 h3 hm hd
  gi_wp2
  obtain ⟨h1, h2, h3, hm⟩ := H1.out
  have hz := HZ5.out
  have m3 : Mod (fun k => k = w5.heap.size) W (W.putObj w5.heap.size (.deferred none)) := Mod.putObj _ _ _ rfl
  have hc := cell_of_row (i := 0) ((m3.block _ (heap_lt h2) (by omega)).trans h2) rfl
  have hr : r ≠ w5.heap.size := fun e => by rw [e, HD.out] at h3; cases h3
  refine ⟨by simp, .inl ⟨_, _, rfl, run_takeDeferred HD.out, ?_⟩⟩
  refine ⟨.iface 44 (.pointer (some ⟨r, 0, none⟩)), by simp [results, Tryz.f58, go_sem, hc], _, rfl, ?_, ?_⟩
  ·rw [h1]
   exact ⟨r, rfl, (m3.block _ (heap_lt h3) hr).trans h3⟩
  ·exact (HB5.out.trans (hm.below (by omega) (fun i e => by omega))).trans (m3.below (by have := hm.size; omega) (fun i e => by omega))
end Go.Proofs.YtmdcdhdjojimeaaGreatDoor
end
