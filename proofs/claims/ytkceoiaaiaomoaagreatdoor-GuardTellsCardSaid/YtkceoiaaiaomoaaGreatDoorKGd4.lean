/- Layer 11: tuples, conses, sums of values (guard.putters). -/
import Derived.Test.YtkceoiaaiaomoaaGreatDoorKInts
import Derived.Test.YtkceoiaaiaomoaaGreatDoorKIntsDo
set_option linter.unusedVariables false
set_option linter.unusedSimpArgs false
namespace Go.Proofs.YtkceoiaaiaomoaaGreatDoor
open Go.RowKit

def tupR (vs : List Tm) : Option Tm := if fitN 1 vs = 0 then some (tupT vs) else none
def consR (vs : List Tm) : Option Tm := match vs with | [a, b] => if fitN 1 [a, b] = 0 then some (consT a b) else none | _ => none
def opR (s : ByteArray) (vs : List Tm) : Option Tm := match vs with | [a, b] => if a.k = 0 ∧ b.k = 0 ∧ (doR s a.n b.n).2 = 0 then some (intT (doR s a.n b.n).1) else none | _ => none

set_option maxHeartbeats 2000000 in
set_option maxRecDepth 100000 in
theorem putTup_any (vs : List Tm) (k n : Int) (s t : ByteArray) (A : Option Addr) (m c : Nat) (PA : Option Addr) (pn pc : Nat) (Q : Nat → Prop) (w : World) (hQ : ∀ b, Q b → b < w.heap.size) (hR : TRow Q w PA pn pc vs) (hS : Spans w) (hl : vs.length ≤ 1000000) :
    Calls Tryz.prog 217 #[.agg #[.int .i8 k, .int .i64 n, .string s, .string t, .slice A m c], .slice PA pn pc] w (PutP (tupR vs) Q w) := by
  have g0 := there_of (.cells #[.int .i8 0, .int .i64 0, .string ⟨#[]⟩, .string ⟨#[]⟩, .slice none 0 0] 44) (block_alloc w (.cells #[.int .i8 k, .int .i64 n, .string s, .string t, .slice A m c] 25))
  have g1 := block_alloc (w.alloc (.cells #[.int .i8 k, .int .i64 n, .string s, .string t, .slice A m c] 25)) (.cells #[.int .i8 0, .int .i64 0, .string ⟨#[]⟩, .string ⟨#[]⟩, .slice none 0 0] 44)
  rw [World.size_alloc] at g1
  have b2 : Below w.heap.size w ((w.alloc (.cells #[.int .i8 k, .int .i64 n, .string s, .string t, .slice A m c] 25)).alloc (.cells #[.int .i8 0, .int .i64 0, .string ⟨#[]⟩, .string ⟨#[]⟩, .slice none 0 0] 44)) := ((Below.refl _ w).alloc (Nat.le_refl _) _).alloc (by simp) _
  have z2 : ((w.alloc (.cells #[.int .i8 k, .int .i64 n, .string s, .string t, .slice A m c] 25)).alloc (.cells #[.int .i8 0, .int .i64 0, .string ⟨#[]⟩, .string ⟨#[]⟩, .slice none 0 0] 44)).heap.size = w.heap.size + 2 := by rw [World.size_alloc, World.size_alloc]
  obtain ⟨W2, hW2⟩ : ∃ W2, W2 = (w.alloc (.cells #[.int .i8 k, .int .i64 n, .string s, .string t, .slice A m c] 25)).alloc (.cells #[.int .i8 0, .int .i64 0, .string ⟨#[]⟩, .string ⟨#[]⟩, .slice none 0 0] 44) := ⟨_, rfl⟩
  rw [← hW2] at g0 g1 b2 z2
  have HB2 := Lib.hid b2
  have HG0 := Lib.hid g0
  have HG1 := Lib.hid g1
  have HZ2 := Lib.hid z2
  have HC := Lib.hid (Tuple_any Q vs PA pn pc W2 (fun b hb => by have := hQ b hb; omega) (hR.keep (fun b hb => b2.block b (hQ b hb)) (fun _ h => h)) (hS.below b2 hS.lt) hl)
  have HQ := Lib.hid hQ
  clear g0 g1 b2 z2 hR hS hl hQ
  go_enter Tryz.func217, Tryz.ntmps217
  go_upto_region 1 with fail
  rw [← hW2]
  clear hW2
  go_wp2_with fail
  refine HC.out.mono ?_
  rintro e V1 ⟨v, rfl, ⟨k', n', s', t', A', L', c', rfl⟩, hT, b3⟩
  obtain ⟨ec, hec⟩ : ∃ ec, ec = fitN 1 vs := ⟨_, rfl⟩
  rw [← hec] at hT ⊢
  obtain ⟨m', hm'⟩ : ∃ m', m' = List.length (α := Tm) L' := ⟨_, rfl⟩
  rw [← hm'] at hT ⊢
  have HB3 := Lib.hid (HB2.out.trans (b3.mono HB2.out.size))
  have hg1 := (b3.block _ (heap_lt HG1.out)).trans HG1.out
  have HT := Lib.hid hT
  have HEC := Lib.hid hec
  have HZ3 := Lib.hid b3.size
  clear hT hec b3 hm' HC
  obtain ⟨⟨r0, r1, r2, r3, r4⟩, rf0, rf1, rf2, rf3, rf4⟩ := five_fr hg1
  have S5 := Lib.hid (set_five (.int .i8 k') (.int .i64 n') (.string s') (.string t') (.slice A' m' c') hg1)
  go_wp2_with fail
  obtain ⟨s5, m5⟩ := S5.out
  generalize ((((((V1).setCell ⟨w.heap.size + 1, 0, none⟩ (.int .i8 k')).setCell ⟨w.heap.size + 1, 1, none⟩ (.int .i64 n')).setCell ⟨w.heap.size + 1, 2, none⟩ (.string s')).setCell ⟨w.heap.size + 1, 3, none⟩ (.string t')).setCell ⟨w.heap.size + 1, 4, none⟩ (.slice A' m' c')) = VX at s5 m5 ⊢
  obtain ⟨z0, z1, z2, z3, z4⟩ := five_of s5
  refine bodyPost_ret (v := .tuple #[.agg #[.int .i8 k', .int .i64 n', .string s', .string t', .slice A' m' c'], .int .i64 ec]) (by simp [results, Tryz.f217, go_sem, z0, z1, z2, z3, z4]) rfl ?_
  refine ⟨_, _, _, _, _, _, _, _, rfl, (fun y hy => ?_), (fun h => ?_), HB3.out.trans (m5.below HB3.out.size (fun k (e : k = _) => by omega))⟩
  · unfold tupR at hy
    rw [← HEC.out] at hy
    by_cases h0 : ec = 0
    · rw [if_pos h0] at hy
      cases hy
      refine ⟨h0, (HT.out h0).keep (fun b hb => m5.block b ?_ ?_) (fun b hb => ?_)⟩
      · have := HZ2.out; have := HZ3.out; rcases hb with hb | hb; (have := HQ.out b hb; omega); omega
      · have := HZ2.out; have := HZ3.out; rcases hb with hb | hb; (have := HQ.out b hb; omega); omega
      · have := HZ2.out; have := HZ3.out; have := m5.size; rcases hb with hb | hb; (exact .inl hb); (exact .inr ⟨by omega, by omega⟩)
    · rw [if_neg h0] at hy; cases hy
  · unfold tupR at h
    rw [← HEC.out] at h
    intro h0
    rw [if_pos h0] at h; cases h
theorem fit_range (x : Int) : -9223372036854775808 ≤ (fit x).1 ∧ (fit x).1 ≤ 9223372036854775807 := by
  unfold fit
  split
  · rename_i h
    first | (have := mayB_range h; omega) | (unfold mayB at h; simp at h; omega)
  · constructor <;> decide
theorem doR_range (s : ByteArray) (a b : Int) : -9223372036854775808 ≤ (doR s a b).1 ∧ (doR s a b).1 ≤ 9223372036854775807 := by
  unfold doR
  repeat' split
  all_goals first | exact fit_range _ | (constructor <;> decide)
theorem row_two {Q : Nat → Prop} {w : World} {PA : Option Addr} {pn pc : Nat} {a b : Tm} (h : TRow Q w PA pn pc [a, b]) : ∃ ad k1 n1 s1 t1 A1 m1 c1 k2 n2 s2 t2 A2 m2 c2, PA = some ad ∧ pn = 2 ∧ ElemAt w ad 0 (.agg #[.int .i8 k1, .int .i64 n1, .string s1, .string t1, .slice A1 m1 c1]) ∧ ElemAt w ad 1 (.agg #[.int .i8 k2, .int .i64 n2, .string s2, .string t2, .slice A2 m2 c2]) ∧ TmAt Q w a (.agg #[.int .i8 k1, .int .i64 n1, .string s1, .string t1, .slice A1 m1 c1]) ∧ TmAt Q w b (.agg #[.int .i8 k2, .int .i64 n2, .string s2, .string t2, .slice A2 m2 c2]) ∧ Q ad.block ∧ 2 ≤ pc ∧ k1 = a.k ∧ n1 = a.n ∧ k2 = b.k ∧ n2 = b.n := by
  obtain ⟨ad, u, e1, hq, h1, h2⟩ := h.at_ 0 a rfl
  obtain ⟨ad', u', e2, _, h3, h4⟩ := h.at_ 1 b rfl
  rw [e1] at e2; cases e2
  obtain ⟨ak, an, a9, at', al, rfl⟩ : ∃ k n s t l, a = Tm.mk k n s t l := by cases a; exact ⟨_, _, _, _, _, rfl⟩
  obtain ⟨bk, bn, bs, bt, bl, rfl⟩ : ∃ k n s t l, b = Tm.mk k n s t l := by cases b; exact ⟨_, _, _, _, _, rfl⟩
  obtain ⟨_, _, rfl, _⟩ := h2.parts
  obtain ⟨_, _, rfl, _⟩ := h4.parts
  exact ⟨ad, _, _, _, _, _, _, _, _, _, _, _, _, _, _, e1, h.len.symm, h1, h3, h2, h4, hq, by have := h.cap; have := h.len; simp at this; omega, rfl, rfl, rfl, rfl⟩
theorem two_cells {w W2 : World} {ad : Addr} {k1 n1 k2 n2 : Int} {s1 t1 s2 t2 : ByteArray} {A1 A2 : Option Addr} {m1 c1 m2 c2 : Nat} (hE1 : ElemAt w ad 0 (.agg #[.int .i8 k1, .int .i64 n1, .string s1, .string t1, .slice A1 m1 c1])) (hE2 : ElemAt w ad 1 (.agg #[.int .i8 k2, .int .i64 n2, .string s2, .string t2, .slice A2 m2 c2])) (b2 : Below w.heap.size w W2) (had : ad.block < w.heap.size) :
    ∀ V, Below w.heap.size W2 V → V.cell? ad = some (.int .i8 k1) ∧ V.cell? ⟨(ad).block, (ad).off + 1, none⟩ = some (.int .i64 n1) ∧ V.cell? ⟨(ad).block, (ad).off + 2, none⟩ = some (.string s1) ∧ V.cell? ⟨(ad).block, (ad).off + 3, none⟩ = some (.string t1) ∧ V.cell? ⟨(ad).block, (ad).off + 4, none⟩ = some (.slice A1 m1 c1) ∧ V.cell? ⟨ad.block, ad.off + 5, none⟩ = some (.int .i8 k2) ∧ V.cell? ⟨ad.block, ad.off + 5 + 1, none⟩ = some (.int .i64 n2) ∧ V.cell? ⟨ad.block, ad.off + 5 + 2, none⟩ = some (.string s2) ∧ V.cell? ⟨ad.block, ad.off + 5 + 3, none⟩ = some (.string t2) ∧ V.cell? ⟨ad.block, ad.off + 5 + 4, none⟩ = some (.slice A2 m2 c2) := by
  intro V hb
  obtain ⟨p0, p1, p2, p3, p4, hp, d0, d1, d2, d3, d4⟩ := hE1.keep ((hb.block _ had).trans (b2.block _ had))
  obtain ⟨q0, q1, q2, q3, q4, hq, e0, e1, e2, e3, e4⟩ := hE2.keep ((hb.block _ had).trans (b2.block _ had))
  simp only [Value.agg.injEq, Array.mk.injEq, List.cons.injEq, and_true] at hp hq
  obtain ⟨rfl, rfl, rfl, rfl, rfl⟩ := hp
  obtain ⟨rfl, rfl, rfl, rfl, rfl⟩ := hq
  rw [show ad.add (0 * 5) = ad from rfl] at d0 d1 d2 d3 d4
  rw [show ad.add (1 * 5) = ⟨ad.block, ad.off + 5, none⟩ by simp [Addr.add]] at e0 e1 e2 e3 e4
  exact ⟨d0, d1, d2, d3, d4, e0, e1, e2, e3, e4⟩
set_option maxHeartbeats 2000000 in
set_option maxRecDepth 100000 in
theorem putCons_any (a b : Tm) (k n : Int) (s t : ByteArray) (A : Option Addr) (m c : Nat) (PA : Option Addr) (pn pc : Nat) (Q : Nat → Prop) (w : World) (hQ : ∀ b, Q b → b < w.heap.size) (hR : TRow Q w PA pn pc [a, b]) (hS : Spans w) :
    Calls Tryz.prog 216 #[.agg #[.int .i8 k, .int .i64 n, .string s, .string t, .slice A m c], .slice PA pn pc] w (PutP (consR [a, b]) Q w) := by
  obtain ⟨ad, k1, n1, s1, t1, A1, m1, c1, k2, n2, s2, t2, A2, m2, c2, rfl, rfl, hE1, hE2, hT1, hT2, had, hpc, -, -, -, -⟩ := row_two hR
  have g0 := there_of (.cells #[.int .i8 0, .int .i64 0, .string ⟨#[]⟩, .string ⟨#[]⟩, .slice none 0 0] 44) (block_alloc w (.cells #[.int .i8 k, .int .i64 n, .string s, .string t, .slice A m c] 25))
  have g1 := block_alloc (w.alloc (.cells #[.int .i8 k, .int .i64 n, .string s, .string t, .slice A m c] 25)) (.cells #[.int .i8 0, .int .i64 0, .string ⟨#[]⟩, .string ⟨#[]⟩, .slice none 0 0] 44)
  rw [World.size_alloc] at g1
  have b2 : Below w.heap.size w ((w.alloc (.cells #[.int .i8 k, .int .i64 n, .string s, .string t, .slice A m c] 25)).alloc (.cells #[.int .i8 0, .int .i64 0, .string ⟨#[]⟩, .string ⟨#[]⟩, .slice none 0 0] 44)) := ((Below.refl _ w).alloc (Nat.le_refl _) _).alloc (by simp) _
  have z2 : ((w.alloc (.cells #[.int .i8 k, .int .i64 n, .string s, .string t, .slice A m c] 25)).alloc (.cells #[.int .i8 0, .int .i64 0, .string ⟨#[]⟩, .string ⟨#[]⟩, .slice none 0 0] 44)).heap.size = w.heap.size + 2 := by rw [World.size_alloc, World.size_alloc]
  obtain ⟨W2, hW2⟩ : ∃ W2, W2 = (w.alloc (.cells #[.int .i8 k, .int .i64 n, .string s, .string t, .slice A m c] 25)).alloc (.cells #[.int .i8 0, .int .i64 0, .string ⟨#[]⟩, .string ⟨#[]⟩, .slice none 0 0] 44) := ⟨_, rfl⟩
  rw [← hW2] at g0 g1 b2 z2
  have HB2 := Lib.hid b2
  have HG0 := Lib.hid g0
  have HG1 := Lib.hid g1
  have HZ2 := Lib.hid z2
  have HC : Hid (∀ V, Below w.heap.size W2 V → _) := fun V (hb : Below w.heap.size W2 V) => Cons_any Q a b k1 n1 k2 n2 s1 t1 s2 t2 A1 A2 m1 c1 m2 c2 V (fun q hq => by have := hQ q hq; have := hb.size; omega) (hT1.keep (fun q hq => (hb.block q (hQ q hq)).trans (b2.block q (hQ q hq))) (fun _ h => h)) (hT2.keep (fun q hq => (hb.block q (hQ q hq)).trans (b2.block q (hQ q hq))) (fun _ h => h)) (hS.below (b2.trans hb) hS.lt)
  have HQ := Lib.hid hQ
  have HEL := Lib.hid (two_cells hE1 hE2 b2 (hQ _ had))
  clear g0 g1 b2 z2 hR hS hQ hE1 hE2 hT1 hT2 had
  go_enter Tryz.func216, Tryz.ntmps216
  go_upto_region 1 with fail
  rw [← hW2]
  clear hW2
  refine wp_region_held (S := fun V => Below w.heap.size W2 V) (by kernel_rfl) ?_
  show wpAnyH _ _ _ _ _ _ _ _ W2.drew
  have hS : Below w.heap.size W2 W2.drew := ⟨rfl, rfl, rfl, Nat.le_refl _, fun _ _ => rfl⟩
  have hg0 : W2.drew.heap[w.heap.size + 1]? = _ := HG1.out
  generalize W2.drew = V0 at hS hg0 ⊢
  refine wpAnyH_take (i := 0) (oi := ⟨some 6, _, _, _, _, _⟩) (v := ?_) rfl (by kernel_rfl) (by kernel_rfl) (by kernel_rfl) (fun _ _ _ h => h) (Or.inl ⟨by kernel_rfl, ?_⟩) (by assumption) ?_; rotate_left; (intro VV hSw; (try dsimp only at hSw); go_simp; first | done | with_reducible rfl); (try simp only [Act.put, sI, sZ, sS])
  refine wpAnyH_take (i := 1) (oi := ⟨some 7, _, _, _, _, _⟩) (v := ?_) rfl (by kernel_rfl) (by kernel_rfl) (by kernel_rfl) (fun _ _ _ h => h) (Or.inl ⟨by kernel_rfl, ?_⟩) (by assumption) ?_; rotate_left; (intro VV hSw; (try dsimp only at hSw); have h02 : (0 : Int) < 2 := (by decide); go_simp; first | done | with_reducible rfl); (try simp only [Act.put, sI, sZ, sS])
  refine wpAnyH_take (i := 2) (oi := ⟨some 8, _, _, _, _, _⟩) (v := ?_) rfl (by kernel_rfl) (by kernel_rfl) (by kernel_rfl) (fun _ _ _ h => h) (Or.inl ⟨by kernel_rfl, ?_⟩) (by assumption) ?_; rotate_left; (intro VV hSw; (try dsimp only at hSw); obtain ⟨d0, d1, d2, d3, d4, e0, e1, e2, e3, e4⟩ := HEL.out VV hSw; go_simp; first | done | with_reducible rfl); (try simp only [Act.put, sI, sZ, sS])
  refine wpAnyH_take (i := 3) (oi := ⟨some 9, _, _, _, _, _⟩) (v := ?_) rfl (by kernel_rfl) (by kernel_rfl) (by kernel_rfl) (fun _ _ _ h => h) (Or.inl ⟨by kernel_rfl, ?_⟩) (by assumption) ?_; rotate_left; (intro VV hSw; (try dsimp only at hSw); go_simp; first | done | with_reducible rfl); (try simp only [Act.put, sI, sZ, sS])
  refine wpAnyH_take (i := 4) (oi := ⟨some 10, _, _, _, _, _⟩) (v := ?_) rfl (by kernel_rfl) (by kernel_rfl) (by kernel_rfl) (fun _ _ _ h => h) (Or.inl ⟨by kernel_rfl, ?_⟩) (by assumption) ?_; rotate_left; (intro VV hSw; (try dsimp only at hSw); go_simp; first | done | with_reducible rfl); (try simp only [Act.put, sI, sZ, sS])
  refine wpAnyH_take (i := 5) (oi := ⟨some 11, _, _, _, _, _⟩) (v := ?_) rfl (by kernel_rfl) (by kernel_rfl) (by kernel_rfl) (fun _ _ _ h => h) (Or.inl ⟨by kernel_rfl, ?_⟩) (by assumption) ?_; rotate_left; (intro VV hSw; (try dsimp only at hSw); obtain ⟨d0, d1, d2, d3, d4, e0, e1, e2, e3, e4⟩ := HEL.out VV hSw; go_simp; first | done | with_reducible rfl); (try simp only [Act.put, sI, sZ, sS])
  refine wpAnyH_ready (rs := [6]) (by kernel_rfl) (by simp) ?_
  refine AllReadyH.cons (o := ⟨some 12, _, _, _, _, _⟩) rfl (fun K hK => ?_) AllReadyH.nil
  · rw [if_pos (by rfl)]
    go_simp
    refine (HC.out V0 hS).mono ?_
    rintro e V1 ⟨v, rfl, ⟨k', n', s', t', A', m', c', rfl⟩, hT, b3⟩
    have hS1 := hS.trans (b3.mono (by have := HB2.out.size; have := hS.size; omega))
    have hg1 := (b3.block _ (heap_lt hg0)).trans hg0
    obtain ⟨ec, hec⟩ : ∃ ec, ec = fitN 1 [a, b] := ⟨_, rfl⟩
    rw [← hec] at hT ⊢
    refine hK.out _ _ hS1 (fun hSn => ?_)
    clear hK K hSn; (try simp only [Act.put, sI, sZ, sS])
    refine wpAnyH_take (i := 7) (oi := ⟨some 13, _, _, _, _, _⟩) (v := ?_) rfl (by kernel_rfl) (by kernel_rfl) (by kernel_rfl) (fun _ _ _ h => h) (Or.inl ⟨by kernel_rfl, ?_⟩) (by assumption) ?_; rotate_left; (intro VV hSw; (try dsimp only at hSw); go_simp; first | done | with_reducible rfl); (try simp only [Act.put, sI, sZ, sS])
    refine wpAnyH_take (i := 8) (oi := ⟨some 14, _, _, _, _, _⟩) (v := ?_) rfl (by kernel_rfl) (by kernel_rfl) (by kernel_rfl) (fun _ _ _ h => h) (Or.inl ⟨by kernel_rfl, ?_⟩) (by assumption) ?_; rotate_left; (intro VV hSw; (try dsimp only at hSw); go_simp; first | done | with_reducible rfl); (try simp only [Act.put, sI, sZ, sS])
    obtain ⟨⟨r0, r1, r2, r3, r4⟩, rf0, rf1, rf2, rf3, rf4⟩ := five_fr hg1
    obtain ⟨s5, m5⟩ := set_five (.int .i8 k') (.int .i64 n') (.string s') (.string t') (.slice A' m' c') hg1
    have hS2 : True := trivial
    refine wpAnyH_ready (rs := [9]) (by kernel_rfl) (by simp) ?_
    refine AllReadyH.cons (o := ⟨none, _, _, _, _, _⟩) rfl (fun K hK => ?_) AllReadyH.nil
    · rw [if_pos (by rfl)]
      go_simp
      generalize ((((((V1).setCell ⟨w.heap.size + 1, 0, none⟩ (.int .i8 k')).setCell ⟨w.heap.size + 1, 1, none⟩ (.int .i64 n')).setCell ⟨w.heap.size + 1, 2, none⟩ (.string s')).setCell ⟨w.heap.size + 1, 3, none⟩ (.string t')).setCell ⟨w.heap.size + 1, 4, none⟩ (.slice A' m' c')) = VX at s5 m5 ⊢
      have hS9 : Below w.heap.size W2 VX := hS1.trans (m5.below (by have := HB2.out.size; have := hS1.size; omega) (fun q (e : q = _) => by omega))
      refine hK.out _ _ hS9 (fun hSn => ?_)
      clear hK K hSn; (try simp only [Act.put, sI, sZ, sS])
      refine wpAnyH_take (i := 10) (oi := ⟨some 5, _, _, _, _, _⟩) (v := ?_) rfl (by kernel_rfl) (by kernel_rfl) (by kernel_rfl) (fun _ _ _ h => h) (Or.inl ⟨by kernel_rfl, ?_⟩) (by assumption) ?_; rotate_left; (intro VV hSw; (try dsimp only at hSw); go_simp; first | done | with_reducible rfl); (try simp only [Act.put, sI, sZ, sS])
      refine wpAnyH_done (by kernel_rfl) ?_ _
      clear r0 rf0 r1 rf1 r2 rf2 r3 rf3 r4 rf4
      obtain ⟨z0, z1, z2, z3, z4⟩ := five_of s5
      go_wp2_with fail
      refine bodyPost_ret (v := .tuple #[.agg #[.int .i8 k', .int .i64 n', .string s', .string t', .slice A' m' c'], .int .i64 ec]) (by simp [results, Tryz.f216, go_sem, z0, z1, z2, z3, z4, hec.symm]) rfl ?_
      have hz := HZ2.out
      have hz0 := hS.size
      have hz1 := b3.size
      have hz5 := m5.size
      refine ⟨_, _, _, _, _, _, _, _, rfl, (fun y hy => ?_), (fun h => ?_), HB2.out.trans hS9⟩
      · unfold consR at hy
        dsimp only at hy
        rw [← hec] at hy
        by_cases h0 : ec = 0
        · rw [if_pos h0] at hy
          cases hy
          refine ⟨h0, (hT h0).keep (fun q hb => m5.block q ?_ ?_) (fun q hb => ?_)⟩
          · rcases hb with hb | hb; (have := HQ.out q hb; omega); omega
          · rcases hb with hb | hb; (have := HQ.out q hb; omega); omega
          · rcases hb with hb | hb; (exact .inl hb); (exact .inr ⟨by omega, by omega⟩)
        · rw [if_neg h0] at hy; cases hy
      · unfold consR at h
        dsimp only at h
        rw [← hec] at h
        intro h0
        rw [if_pos h0] at h; cases h
set_option maxHeartbeats 4000000 in
set_option maxRecDepth 100000 in
theorem putOp_any (a b : Tm) (k n : Int) (s t : ByteArray) (A : Option Addr) (m c : Nat) (PA : Option Addr) (pn pc : Nat) (Q : Nat → Prop) (w : World) (hQ : ∀ b, Q b → b < w.heap.size) (hR : TRow Q w PA pn pc [a, b]) :
    Calls Tryz.prog 218 #[.agg #[.int .i8 k, .int .i64 n, .string s, .string t, .slice A m c], .slice PA pn pc] w (PutP (opR s [a, b]) Q w) := by
  obtain ⟨ad, k1, n1, s1, t1, A1, m1, c1, k2, n2, s2, t2, A2, m2, c2, rfl, rfl, hE1, hE2, hT1, hT2, had, hpc, q1, q2, q3, q4⟩ := row_two hR
  have HK := Lib.hid (And.intro q1 (And.intro q2 (And.intro q3 q4)))
  clear q1 q2 q3 q4
  have g0 := there_of (.cells #[.int .i8 0, .int .i64 0, .string ⟨#[]⟩, .string ⟨#[]⟩, .slice none 0 0] 44) (block_alloc w (.cells #[.int .i8 k, .int .i64 n, .string s, .string t, .slice A m c] 25))
  have g1 := block_alloc (w.alloc (.cells #[.int .i8 k, .int .i64 n, .string s, .string t, .slice A m c] 25)) (.cells #[.int .i8 0, .int .i64 0, .string ⟨#[]⟩, .string ⟨#[]⟩, .slice none 0 0] 44)
  rw [World.size_alloc] at g1
  have b2 : Below w.heap.size w ((w.alloc (.cells #[.int .i8 k, .int .i64 n, .string s, .string t, .slice A m c] 25)).alloc (.cells #[.int .i8 0, .int .i64 0, .string ⟨#[]⟩, .string ⟨#[]⟩, .slice none 0 0] 44)) := ((Below.refl _ w).alloc (Nat.le_refl _) _).alloc (by simp) _
  have z2 : ((w.alloc (.cells #[.int .i8 k, .int .i64 n, .string s, .string t, .slice A m c] 25)).alloc (.cells #[.int .i8 0, .int .i64 0, .string ⟨#[]⟩, .string ⟨#[]⟩, .slice none 0 0] 44)).heap.size = w.heap.size + 2 := by rw [World.size_alloc, World.size_alloc]
  obtain ⟨W2, hW2⟩ : ∃ W2, W2 = (w.alloc (.cells #[.int .i8 k, .int .i64 n, .string s, .string t, .slice A m c] 25)).alloc (.cells #[.int .i8 0, .int .i64 0, .string ⟨#[]⟩, .string ⟨#[]⟩, .slice none 0 0] 44) := ⟨_, rfl⟩
  rw [← hW2] at g0 g1 b2 z2
  have HB2 := Lib.hid b2
  have HG0 := Lib.hid g0
  have HG1 := Lib.hid g1
  have HZ2 := Lib.hid z2
  have HQ := Lib.hid hQ
  obtain ⟨d0, d1, d2, d3, d4, e0, e1, e2, e3, e4⟩ := two_cells hE1 hE2 b2 (hQ _ had) W2 (Below.refl _ _ |>.mono (by have := b2.size; omega))
  clear g0 g1 b2 z2 hR hQ hE1 hE2 hT1 hT2 had
  go_enter Tryz.func218, Tryz.ntmps218
  go_upto_region 1 with fail
  rw [← hW2]
  clear hW2
  go_wp2_with fail
  have HEL : Hid (∀ V, Below W2.heap.size W2 V → _) := fun V (hb : Below W2.heap.size W2 V) => And.intro (hb.cell (World.block_lt_of_cell? _ _ d0) |>.trans d0) (And.intro (hb.cell (World.block_lt_of_cell? _ _ d1) |>.trans d1) (And.intro (hb.cell (World.block_lt_of_cell? _ _ d2) |>.trans d2) (And.intro (hb.cell (World.block_lt_of_cell? _ _ d3) |>.trans d3) (And.intro (hb.cell (World.block_lt_of_cell? _ _ d4) |>.trans d4) (And.intro (hb.cell (World.block_lt_of_cell? _ _ e0) |>.trans e0) (And.intro (hb.cell (World.block_lt_of_cell? _ _ e1) |>.trans e1) (And.intro (hb.cell (World.block_lt_of_cell? _ _ e2) |>.trans e2) (And.intro (hb.cell (World.block_lt_of_cell? _ _ e3) |>.trans e3) (hb.cell (World.block_lt_of_cell? _ _ e4) |>.trans e4)))))))))
  clear d0 d1 d2 d3 d4 e0 e1 e2 e3 e4
  go_cut [6, 7] (fun p q wx => ∃ g6 g7, p = .pointer (some ⟨g6, 0, none⟩) ∧ q = .pointer (some ⟨g7, 0, none⟩) ∧ Hid (Below W2.heap.size W2 wx ∧ wx.heap[g6]? = some (.cells #[.int .i8 k1, .int .i64 n1, .string s1, .string t1, .slice A1 m1 c1] 44 (0, 0)) ∧ wx.heap[g7]? = some (.cells #[.int .i8 k2, .int .i64 n2, .string s2, .string t2, .slice A2 m2 c2] 44 (0, 0))))
  case first =>
    refine wp_region_held (S := fun V => Below W2.heap.size W2 V) (by kernel_rfl) ?_
    show wpAnyH _ _ _ _ _ _ _ _ W2.drew
    have hS : Below W2.heap.size W2 W2.drew := ⟨rfl, rfl, rfl, Nat.le_refl _, fun _ _ => rfl⟩
    generalize W2.drew = V0 at hS ⊢
    refine wpAnyH_take (i := 0) (oi := ⟨some 10, _, _, _, _, _⟩) (v := ?_) rfl (by kernel_rfl) (by kernel_rfl) (by kernel_rfl) (fun _ _ _ h => h) (Or.inl ⟨by kernel_rfl, ?_⟩) (by assumption) ?_; rotate_left; (intro VV hSw; (try dsimp only at hSw); go_simp; first | done | with_reducible rfl); (try simp only [Act.put, sI, sZ, sS])
    refine wpAnyH_take (i := 1) (oi := ⟨some 11, _, _, _, _, _⟩) (v := ?_) rfl (by kernel_rfl) (by kernel_rfl) (by kernel_rfl) (fun _ _ _ h => h) (Or.inl ⟨by kernel_rfl, ?_⟩) (by assumption) ?_; rotate_left; (intro VV hSw; (try dsimp only at hSw); have h02 : (0 : Int) < 2 := (by decide); go_simp; first | done | with_reducible rfl); (try simp only [Act.put, sI, sZ, sS])
    refine wpAnyH_take (i := 2) (oi := ⟨some 12, _, _, _, _, _⟩) (v := ?_) rfl (by kernel_rfl) (by kernel_rfl) (by kernel_rfl) (fun _ _ _ h => h) (Or.inl ⟨by kernel_rfl, ?_⟩) (by assumption) ?_; rotate_left; (intro VV hSw; (try dsimp only at hSw); obtain ⟨d0, d1, d2, d3, d4, e0, e1, e2, e3, e4⟩ := HEL.out VV hSw; go_simp; first | done | with_reducible rfl); (try simp only [Act.put, sI, sZ, sS])
    refine wpAnyH_take (i := 3) (oi := ⟨some 13, _, _, _, _, _⟩) (v := ?_) rfl (by kernel_rfl) (by kernel_rfl) (by kernel_rfl) (fun _ _ _ h => h) (Or.inl ⟨by kernel_rfl, ?_⟩) (by assumption) ?_; rotate_left; (intro VV hSw; (try dsimp only at hSw); go_simp; first | done | with_reducible rfl); (try simp only [Act.put, sI, sZ, sS])
    refine wpAnyH_take (i := 4) (oi := ⟨some 14, _, _, _, _, _⟩) (v := ?_) rfl (by kernel_rfl) (by kernel_rfl) (by kernel_rfl) (fun _ _ _ h => h) (Or.inl ⟨by kernel_rfl, ?_⟩) (by assumption) ?_; rotate_left; (intro VV hSw; (try dsimp only at hSw); go_simp; first | done | with_reducible rfl); (try simp only [Act.put, sI, sZ, sS])
    refine wpAnyH_take (i := 5) (oi := ⟨some 15, _, _, _, _, _⟩) (v := ?_) rfl (by kernel_rfl) (by kernel_rfl) (by kernel_rfl) (fun _ _ _ h => h) (Or.inl ⟨by kernel_rfl, ?_⟩) (by assumption) ?_; rotate_left; (intro VV hSw; (try dsimp only at hSw); obtain ⟨d0, d1, d2, d3, d4, e0, e1, e2, e3, e4⟩ := HEL.out VV hSw; go_simp; first | done | with_reducible rfl); (try simp only [Act.put, sI, sZ, sS])
    refine wpAnyH_ready (rs := [6, 7]) (by kernel_rfl) (by simp) ?_
    refine AllReadyH.cons (o := ⟨some 6, _, _, _, _, _⟩) rfl (fun K hK => ?_) (AllReadyH.cons (o := ⟨some 7, _, _, _, _, _⟩) rfl (fun K hK => ?_) AllReadyH.nil)
    · rw [if_pos (by rfl)]
      go_simp
      have q := block_alloc V0 (.cells #[.int .i8 0, .int .i64 0, .string ⟨#[]⟩, .string ⟨#[]⟩, .slice none 0 0] 44)
      have hS1 := hS.alloc hS.size (.cells #[.int .i8 0, .int .i64 0, .string ⟨#[]⟩, .string ⟨#[]⟩, .slice none 0 0] 44)
      have l6 : W2.heap.size ≤ V0.heap.size := hS.size
      obtain ⟨g6, hg⟩ : ∃ g, g = V0.heap.size := ⟨_, rfl⟩
      rw [← hg] at q l6
      refine hK.out _ _ hS1 (fun hSn => ?_)
      clear hK K hSn; (try simp only [Act.put, sI, sZ, sS])
      rw [← hg]
      clear hg
      generalize V0.alloc (.cells #[.int .i8 0, .int .i64 0, .string ⟨#[]⟩, .string ⟨#[]⟩, .slice none 0 0] 44) = Y1 at q hS1 ⊢
      clear hS
      have hS := hS1
      have r6 := q
      clear hS1 q
      refine wpAnyH_ready (rs := [7]) (by kernel_rfl) (by simp) ?_
      refine AllReadyH.cons (o := ⟨some 7, _, _, _, _, _⟩) rfl (fun K hK => ?_) AllReadyH.nil
      · rw [if_pos (by rfl)]
        go_simp
        have q := block_alloc Y1 (.cells #[.int .i8 0, .int .i64 0, .string ⟨#[]⟩, .string ⟨#[]⟩, .slice none 0 0] 44)
        have hS1 := hS.alloc hS.size (.cells #[.int .i8 0, .int .i64 0, .string ⟨#[]⟩, .string ⟨#[]⟩, .slice none 0 0] 44)
        have l7 : W2.heap.size ≤ Y1.heap.size := hS.size
        have rj := there_of (.cells #[.int .i8 0, .int .i64 0, .string ⟨#[]⟩, .string ⟨#[]⟩, .slice none 0 0] 44) r6
        have ne : g6 ≠ Y1.heap.size := by have := heap_lt r6; omega
        obtain ⟨g7, hg⟩ : ∃ g, g = Y1.heap.size := ⟨_, rfl⟩
        rw [← hg] at q l7 ne
        refine hK.out _ _ hS1 (fun hSn => ?_)
        clear hK K hSn; (try simp only [Act.put, sI, sZ, sS])
        rw [← hg]
        clear hg
        generalize Y1.alloc (.cells #[.int .i8 0, .int .i64 0, .string ⟨#[]⟩, .string ⟨#[]⟩, .slice none 0 0] 44) = Y2 at q hS1 rj ⊢
        clear hS r6
        have hS := hS1
        have r7 := q
        have r6 := rj
        clear rj
        clear hS1 q
        refine wpAnyH_ready (rs := [8]) (by kernel_rfl) (by simp) ?_
        refine AllReadyH.cons (o := ⟨none, _, _, _, _, _⟩) rfl (fun K hK => ?_) AllReadyH.nil
        · rw [if_pos (by rfl)]
          obtain ⟨⟨z0, z1, z2, z3, z4⟩, zf0, zf1, zf2, zf3, zf4⟩ := five_fr r6
          obtain ⟨s5, m5⟩ := set_five (.int .i8 k1) (.int .i64 n1) (.string s1) (.string t1) (.slice A1 m1 c1) r6
          have hS9 := hS.trans (m5.below hS.size (fun q (e : q = _) => by omega))
          have rj := (m5.block _ (heap_lt r7) (by omega)).trans r7
          go_simp
          generalize ((((((Y2).setCell ⟨g6, 0, none⟩ (.int .i8 k1)).setCell ⟨g6, 1, none⟩ (.int .i64 n1)).setCell ⟨g6, 2, none⟩ (.string s1)).setCell ⟨g6, 3, none⟩ (.string t1)).setCell ⟨g6, 4, none⟩ (.slice A1 m1 c1)) = Y3 at s5 m5 hS9 rj ⊢
          refine hK.out _ _ hS9 (fun hSn => ?_)
          clear hK K hSn z0 zf0 z1 zf1 z2 zf2 z3 zf3 z4 zf4; (try simp only [Act.put, sI, sZ, sS])
          clear hS m5 r6 r7
          have hS := hS9
          have r6 := s5
          have r7 := rj
          clear rj
          clear hS9 s5
          refine wpAnyH_ready (rs := [9]) (by kernel_rfl) (by simp) ?_
          refine AllReadyH.cons (o := ⟨none, _, _, _, _, _⟩) rfl (fun K hK => ?_) AllReadyH.nil
          · rw [if_pos (by rfl)]
            obtain ⟨⟨z0, z1, z2, z3, z4⟩, zf0, zf1, zf2, zf3, zf4⟩ := five_fr r7
            obtain ⟨s5, m5⟩ := set_five (.int .i8 k2) (.int .i64 n2) (.string s2) (.string t2) (.slice A2 m2 c2) r7
            have hS9 := hS.trans (m5.below hS.size (fun q (e : q = _) => by omega))
            have rj := (m5.block _ (heap_lt r6) (by omega)).trans r6
            go_simp
            generalize ((((((Y3).setCell ⟨g7, 0, none⟩ (.int .i8 k2)).setCell ⟨g7, 1, none⟩ (.int .i64 n2)).setCell ⟨g7, 2, none⟩ (.string s2)).setCell ⟨g7, 3, none⟩ (.string t2)).setCell ⟨g7, 4, none⟩ (.slice A2 m2 c2)) = Y4 at s5 m5 hS9 rj ⊢
            refine hK.out _ _ hS9 (fun hSn => ?_)
            clear hK K hSn z0 zf0 z1 zf1 z2 zf2 z3 zf3 z4 zf4; (try simp only [Act.put, sI, sZ, sS])
            clear hS m5 r7 r6
            have hS := hS9
            have r7 := s5
            have r6 := rj
            clear rj
            clear hS9 s5
            refine wpAnyH_done (by kernel_rfl) ?_ _
            go_wp2_with fail
            go_meet
            exact ⟨g6, g7, rfl, rfl, Lib.hid ⟨hS, r6, r7⟩⟩
    · rw [if_pos (by rfl)]
      go_simp
      have q := block_alloc V0 (.cells #[.int .i8 0, .int .i64 0, .string ⟨#[]⟩, .string ⟨#[]⟩, .slice none 0 0] 44)
      have hS1 := hS.alloc hS.size (.cells #[.int .i8 0, .int .i64 0, .string ⟨#[]⟩, .string ⟨#[]⟩, .slice none 0 0] 44)
      have l7 : W2.heap.size ≤ V0.heap.size := hS.size
      obtain ⟨g7, hg⟩ : ∃ g, g = V0.heap.size := ⟨_, rfl⟩
      rw [← hg] at q l7
      refine hK.out _ _ hS1 (fun hSn => ?_)
      clear hK K hSn; (try simp only [Act.put, sI, sZ, sS])
      rw [← hg]
      clear hg
      generalize V0.alloc (.cells #[.int .i8 0, .int .i64 0, .string ⟨#[]⟩, .string ⟨#[]⟩, .slice none 0 0] 44) = Y5 at q hS1 ⊢
      clear hS
      have hS := hS1
      have r7 := q
      clear hS1 q
      refine wpAnyH_ready (rs := [6]) (by kernel_rfl) (by simp) ?_
      refine AllReadyH.cons (o := ⟨some 6, _, _, _, _, _⟩) rfl (fun K hK => ?_) AllReadyH.nil
      · rw [if_pos (by rfl)]
        go_simp
        have q := block_alloc Y5 (.cells #[.int .i8 0, .int .i64 0, .string ⟨#[]⟩, .string ⟨#[]⟩, .slice none 0 0] 44)
        have hS1 := hS.alloc hS.size (.cells #[.int .i8 0, .int .i64 0, .string ⟨#[]⟩, .string ⟨#[]⟩, .slice none 0 0] 44)
        have l6 : W2.heap.size ≤ Y5.heap.size := hS.size
        have rj := there_of (.cells #[.int .i8 0, .int .i64 0, .string ⟨#[]⟩, .string ⟨#[]⟩, .slice none 0 0] 44) r7
        have ne : g7 ≠ Y5.heap.size := by have := heap_lt r7; omega
        obtain ⟨g6, hg⟩ : ∃ g, g = Y5.heap.size := ⟨_, rfl⟩
        rw [← hg] at q l6 ne
        refine hK.out _ _ hS1 (fun hSn => ?_)
        clear hK K hSn; (try simp only [Act.put, sI, sZ, sS])
        rw [← hg]
        clear hg
        generalize Y5.alloc (.cells #[.int .i8 0, .int .i64 0, .string ⟨#[]⟩, .string ⟨#[]⟩, .slice none 0 0] 44) = Y6 at q hS1 rj ⊢
        clear hS r7
        have hS := hS1
        have r6 := q
        have r7 := rj
        clear rj
        clear hS1 q
        refine wpAnyH_ready (rs := [8]) (by kernel_rfl) (by simp) ?_
        refine AllReadyH.cons (o := ⟨none, _, _, _, _, _⟩) rfl (fun K hK => ?_) AllReadyH.nil
        · rw [if_pos (by rfl)]
          obtain ⟨⟨z0, z1, z2, z3, z4⟩, zf0, zf1, zf2, zf3, zf4⟩ := five_fr r6
          obtain ⟨s5, m5⟩ := set_five (.int .i8 k1) (.int .i64 n1) (.string s1) (.string t1) (.slice A1 m1 c1) r6
          have hS9 := hS.trans (m5.below hS.size (fun q (e : q = _) => by omega))
          have rj := (m5.block _ (heap_lt r7) (by omega)).trans r7
          go_simp
          generalize ((((((Y6).setCell ⟨g6, 0, none⟩ (.int .i8 k1)).setCell ⟨g6, 1, none⟩ (.int .i64 n1)).setCell ⟨g6, 2, none⟩ (.string s1)).setCell ⟨g6, 3, none⟩ (.string t1)).setCell ⟨g6, 4, none⟩ (.slice A1 m1 c1)) = Y7 at s5 m5 hS9 rj ⊢
          refine hK.out _ _ hS9 (fun hSn => ?_)
          clear hK K hSn z0 zf0 z1 zf1 z2 zf2 z3 zf3 z4 zf4; (try simp only [Act.put, sI, sZ, sS])
          clear hS m5 r6 r7
          have hS := hS9
          have r6 := s5
          have r7 := rj
          clear rj
          clear hS9 s5
          refine wpAnyH_ready (rs := [9]) (by kernel_rfl) (by simp) ?_
          refine AllReadyH.cons (o := ⟨none, _, _, _, _, _⟩) rfl (fun K hK => ?_) AllReadyH.nil
          · rw [if_pos (by rfl)]
            obtain ⟨⟨z0, z1, z2, z3, z4⟩, zf0, zf1, zf2, zf3, zf4⟩ := five_fr r7
            obtain ⟨s5, m5⟩ := set_five (.int .i8 k2) (.int .i64 n2) (.string s2) (.string t2) (.slice A2 m2 c2) r7
            have hS9 := hS.trans (m5.below hS.size (fun q (e : q = _) => by omega))
            have rj := (m5.block _ (heap_lt r6) (by omega)).trans r6
            go_simp
            generalize ((((((Y7).setCell ⟨g7, 0, none⟩ (.int .i8 k2)).setCell ⟨g7, 1, none⟩ (.int .i64 n2)).setCell ⟨g7, 2, none⟩ (.string s2)).setCell ⟨g7, 3, none⟩ (.string t2)).setCell ⟨g7, 4, none⟩ (.slice A2 m2 c2)) = Y8 at s5 m5 hS9 rj ⊢
            refine hK.out _ _ hS9 (fun hSn => ?_)
            clear hK K hSn z0 zf0 z1 zf1 z2 zf2 z3 zf3 z4 zf4; (try simp only [Act.put, sI, sZ, sS])
            clear hS m5 r7 r6
            have hS := hS9
            have r7 := s5
            have r6 := rj
            clear rj
            clear hS9 s5
            refine wpAnyH_done (by kernel_rfl) ?_ _
            go_wp2_with fail
            go_meet
            exact ⟨g6, g7, rfl, rfl, Lib.hid ⟨hS, r6, r7⟩⟩
  case rest =>
  obtain ⟨g6, g7, rfl, rfl, hcut⟩ := hcut
  obtain ⟨W3, hW3⟩ : ∃ W3, W3 = wc := ⟨_, rfl⟩
  subst hW3
  obtain ⟨b3, r6, r7⟩ := hcut.out
  have HB3 := Lib.hid (HB2.out.trans (b3.mono HB2.out.size))
  have HG3 := Lib.hid ((b3.block _ (heap_lt HG1.out)).trans HG1.out)
  have hg0 := (b3.block _ (heap_lt HG0.out)).trans HG0.out
  have x2 : W3.cell? ⟨w.heap.size, 2, none⟩ = some (.string s) := cell_of_row (i := 2) hg0 rfl
  have y0 : W3.cell? ⟨g6, 0, none⟩ = some (.int .i8 k1) := cell_of_row (i := 0) r6 rfl
  have y1 : W3.cell? ⟨g6, 1, none⟩ = some (.int .i64 n1) := cell_of_row (i := 1) r6 rfl
  have u0 : W3.cell? ⟨g7, 0, none⟩ = some (.int .i8 k2) := cell_of_row (i := 0) r7 rfl
  have u1 : W3.cell? ⟨g7, 1, none⟩ = some (.int .i64 n2) := cell_of_row (i := 1) r7 rfl
  have HX2 := Lib.hid hg0
  clear hcut b3 r6 r7 hg0
  by_cases hk1 : k1 = 0
  rotate_left
  · have hk1b : (k1 != 0) = true := by simpa using hk1
    have HOP : Hid (opR s [a, b] = none) := by
      show _ = _
      unfold opR; dsimp only
      rw [if_neg]
      rintro ⟨h, -⟩
      exact hk1 (HK.out.1.trans h)
    clear hk1
    have hg1 := HG3.out
    obtain ⟨⟨r0, r1, r2, r3, r4⟩, rf0, rf1, rf2, rf3, rf4⟩ := five_fr hg1
    have S5 := Lib.hid (set_five (.int .i8 0) (.int .i64 0) (.string ⟨#[]⟩) (.string ⟨#[]⟩) (.slice none 0 0) hg1)
    go_wp2_with fail
    obtain ⟨s5, m5⟩ := S5.out
    generalize ((((((W3).setCell ⟨w.heap.size + 1, 0, none⟩ (.int .i8 0)).setCell ⟨w.heap.size + 1, 1, none⟩ (.int .i64 0)).setCell ⟨w.heap.size + 1, 2, none⟩ (.string ⟨#[]⟩)).setCell ⟨w.heap.size + 1, 3, none⟩ (.string ⟨#[]⟩)).setCell ⟨w.heap.size + 1, 4, none⟩ (.slice none 0 0)) = VX at s5 m5 ⊢
    obtain ⟨z0, z1, z2, z3, z4⟩ := five_of s5
    refine bodyPost_ret (v := .tuple #[.agg #[.int .i8 0, .int .i64 0, .string ⟨#[]⟩, .string ⟨#[]⟩, .slice none 0 0], .int .i64 2]) (by simp [results, Tryz.f218, go_sem, z0, z1, z2, z3, z4]) rfl ?_
    exact ⟨_, _, _, _, _, _, _, _, rfl, (fun y hy => absurd hy (by rw [HOP.out]; exact fun h => by cases h)), (fun _ => by decide), HB3.out.trans (m5.below HB3.out.size (fun k (e : k = _) => by omega))⟩
  have hk1b : (k1 != 0) = false := by simpa using hk1
  have HK1 := Lib.hid hk1
  clear hk1
  by_cases hk2 : k2 = 0
  rotate_left
  · have hk2b : (k2 != 0) = true := by simpa using hk2
    have HOP : Hid (opR s [a, b] = none) := by
      show _ = _
      unfold opR; dsimp only
      rw [if_neg]
      rintro ⟨-, h, -⟩
      exact hk2 (HK.out.2.2.1.trans h)
    clear hk2
    have hg1 := HG3.out
    obtain ⟨⟨r0, r1, r2, r3, r4⟩, rf0, rf1, rf2, rf3, rf4⟩ := five_fr hg1
    have S5 := Lib.hid (set_five (.int .i8 0) (.int .i64 0) (.string ⟨#[]⟩) (.string ⟨#[]⟩) (.slice none 0 0) hg1)
    go_wp2_with fail
    obtain ⟨s5, m5⟩ := S5.out
    generalize ((((((W3).setCell ⟨w.heap.size + 1, 0, none⟩ (.int .i8 0)).setCell ⟨w.heap.size + 1, 1, none⟩ (.int .i64 0)).setCell ⟨w.heap.size + 1, 2, none⟩ (.string ⟨#[]⟩)).setCell ⟨w.heap.size + 1, 3, none⟩ (.string ⟨#[]⟩)).setCell ⟨w.heap.size + 1, 4, none⟩ (.slice none 0 0)) = VX at s5 m5 ⊢
    obtain ⟨z0, z1, z2, z3, z4⟩ := five_of s5
    refine bodyPost_ret (v := .tuple #[.agg #[.int .i8 0, .int .i64 0, .string ⟨#[]⟩, .string ⟨#[]⟩, .slice none 0 0], .int .i64 2]) (by simp [results, Tryz.f218, go_sem, z0, z1, z2, z3, z4]) rfl ?_
    exact ⟨_, _, _, _, _, _, _, _, rfl, (fun y hy => absurd hy (by rw [HOP.out]; exact fun h => by cases h)), (fun _ => by decide), HB3.out.trans (m5.below HB3.out.size (fun k (e : k = _) => by omega))⟩
  have hk2b : (k2 != 0) = false := by simpa using hk2
  have HK2 := Lib.hid hk2
  clear hk2
  go_wp2_with fail
  refine (Do_any s n1 n2 W3).mono ?_
  rintro e W4 ⟨rfl, b4⟩
  obtain ⟨dv, hr1⟩ : ∃ r, r = (doR s n1 n2).1 := ⟨_, rfl⟩
  obtain ⟨de, hr2⟩ : ∃ r, r = (doR s n1 n2).2 := ⟨_, rfl⟩
  rw [← hr1, ← hr2]
  have HR1 := Lib.hid hr1
  have HR2 := Lib.hid hr2
  have HB4 := Lib.hid (HB3.out.trans (b4.mono HB3.out.size))
  have hg1 := (b4.block _ (heap_lt HG3.out)).trans HG3.out
  clear b4 hr1 hr2 x2 y0 y1 u0 u1
  obtain ⟨⟨r0, r1, r2, r3, r4⟩, rf0, rf1, rf2, rf3, rf4⟩ := five_fr hg1
  have S5 := Lib.hid (set_five (.int .i8 0) (.int .i64 dv) (.string ⟨#[]⟩) (.string ⟨#[]⟩) (.slice none 0 0) hg1)
  go_wp2_with fail
  obtain ⟨s5, m5⟩ := S5.out
  generalize ((((((W4).setCell ⟨w.heap.size + 1, 0, none⟩ (.int .i8 0)).setCell ⟨w.heap.size + 1, 1, none⟩ (.int .i64 dv)).setCell ⟨w.heap.size + 1, 2, none⟩ (.string ⟨#[]⟩)).setCell ⟨w.heap.size + 1, 3, none⟩ (.string ⟨#[]⟩)).setCell ⟨w.heap.size + 1, 4, none⟩ (.slice none 0 0)) = VX at s5 m5 ⊢
  obtain ⟨z0, z1, z2, z3, z4⟩ := five_of s5
  refine bodyPost_ret (v := .tuple #[.agg #[.int .i8 0, .int .i64 dv, .string ⟨#[]⟩, .string ⟨#[]⟩, .slice none 0 0], .int .i64 de]) (by simp [results, Tryz.f218, go_sem, z0, z1, z2, z3, z4]) rfl ?_
  have hop : opR s [a, b] = if de = 0 then some (intT dv) else none := by
    unfold opR; dsimp only
    rw [← HK.out.1, ← HK.out.2.1, ← HK.out.2.2.1, ← HK.out.2.2.2, ← HR1.out, ← HR2.out]
    by_cases h : de = 0
    · rw [if_pos ⟨HK1.out, HK2.out, h⟩, if_pos h]
    · rw [if_neg (fun q => h q.2.2), if_neg h]
  refine ⟨_, _, _, _, _, _, _, _, rfl, (fun y hy => ?_), (fun h => ?_), HB4.out.trans (m5.below HB4.out.size (fun k (e : k = _) => by omega))⟩
  · rw [hop] at hy
    by_cases h : de = 0
    · rw [if_pos h] at hy
      cases hy
      refine ⟨h, TmAt.of_row (.nil _ _ none 0) (by decide) ?_ (by decide) (by decide)⟩
      rw [HR1.out]
      exact doR_range s n1 n2
    · rw [if_neg h] at hy; cases hy
  · rw [hop] at h
    intro h0
    rw [if_pos h0] at h; cases h
end Go.Proofs.YtkceoiaaiaomoaaGreatDoor
