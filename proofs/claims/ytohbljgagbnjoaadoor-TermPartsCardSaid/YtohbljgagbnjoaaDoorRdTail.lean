/- term.roll: conses of heads and a tail. The reader: tail. -/
import Derived.Test.YtohbljgagbnjoaaDoorRdTuple
import Derived.StillTailTactics
import Derived.RegionTactic
set_option linter.unusedVariables false
namespace Go.Proofs.YtohbljgagbnjoaaDoor
open Go.RowKit

def rollT : List Tm → Tm → Tm
  | [], z => z
  | h :: hs, z => .mk 7 0 ⟨#[]⟩ ⟨#[]⟩ [h, rollT hs z]

theorem pair_at {P : Nat → Prop} {w : World} {g : Nat} {a0 a1 a2 a3 a4 b0 b1 b2 b3 b4 : Value} {T : TypeId} {z : Nat × Nat} {x y : Tm} (h : w.heap[g]? = some (.cells #[a0, a1, a2, a3, a4, b0, b1, b2, b3, b4] T z)) (hx : TmAt P w x (.agg #[a0, a1, a2, a3, a4])) (hy : TmAt P w y (.agg #[b0, b1, b2, b3, b4])) (hg : P g) :
    TmAt P w (.mk 7 0 ⟨#[]⟩ ⟨#[]⟩ [x, y]) (.agg #[.int .i8 7, .int .i64 0, .string ⟨#[]⟩, .string ⟨#[]⟩, .slice (some ⟨g, 0, none⟩) 2 2]) := by
  refine TmAt.of_row (l := [x, y]) ⟨rfl, by show 2 ≤ maxLen; unfold maxLen; omega, Nat.le_refl _, fun j u hj => ?_⟩ (by omega) (by omega) (by show 0 ≤ maxLen; omega) (by show 0 ≤ maxLen; omega)
  match j, hj with
  | 0, hj =>
    cases hj
    exact ⟨⟨g, 0, none⟩, _, rfl, hg, ⟨a0, a1, a2, a3, a4, rfl, cell_of_row h rfl, cell_of_row h rfl, cell_of_row h rfl, cell_of_row h rfl, cell_of_row h rfl⟩, hx⟩
  | 1, hj =>
    cases hj
    exact ⟨⟨g, 0, none⟩, _, rfl, hg, ⟨b0, b1, b2, b3, b4, rfl, cell_of_row h rfl, cell_of_row h rfl, cell_of_row h rfl, cell_of_row h rfl, cell_of_row h rfl⟩, hy⟩

/-- The blocks in which roll's terms lie. -/
def RollP (P : Nat → Prop) (B : Nat) (W : World) (b : Nat) : Prop := P b ∨ (B ≤ b ∧ b < W.heap.size)

set_option maxHeartbeats 4000000 in
set_option maxRecDepth 100000 in
theorem roll_any (P : Nat → Prop) (l : List Tm) (z : Tm) (A : Option Addr) (cap : Nat) (tv : Value) (w : World) (hP : ∀ b, P b → b < w.heap.size) (hR : TRow P w A l.length cap l) (hT : TmAt P w z tv) :
    Calls Tryd.prog 45 #[.slice A l.length cap, tv] w fun e w' => ∃ v, e = .returned v ∧ TmAt (RollP P (w.heap.size + 2) w') w' (rollT l z) v ∧ Below w.heap.size w w' := by
  obtain ⟨kz, nz, sz, tz, Lz, Az, capz, hz, rfl⟩ : ∃ k' n' s' t' L' A' cap', z = Tm.mk k' n' s' t' L' ∧ tv = .agg #[.int .i8 k', .int .i64 n', .string s', .string t', .slice A' L'.length cap'] := by
    cases hT; exact ⟨_, _, _, _, _, _, _, rfl, rfl⟩
  clear hz
  have hmax := hR.max
  unfold maxLen at hmax
  obtain ⟨w1, hw1⟩ : ∃ w1, w1 = (w.alloc (.cells #[(.int .i8 kz), (.int .i64 nz), (.string sz), (.string tz), (.slice Az Lz.length capz)] 25)).alloc (.cells #[.int .i8 0, .int .i64 0, .string ⟨#[]⟩, .string ⟨#[]⟩, .slice none 0 0] 25) := ⟨_, rfl⟩
  have B1 : Below w.heap.size w w1 := by rw [hw1]; exact ((Below.refl _ w).alloc (Nat.le_refl _) _).alloc (by simp) _
  have hs1 : w1.heap.size = w.heap.size + 2 := by rw [hw1]; simp
  have xb : w1.heap[w.heap.size]? = some (.cells #[(.int .i8 kz), (.int .i64 nz), (.string sz), (.string tz), (.slice Az Lz.length capz)] 25 (0, 0)) := by rw [hw1]; exact (Below.heap_alloc _ _ _ (by simp)).trans (block_alloc _ _)
  have rb : w1.heap[w.heap.size + 1]? = some termZ := by
    rw [hw1]
    have := block_alloc (w.alloc (.cells #[(.int .i8 kz), (.int .i64 nz), (.string sz), (.string tz), (.slice Az Lz.length capz)] 25)) (.cells #[.int .i8 0, .int .i64 0, .string ⟨#[]⟩, .string ⟨#[]⟩, .slice none 0 0] 25)
    rwa [World.size_alloc] at this
  have HT1 := Lib.hid (hT.keep (w' := w1) (Q := RollP P (w.heap.size + 2) w1) (fun b hb => B1.block b (hP b hb)) (fun _ h => .inl h))
  have HP := Lib.hid hP
  have HR := Lib.hid hR
  have HB1 := Lib.hid B1
  have HXB := Lib.hid xb
  have HRB := Lib.hid rb
  clear hT hR hP B1 hs1 xb rb
  go_enter Tryd.func45, Tryd.ntmps45
  go_wp2_with fail
  rw [← hw1]
  clear hw1
  go_loopw [5] (fun i wr => ∃ (j : Nat) (u : Value), j ≤ l.length ∧ i = .int .i64 ((j : Int) - 1) ∧ TmAt (RollP P (w.heap.size + 2) wr) wr (rollT (l.drop j) z) u ∧ (∃ c, u = .agg c ∧ wr.heap[w.heap.size]? = some (.cells c 25 (0, 0))) ∧ wr.heap[w.heap.size + 1]? = some termZ ∧ Below w.heap.size w wr) (fun i _ => (intOf i + 1).toNat)
  case atStart => exact ⟨l.length, _, Nat.le_refl _, rfl, by rw [List.drop_length]; exact HT1.out, ⟨_, rfl, HXB.out⟩, HRB.out, HB1.out⟩
  case round =>
    obtain ⟨j, u, hj, rfl, hTu, ⟨c, rfl, hbx⟩, hrb, hB⟩ := hrel
    obtain ⟨kb, nb, sb, tb, Lb, Ab, capb, hc⟩ : ∃ k' n' s' t' L' A' cap', Value.agg c = .agg #[.int .i8 k', .int .i64 n', .string s', .string t', .slice A' (List.length (α := Tm) L') cap'] := by
      have h2 := hTu
      generalize rollT (l.drop j) z = q at h2
      cases h2; exact ⟨_, _, _, _, _, _, _, rfl⟩
    simp only [Value.agg.injEq] at hc
    subst hc
    have HTU := Lib.hid hTu
    have HBX := Lib.hid hbx
    have HRR := Lib.hid hrb
    have HB := Lib.hid hB
    clear hTu hrb hB
    have x0 : (wr).cell? ⟨w.heap.size, 0, none⟩ = some (.int .i8 kb) := cell_of_row hbx rfl
    have x1 : (wr).cell? ⟨w.heap.size, 1, none⟩ = some (.int .i64 nb) := cell_of_row hbx rfl
    have x2 : (wr).cell? ⟨w.heap.size, 2, none⟩ = some (.string sb) := cell_of_row hbx rfl
    have x3 : (wr).cell? ⟨w.heap.size, 3, none⟩ = some (.string tb) := cell_of_row hbx rfl
    have x4 : (wr).cell? ⟨w.heap.size, 4, none⟩ = some (.slice Ab Lb.length capb) := cell_of_row hbx rfl
    have fx0 : (wr).frozen? ⟨w.heap.size, 0, none⟩ = false := free_of_row hbx
    have fx1 : (wr).frozen? ⟨w.heap.size, 1, none⟩ = false := free_of_row hbx
    have fx2 : (wr).frozen? ⟨w.heap.size, 2, none⟩ = false := free_of_row hbx
    have fx3 : (wr).frozen? ⟨w.heap.size, 3, none⟩ = false := free_of_row hbx
    have fx4 : (wr).frozen? ⟨w.heap.size, 4, none⟩ = false := free_of_row hbx
    rcases Nat.eq_zero_or_pos j with rfl | hj0
    · clear hbx
      have hr0 := HRR.out
      unfold termZ at hr0
      have r0 : (wr).cell? ⟨(w.heap.size + 1), 0, none⟩ = some (.int .i8 0) := cell_of_row hr0 rfl
      have r1 : (wr).cell? ⟨(w.heap.size + 1), 1, none⟩ = some (.int .i64 0) := cell_of_row hr0 rfl
      have r2 : (wr).cell? ⟨(w.heap.size + 1), 2, none⟩ = some (.string ⟨#[]⟩) := cell_of_row hr0 rfl
      have r3 : (wr).cell? ⟨(w.heap.size + 1), 3, none⟩ = some (.string ⟨#[]⟩) := cell_of_row hr0 rfl
      have r4 : (wr).cell? ⟨(w.heap.size + 1), 4, none⟩ = some (.slice none 0 0) := cell_of_row hr0 rfl
      have f0 : (wr).frozen? ⟨(w.heap.size + 1), 0, none⟩ = false := free_of_row hr0
      have f1 : (wr).frozen? ⟨(w.heap.size + 1), 1, none⟩ = false := free_of_row hr0
      have f2 : (wr).frozen? ⟨(w.heap.size + 1), 2, none⟩ = false := free_of_row hr0
      have f3 : (wr).frozen? ⟨(w.heap.size + 1), 3, none⟩ = false := free_of_row hr0
      have f4 : (wr).frozen? ⟨(w.heap.size + 1), 4, none⟩ = false := free_of_row hr0
      have S5 := Lib.hid (set_five (.int .i8 kb) (.int .i64 nb) (.string sb) (.string tb) (.slice Ab Lb.length capb) hr0)
      clear hr0
      go_wp2_with fail
      obtain ⟨s5, m5⟩ := S5.out
      generalize ((((((wr).setCell ⟨w.heap.size + 1, 0, none⟩ (.int .i8 kb)).setCell ⟨w.heap.size + 1, 1, none⟩ (.int .i64 nb)).setCell ⟨w.heap.size + 1, 2, none⟩ (.string sb)).setCell ⟨w.heap.size + 1, 3, none⟩ (.string tb)).setCell ⟨w.heap.size + 1, 4, none⟩ (.slice Ab Lb.length capb)) = VX at s5 m5 ⊢
      have z0 : VX.cell? ⟨w.heap.size + 1, 0, none⟩ = some (.int .i8 kb) := cell_of_row s5 rfl
      have z1 : VX.cell? ⟨w.heap.size + 1, 1, none⟩ = some (.int .i64 nb) := cell_of_row s5 rfl
      have z2 : VX.cell? ⟨w.heap.size + 1, 2, none⟩ = some (.string sb) := cell_of_row s5 rfl
      have z3 : VX.cell? ⟨w.heap.size + 1, 3, none⟩ = some (.string tb) := cell_of_row s5 rfl
      have z4 : VX.cell? ⟨w.heap.size + 1, 4, none⟩ = some (.slice Ab Lb.length capb) := cell_of_row s5 rfl
      refine bodyPost_ret (v := .agg #[(.int .i8 kb), (.int .i64 nb), (.string sb), (.string tb), (.slice Ab Lb.length capb)]) (by simp [results, Tryd.f45, go_sem, z0, z1, z2, z3, z4]) rfl ?_
      have h1 := HTU.out
      rw [List.drop_zero] at h1
      have hwr := HB.out.size
      have hm5 := m5.size
      refine ⟨_, rfl, h1.keep (fun b hb => m5.block b ?_ ?_) (fun b hb => ?_), HB.out.trans (m5.below hwr (fun k (e : k = _) => by omega))⟩
      · rcases hb with hb | hb
        · have := HP.out b hb; omega
        · exact hb.2
      · rcases hb with hb | hb
        · have := HP.out b hb; omega
        · have := hb.1; omega
      · rcases hb with hb | hb
        · exact .inl hb
        · exact .inr ⟨hb.1, by have := hb.2; omega⟩
    · obtain ⟨j, rfl⟩ : ∃ j', j = j' + 1 := ⟨j - 1, by omega⟩
      have hij : (((j + 1 : Nat) : Int) - 1) = (j : Int) := by omega
      rw [hij]
      have h0 : decide ((0 : Int) ≤ (j : Int)) = true := decide_eq_true (by omega)
      have hlt : j < l.length := by omega
      obtain ⟨y, hy⟩ : ∃ y, l[j]? = some y := ⟨l[j], List.getElem?_eq_getElem hlt⟩
      obtain ⟨ad, u, rfl, had, hE, hTy⟩ := HR.out.at_ j y hy
      have hadl := HP.out _ had
      have hEr : ElemAt wr ad j u := hE.keep (HB.out.block _ hadl)
      obtain ⟨ka, na, sa, ta, La, Aa, capa, hya, rfl⟩ : ∃ k' n' s' t' L' A' cap', y = Tm.mk k' n' s' t' L' ∧ u = .agg #[.int .i8 k', .int .i64 n', .string s', .string t', .slice A' L'.length cap'] := by
        cases hTy; exact ⟨_, _, _, _, _, _, _, rfl, rfl⟩
      clear hya
      obtain ⟨c0, c1, c2, c3, c4, hc, e0, e1, e2, e3, e4⟩ := hEr
      simp only [Value.agg.injEq, Array.mk.injEq, List.cons.injEq, and_true] at hc
      obtain ⟨rfl, rfl, rfl, rfl, rfl⟩ := hc
      have HTY := Lib.hid hTy
      have HY := Lib.hid hy
      clear hE hTy hy
      go_wp2_with fail
      go_still_tail 5, (by kernel_rfl)
      obtain ⟨W3, hW3⟩ : ∃ W3, W3 = { wr with drawn := wr.drawn + 1 } := ⟨_, rfl⟩
      have m3 : Mod (fun _ => False) wr W3 := by rw [hW3]; exact ⟨rfl, rfl, rfl, Nat.le_refl _, fun _ _ _ => rfl⟩
      have z3 : W3.heap.size = wr.heap.size := by rw [hW3]
      rw [← hW3]
      clear hW3
      have HM3 := Lib.hid m3
      have HZ3 := Lib.hid z3
      clear m3 z3 hbx e0 e1 e2 e3 e4 x0 fx0 x1 fx1 x2 fx2 x3 fx3 x4 fx4
      go_wp2_with fail
      refine (termOf_cons 0 ⟨#[]⟩ ⟨#[]⟩ (some ⟨W3.heap.size, 0, none⟩) 2 2 _).mono ?_
      rintro e V ⟨rfl, bV⟩
      obtain ⟨W4, hW4⟩ : ∃ W4, W4 = W3.alloc (.cells #[(.int .i8 ka), (.int .i64 na), (.string sa), (.string ta), (.slice Aa La.length capa), (.int .i8 kb), (.int .i64 nb), (.string sb), (.string tb), (.slice Ab Lb.length capb)] 25) := ⟨_, rfl⟩
      (try rw [← hW4] at bV)
      have g4 : W4.heap[W3.heap.size]? = some (.cells #[(.int .i8 ka), (.int .i64 na), (.string sa), (.string ta), (.slice Aa La.length capa), (.int .i8 kb), (.int .i64 nb), (.string sb), (.string tb), (.slice Ab Lb.length capb)] 25 (0, 0)) := by rw [hW4]; exact block_alloc _ _
      have m4 : Mod (fun _ => False) wr W4 := HM3.out.trans (by rw [hW4]; exact Mod.alloc _ _ _) (fun _ _ h => h)
      have z4 : W4.heap.size = wr.heap.size + 1 := by rw [hW4, World.size_alloc, HZ3.out]
      have mV : Mod (fun _ => False) wr V := m4.trans (Mod.of_below bV) (fun _ _ h => h)
      have gV := (bV.block _ (heap_lt g4)).trans g4
      have bxV : V.heap[w.heap.size]? = _ := (mV.block _ (heap_lt HBX.out) (fun h => h)).trans HBX.out
      have rrV : V.heap[w.heap.size + 1]? = _ := (mV.block _ (heap_lt HRR.out) (fun h => h)).trans HRR.out
      have x0 : (V).cell? ⟨w.heap.size, 0, none⟩ = some (.int .i8 kb) := cell_of_row bxV rfl
      have x1 : (V).cell? ⟨w.heap.size, 1, none⟩ = some (.int .i64 nb) := cell_of_row bxV rfl
      have x2 : (V).cell? ⟨w.heap.size, 2, none⟩ = some (.string sb) := cell_of_row bxV rfl
      have x3 : (V).cell? ⟨w.heap.size, 3, none⟩ = some (.string tb) := cell_of_row bxV rfl
      have x4 : (V).cell? ⟨w.heap.size, 4, none⟩ = some (.slice Ab Lb.length capb) := cell_of_row bxV rfl
      have fx0 : (V).frozen? ⟨w.heap.size, 0, none⟩ = false := free_of_row bxV
      have fx1 : (V).frozen? ⟨w.heap.size, 1, none⟩ = false := free_of_row bxV
      have fx2 : (V).frozen? ⟨w.heap.size, 2, none⟩ = false := free_of_row bxV
      have fx3 : (V).frozen? ⟨w.heap.size, 3, none⟩ = false := free_of_row bxV
      have fx4 : (V).frozen? ⟨w.heap.size, 4, none⟩ = false := free_of_row bxV
      have S5 := Lib.hid (set_five (.int .i8 7) (.int .i64 0) (.string ⟨#[]⟩) (.string ⟨#[]⟩) (.slice (some ⟨W3.heap.size, 0, none⟩) 2 2) bxV)
      have GV := Lib.hid gV
      have MV := Lib.hid mV
      have RRV := Lib.hid rrV
      have BV := Lib.hid bV
      have Z4 := Lib.hid z4
      clear g4 m4 z4 mV gV bxV rrV bV hW4
      go_wp2_with fail
      obtain ⟨s5, m5⟩ := S5.out
      generalize ((((((V).setCell ⟨w.heap.size, 0, none⟩ (.int .i8 7)).setCell ⟨w.heap.size, 1, none⟩ (.int .i64 0)).setCell ⟨w.heap.size, 2, none⟩ (.string ⟨#[]⟩)).setCell ⟨w.heap.size, 3, none⟩ (.string ⟨#[]⟩)).setCell ⟨w.heap.size, 4, none⟩ (.slice (some ⟨W3.heap.size, 0, none⟩) 2 2)) = VX at s5 m5 ⊢
      go_roundw
      case rel =>
        have hwr := HB.out.size
        have hrr := heap_lt HRR.out
        have hz3 := HZ3.out
        have hvs := BV.out.size
        have hz4 := Z4.out
        have hm5 := m5.size
        have hg := heap_lt GV.out
        have hdrop : l.drop j = y :: l.drop (j + 1) := by
          have h1 := HY.out
          rw [List.getElem?_eq_getElem hlt] at h1
          injection h1 with h1
          rw [List.drop_eq_getElem_cons hlt, h1]
        have mAll : Mod (fun k => k = w.heap.size) wr VX := (MV.out.mono (fun _ _ h => h.elim)).trans m5 (fun _ _ h => h)
        refine ⟨j, _, by omega, rfl, ?_, ⟨_, rfl, s5⟩, (m5.block _ (heap_lt RRV.out) (by omega)).trans RRV.out, HB.out.trans (mAll.below hwr (fun k (e : k = _) => by omega))⟩
        rw [hdrop]
        refine pair_at ((m5.block _ hg (by omega)).trans GV.out) ?_ ?_ (.inr ⟨by omega, by omega⟩)
        · refine HTY.out.keep (fun b hb => ?_) (fun b hb => .inl hb)
          have h1 := HP.out b hb
          exact (mAll.block b (by omega) (by omega)).trans (HB.out.block b h1)
        · refine HTU.out.keep (fun b hb => ?_) (fun b hb => ?_)
          · rcases hb with hb | hb
            · have h1 := HP.out b hb
              exact mAll.block b (by omega) (by omega)
            · exact mAll.block b hb.2 (by have h1 := hb.1; omega)
          · rcases hb with hb | hb
            · exact .inl hb
            · exact .inr ⟨hb.1, by have h1 := hb.2; have h2 := mAll.size; omega⟩
      case measure => simp only [intOf]; omega
end Go.Proofs.YtohbljgagbnjoaaDoor
set_option linter.unusedVariables false
namespace Go.Proofs.YtohbljgagbnjoaaDoor
open Go.RowKit
open Go.Lib (decDigits itoa)

set_option maxHeartbeats 4000000 in
set_option maxRecDepth 100000 in
theorem tail_is {w0 W : World} {rb pos bg : Nat} {s : ByteArray} (z : Tm) (hO : ReadOf w0 s z) (h : RS w0 rb s pos bg W) {r : List UInt8} (hd : s.data.toList.drop pos = txt z ++ r) (hr : Good r) (hb : bg + z.nodes ≤ 256) (er : Int) (her : er = if z.k = 6 ∨ z.k = 7 then 2 else 0) :
    Calls Tryd.prog 95 #[.pointer (some ⟨rb, 0, none⟩)] W fun e W' => ∃ tv bg', e = .returned (.tuple #[tv, .int .i64 er]) ∧ TmAt (fun b => W.heap.size ≤ b ∧ b < W'.heap.size) W' z tv ∧ RS w0 rb s (pos + (txt z).length) bg' W' ∧ bg' ≤ bg + z.nodes ∧ Mod (fun k => k = rb) W W' := by
  have hrb := h.lt
  have hI := inBox_of h
  have z0 : (W.alloc termZ).heap.size = W.heap.size + 1 := World.size_alloc _ _
  have HC := Lib.hid (hO rb pos bg (W.alloc termZ) r hI.rs hd hr hb)
  have I0 := Lib.hid hI
  have Z0 := Lib.hid z0
  have HRB := Lib.hid hrb
  have HER := Lib.hid her
  clear her
  clear h hd hr hI hrb hO hb z0
  go_enter Tryd.func95, Tryd.ntmps95
  go_wp2_with fail
  refine HC.out.mono ?_
  rintro e W1 ⟨tv, bg', rfl, hT, hrs1, hbg, hm1⟩
  obtain ⟨kz, nz, sz, tz, Lz, Az, capz, hz, rfl⟩ : ∃ k' n' s' t' L' A' cap', z = Tm.mk k' n' s' t' L' ∧ tv = .agg #[.int .i8 k', .int .i64 n', .string s', .string t', .slice A' L'.length cap'] := by
    cases hT; exact ⟨_, _, _, _, _, _, _, rfl, rfl⟩
  have hzk : z.k = kz := by rw [hz]; rfl
  have HZK := Lib.hid hzk
  obtain ⟨W2, hW2⟩ : ∃ W2, W2 = W1.alloc (.cells #[(.int .i8 kz), (.int .i64 nz), (.string sz), (.string tz), (.slice Az Lz.length capz)] 25) := ⟨_, rfl⟩
  have g2 : W2.heap[W1.heap.size]? = some (.cells #[(.int .i8 kz), (.int .i64 nz), (.string sz), (.string tz), (.slice Az Lz.length capz)] 25 (0, 0)) := by rw [hW2]; exact block_alloc _ _
  have m2 : Mod (fun _ => False) W1 W2 := by rw [hW2]; exact Mod.alloc _ _ _
  have i1 := I0.out.on HRB.out hrs1 hm1
  have hb2 : Below W1.heap.size W1 W2 := by rw [hW2]; exact (Below.refl _ _).alloc (Nat.le_refl _) _
  have i2 := i1.under hb2
  have gb := i2.box
  unfold termZ at gb
  have r0 : (W2).cell? ⟨W.heap.size, 0, none⟩ = some (.int .i8 0) := cell_of_row gb rfl
  have r1 : (W2).cell? ⟨W.heap.size, 1, none⟩ = some (.int .i64 0) := cell_of_row gb rfl
  have r2 : (W2).cell? ⟨W.heap.size, 2, none⟩ = some (.string ⟨#[]⟩) := cell_of_row gb rfl
  have r3 : (W2).cell? ⟨W.heap.size, 3, none⟩ = some (.string ⟨#[]⟩) := cell_of_row gb rfl
  have r4 : (W2).cell? ⟨W.heap.size, 4, none⟩ = some (.slice none 0 0) := cell_of_row gb rfl
  have f0 : (W2).frozen? ⟨W.heap.size, 0, none⟩ = false := free_of_row gb
  have f1 : (W2).frozen? ⟨W.heap.size, 1, none⟩ = false := free_of_row gb
  have f2 : (W2).frozen? ⟨W.heap.size, 2, none⟩ = false := free_of_row gb
  have f3 : (W2).frozen? ⟨W.heap.size, 3, none⟩ = false := free_of_row gb
  have f4 : (W2).frozen? ⟨W.heap.size, 4, none⟩ = false := free_of_row gb
  have x0 : (W2).cell? ⟨W1.heap.size, 0, none⟩ = some (.int .i8 kz) := cell_of_row g2 rfl
  have x1 : (W2).cell? ⟨W1.heap.size, 1, none⟩ = some (.int .i64 nz) := cell_of_row g2 rfl
  have x2 : (W2).cell? ⟨W1.heap.size, 2, none⟩ = some (.string sz) := cell_of_row g2 rfl
  have x3 : (W2).cell? ⟨W1.heap.size, 3, none⟩ = some (.string tz) := cell_of_row g2 rfl
  have x4 : (W2).cell? ⟨W1.heap.size, 4, none⟩ = some (.slice Az Lz.length capz) := cell_of_row g2 rfl
  have fx0 : (W2).frozen? ⟨W1.heap.size, 0, none⟩ = false := free_of_row g2
  have fx1 : (W2).frozen? ⟨W1.heap.size, 1, none⟩ = false := free_of_row g2
  have fx2 : (W2).frozen? ⟨W1.heap.size, 2, none⟩ = false := free_of_row g2
  have fx3 : (W2).frozen? ⟨W1.heap.size, 3, none⟩ = false := free_of_row g2
  have fx4 : (W2).frozen? ⟨W1.heap.size, 4, none⟩ = false := free_of_row g2
  have S5 := Lib.hid (set_five (.int .i8 kz) (.int .i64 nz) (.string sz) (.string tz) (.slice Az Lz.length capz) gb)
  have I2 := Lib.hid i2
  have HT := Lib.hid hT
  have HM2 := Lib.hid m2
  have HBG := Lib.hid hbg
  clear hT hrs1 hm1 i1 hb2 i2 gb g2 m2 hbg hzk hz
  subst hW2
  have HB2 := True.intro
  by_cases h6 : kz = 6
  · subst h6
    go_wp2_with fail
    obtain ⟨s5, m5⟩ := S5.out
    generalize ((((((W1.alloc (.cells #[(.int .i8 6), (.int .i64 nz), (.string sz), (.string tz), (.slice Az Lz.length capz)] 25)).setCell ⟨W.heap.size, 0, none⟩ (.int .i8 6)).setCell ⟨W.heap.size, 1, none⟩ (.int .i64 nz)).setCell ⟨W.heap.size, 2, none⟩ (.string sz)).setCell ⟨W.heap.size, 3, none⟩ (.string tz)).setCell ⟨W.heap.size, 4, none⟩ (.slice Az Lz.length capz)) = VX at s5 m5 ⊢
    have z0 : VX.cell? ⟨W.heap.size, 0, none⟩ = some (.int .i8 6) := cell_of_row s5 rfl
    have z1 : VX.cell? ⟨W.heap.size, 1, none⟩ = some (.int .i64 nz) := cell_of_row s5 rfl
    have z2 : VX.cell? ⟨W.heap.size, 2, none⟩ = some (.string sz) := cell_of_row s5 rfl
    have z3 : VX.cell? ⟨W.heap.size, 3, none⟩ = some (.string tz) := cell_of_row s5 rfl
    have z4 : VX.cell? ⟨W.heap.size, 4, none⟩ = some (.slice Az Lz.length capz) := cell_of_row s5 rfl
    refine bodyPost_ret (v := .tuple #[.agg #[(.int .i8 6), (.int .i64 nz), (.string sz), (.string tz), (.slice Az Lz.length capz)], (.int .i64 2)]) (by simp [results, Tryd.f95, go_sem, z0, z1, z2, z3, z4]) rfl ?_
    obtain ⟨hr9, hm9⟩ := I2.out.done HRB.out m5
    have zb := I0.out.mod.size
    have zz := Z0.out
    have z2 := HM2.out.size
    have zx := m5.size
    have hrb := HRB.out
    have hfin := HT.out.keep (w' := VX) (Q := fun b => W.heap.size ≤ b ∧ b < VX.heap.size) (fun b hb => (m5.block b (by omega) (by omega)).trans (HM2.out.block b (by omega) (fun h => h))) (fun b hb => ⟨by omega, by omega⟩)
    have hzk := HZK.out
    exact ⟨_, bg', by rw [HER.out, hzk]; rfl, hfin, hr9, HBG.out, hm9⟩
  · have h6b : (kz == 6) = false := by rw [beq_eq_false_iff_ne]; exact h6
    by_cases h7 : kz = 7
    · subst h7
      go_wp2_with fail
      obtain ⟨s5, m5⟩ := S5.out
      generalize ((((((W1.alloc (.cells #[(.int .i8 7), (.int .i64 nz), (.string sz), (.string tz), (.slice Az Lz.length capz)] 25)).setCell ⟨W.heap.size, 0, none⟩ (.int .i8 7)).setCell ⟨W.heap.size, 1, none⟩ (.int .i64 nz)).setCell ⟨W.heap.size, 2, none⟩ (.string sz)).setCell ⟨W.heap.size, 3, none⟩ (.string tz)).setCell ⟨W.heap.size, 4, none⟩ (.slice Az Lz.length capz)) = VX at s5 m5 ⊢
      have z0 : VX.cell? ⟨W.heap.size, 0, none⟩ = some (.int .i8 7) := cell_of_row s5 rfl
      have z1 : VX.cell? ⟨W.heap.size, 1, none⟩ = some (.int .i64 nz) := cell_of_row s5 rfl
      have z2 : VX.cell? ⟨W.heap.size, 2, none⟩ = some (.string sz) := cell_of_row s5 rfl
      have z3 : VX.cell? ⟨W.heap.size, 3, none⟩ = some (.string tz) := cell_of_row s5 rfl
      have z4 : VX.cell? ⟨W.heap.size, 4, none⟩ = some (.slice Az Lz.length capz) := cell_of_row s5 rfl
      refine bodyPost_ret (v := .tuple #[.agg #[(.int .i8 7), (.int .i64 nz), (.string sz), (.string tz), (.slice Az Lz.length capz)], (.int .i64 2)]) (by simp [results, Tryd.f95, go_sem, z0, z1, z2, z3, z4]) rfl ?_
      obtain ⟨hr9, hm9⟩ := I2.out.done HRB.out m5
      have zb := I0.out.mod.size
      have zz := Z0.out
      have z2 := HM2.out.size
      have zx := m5.size
      have hrb := HRB.out
      have hfin := HT.out.keep (w' := VX) (Q := fun b => W.heap.size ≤ b ∧ b < VX.heap.size) (fun b hb => (m5.block b (by omega) (by omega)).trans (HM2.out.block b (by omega) (fun h => h))) (fun b hb => ⟨by omega, by omega⟩)
      have hzk := HZK.out
      exact ⟨_, bg', by rw [HER.out, hzk]; rfl, hfin, hr9, HBG.out, hm9⟩
    · have h7b : (kz == 7) = false := by rw [beq_eq_false_iff_ne]; exact h7
      have hno : ¬ (kz = 6 ∨ kz = 7) := fun h => h.elim h6 h7
      go_wp2_with fail
      obtain ⟨s5, m5⟩ := S5.out
      generalize ((((((W1.alloc (.cells #[(.int .i8 kz), (.int .i64 nz), (.string sz), (.string tz), (.slice Az Lz.length capz)] 25)).setCell ⟨W.heap.size, 0, none⟩ (.int .i8 kz)).setCell ⟨W.heap.size, 1, none⟩ (.int .i64 nz)).setCell ⟨W.heap.size, 2, none⟩ (.string sz)).setCell ⟨W.heap.size, 3, none⟩ (.string tz)).setCell ⟨W.heap.size, 4, none⟩ (.slice Az Lz.length capz)) = VX at s5 m5 ⊢
      have z0 : VX.cell? ⟨W.heap.size, 0, none⟩ = some (.int .i8 kz) := cell_of_row s5 rfl
      have z1 : VX.cell? ⟨W.heap.size, 1, none⟩ = some (.int .i64 nz) := cell_of_row s5 rfl
      have z2 : VX.cell? ⟨W.heap.size, 2, none⟩ = some (.string sz) := cell_of_row s5 rfl
      have z3 : VX.cell? ⟨W.heap.size, 3, none⟩ = some (.string tz) := cell_of_row s5 rfl
      have z4 : VX.cell? ⟨W.heap.size, 4, none⟩ = some (.slice Az Lz.length capz) := cell_of_row s5 rfl
      refine bodyPost_ret (v := .tuple #[.agg #[(.int .i8 kz), (.int .i64 nz), (.string sz), (.string tz), (.slice Az Lz.length capz)], (.int .i64 0)]) (by simp [results, Tryd.f95, go_sem, z0, z1, z2, z3, z4]) rfl ?_
      obtain ⟨hr9, hm9⟩ := I2.out.done HRB.out m5
      have zb := I0.out.mod.size
      have zz := Z0.out
      have z2 := HM2.out.size
      have zx := m5.size
      have hrb := HRB.out
      have hfin := HT.out.keep (w' := VX) (Q := fun b => W.heap.size ≤ b ∧ b < VX.heap.size) (fun b hb => (m5.block b (by omega) (by omega)).trans (HM2.out.block b (by omega) (fun h => h))) (fun b hb => ⟨by omega, by omega⟩)
      have hzk := HZK.out
      exact ⟨_, bg', by rw [HER.out, hzk]; rw [if_neg hno], hfin, hr9, HBG.out, hm9⟩
end Go.Proofs.YtohbljgagbnjoaaDoor
