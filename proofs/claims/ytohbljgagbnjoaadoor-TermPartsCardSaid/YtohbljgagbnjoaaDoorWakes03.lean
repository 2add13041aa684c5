/- What the chapter of layer 3 says of a text, and of two kinds: the walk of wakes. -/
import Derived.Test.YtohbljgagbnjoaaDoorRdRead
import Derived.Test.YtohbljgagbnjoaaDoorRdBad
import Derived.Test.YtohbljgagbnjoaaDoorOrd
set_option linter.unusedVariables false
namespace Go.Proofs.YtohbljgagbnjoaaDoor
open Go.RowKit

theorem good_nil : Good [] := ⟨fun c t h => (by cases h), rfl⟩

set_option maxHeartbeats 4000000 in
set_option maxRecDepth 100000 in
/-- Read, where part answers 2. -/
theorem Read_bad (s : ByteArray) (w : World)
    (hC : ∀ W, RS w (w.heap.size + 1) s 0 0 W → Calls Tryd.prog 42 #[.pointer (some ⟨w.heap.size + 1, 0, none⟩)] W fun e W' => ∃ (P : Nat → Prop) (x : Tm) (tv : Value) (q bg' : Nat), e = .returned (.tuple #[tv, .int .i64 2]) ∧ TmAt P W' x tv ∧ RS w (w.heap.size + 1) s q bg' W' ∧ Mod (fun k => k = w.heap.size + 1) W W') :
    Calls Tryd.prog 15 #[.string s] w fun e w' => e = .returned (.tuple #[.agg #[.int .i8 0, .int .i64 0, .string ⟨#[]⟩, .string ⟨#[]⟩, .slice none 0 0], .int .i64 0, .int .i64 2]) ∧ Below w.heap.size w w' := by
  obtain ⟨w1, hw1⟩ : ∃ w1, w1 = (w.alloc termZ).alloc (.cells #[.string s, .int .i64 0, .int .i64 0] 74) := ⟨_, rfl⟩
  have z1 : (w.alloc termZ).heap.size = w.heap.size + 1 := World.size_alloc _ _
  have b1 : Below w.heap.size w w1 := by rw [hw1]; exact ((Below.refl _ w).alloc (Nat.le_refl _) _).alloc (by simp) _
  have gb : w1.heap[w.heap.size]? = some termZ := by rw [hw1, Below.heap_alloc _ _ _ (by omega)]; exact block_alloc _ _
  have gr : w1.heap[w.heap.size + 1]? = some (.cells #[.string s, .int .i64 ((0 : Nat) : Int), .int .i64 ((0 : Nat) : Int)] 74 (0, 0)) := by rw [hw1, ← z1]; exact block_alloc _ _
  have hrs : RS w (w.heap.size + 1) s 0 0 w1 := ⟨gr, b1, by omega⟩
  have HC := Lib.hid (hC w1 hrs)
  have HGB := Lib.hid gb
  have HW1 := Lib.hid hw1
  have HB1 := Lib.hid b1
  clear hrs gr gb b1 z1 hC
  go_enter Tryd.func15, Tryd.ntmps15
  go_wp2_with fail
  have e1 := HW1.out
  unfold termZ at e1
  rw [← e1]
  clear e1 hw1
  refine HC.out.mono ?_
  rintro e V ⟨P, x, tv, q, bg', rfl, hT, h1, m1⟩
  obtain ⟨kz, nz, sz, tz, Lz, Az, capz, hzz, rfl⟩ : ∃ k' n' s' t' L' A' cap', x = Tm.mk k' n' s' t' L' ∧ tv = .agg #[.int .i8 k', .int .i64 n', .string s', .string t', .slice A' L'.length cap'] := by
    cases hT; exact ⟨_, _, _, _, _, _, _, rfl, rfl⟩
  clear hzz hT h1
  have gV : V.heap[w.heap.size]? = some termZ := (m1.block _ (heap_lt HGB.out) (by omega)).trans HGB.out
  unfold termZ at gV
  have r0 : V.cell? ⟨w.heap.size, 0, none⟩ = some (.int .i8 0) := cell_of_row gV rfl
  have r1 : V.cell? ⟨w.heap.size, 1, none⟩ = some (.int .i64 0) := cell_of_row gV rfl
  have r2 : V.cell? ⟨w.heap.size, 2, none⟩ = some (.string ⟨#[]⟩) := cell_of_row gV rfl
  have r3 : V.cell? ⟨w.heap.size, 3, none⟩ = some (.string ⟨#[]⟩) := cell_of_row gV rfl
  have r4 : V.cell? ⟨w.heap.size, 4, none⟩ = some (.slice none 0 0) := cell_of_row gV rfl
  have f0 : V.frozen? ⟨w.heap.size, 0, none⟩ = false := free_of_row gV
  have f1 : V.frozen? ⟨w.heap.size, 1, none⟩ = false := free_of_row gV
  have f2 : V.frozen? ⟨w.heap.size, 2, none⟩ = false := free_of_row gV
  have f3 : V.frozen? ⟨w.heap.size, 3, none⟩ = false := free_of_row gV
  have f4 : V.frozen? ⟨w.heap.size, 4, none⟩ = false := free_of_row gV
  obtain ⟨s5, m5⟩ := set_five (.int .i8 kz) (.int .i64 nz) (.string sz) (.string tz) (.slice Az Lz.length capz) gV
  have x0 := cell_of_row (i := 0) s5 rfl
  have x1 := cell_of_row (i := 1) s5 rfl
  have x2 := cell_of_row (i := 2) s5 rfl
  have x3 := cell_of_row (i := 3) s5 rfl
  have x4 := cell_of_row (i := 4) s5 rfl
  have fx0 := free_of_row (i := 0) s5
  have fx1 := free_of_row (i := 1) s5
  have fx2 := free_of_row (i := 2) s5
  have fx3 := free_of_row (i := 3) s5
  have fx4 := free_of_row (i := 4) s5
  have S6 := Lib.hid (set_five (.int .i8 0) (.int .i64 0) (.string ⟨#[]⟩) (.string ⟨#[]⟩) (.slice none 0 0) s5)
  have M5 := Lib.hid m5
  have M1 := Lib.hid m1
  clear gV s5 m5 m1
  go_wp2_with fail
  obtain ⟨s6, m6⟩ := S6.out
  have z0 := cell_of_row (i := 0) s6 rfl
  have z1 := cell_of_row (i := 1) s6 rfl
  have z2 := cell_of_row (i := 2) s6 rfl
  have z3 := cell_of_row (i := 3) s6 rfl
  have z4 := cell_of_row (i := 4) s6 rfl
  refine bodyPost_ret (v := .tuple #[.agg #[.int .i8 0, .int .i64 0, .string ⟨#[]⟩, .string ⟨#[]⟩, .slice none 0 0], .int .i64 0, .int .i64 2]) (by simp [results, Tryd.f15, go_sem, z0, z1, z2, z3, z4]) rfl ⟨rfl, ?_⟩
  have k1 : Below w.heap.size w V := HB1.out.trans (M1.out.below HB1.out.size (fun k (e : k = _) => by omega))
  have zV := k1.size
  exact k1.trans ((M5.out.below zV (fun k (e : k = _) => by omega)).trans (m6.below (by have := M5.out.size; omega) (fun k (e : k = _) => by omega)))

def aT : Tm := .mk 1 0 ⟨#[97]⟩ ⟨#[]⟩ []
def bT : Tm := .mk 1 0 ⟨#[98]⟩ ⟨#[]⟩ []
def iT (n : Int) : Tm := .mk 0 n ⟨#[]⟩ ⟨#[]⟩ []
def wT : Tm := .mk 5 0 ⟨#[]⟩ ⟨#[]⟩ [aT, .mk 7 0 ⟨#[]⟩ ⟨#[]⟩ [iT 1, .mk 7 0 ⟨#[]⟩ ⟨#[]⟩ [iT 2, bT]]]
def uT : Tm := .mk 7 0 ⟨#[]⟩ ⟨#[]⟩ [bT, nilT]
theorem wT_text : txt wT = [123, 97, 44, 91, 49, 44, 50, 124, 98, 93, 125] := by decide +kernel
theorem wT_check : checkN wT = 0 := by decide +kernel
theorem uT_text : txt uT = [91, 98, 93] := by decide +kernel
theorem uT_check : checkN uT = 0 := by decide +kernel
theorem aT_text : txt aT = [97] := by decide +kernel
theorem aT_check : checkN aT = 0 := by decide +kernel
theorem wT_comp : compN (iT 3) aT = -1 := by decide +kernel

theorem wT_shape {P : Nat → Prop} {w : World} {v : Value} (h : TmAt P w wT v) : ∃ (ad : Addr) (cap : Nat), v = .agg #[.int .i8 5, .int .i64 0, .string ⟨#[]⟩, .string ⟨#[]⟩, .slice (some ad) 2 cap] ∧ P ad.block ∧ w.cell? ⟨ad.block, ad.off + 5, none⟩ = some (.int .i8 7) := by
  obtain ⟨A, cap, rfl, hR, -⟩ := h.parts
  obtain ⟨ad, u, rfl, hp, hE, hT⟩ := hR.at_ 1 _ rfl
  obtain ⟨A', cap', rfl, -⟩ := hT.parts
  obtain ⟨c0, c1, c2, c3, c4, hc, e0, -⟩ := hE
  simp only [Value.agg.injEq, Array.mk.injEq, List.cons.injEq, and_true] at hc
  obtain ⟨rfl, -⟩ := hc
  exact ⟨ad, cap, rfl, hp, by have ea : ad.add (1 * 5) = ⟨ad.block, ad.off + 5, none⟩ := by simp [Addr.add]
                              rwa [ea] at e0⟩

set_option maxRecDepth 100000 in
theorem part_bad_w (w : World) (hS : Spans w) (hp : PowTab w) (W : World) (h : RS w (w.heap.size + 1) ⟨#[91, 97, 124, 91, 98, 93, 93]⟩ 0 0 W) :
    Calls Tryd.prog 42 #[.pointer (some ⟨w.heap.size + 1, 0, none⟩)] W fun e W' => ∃ (P : Nat → Prop) (x : Tm) (tv : Value) (q bg' : Nat), e = .returned (.tuple #[tv, .int .i64 2]) ∧ TmAt P W' x tv ∧ RS w (w.heap.size + 1) ⟨#[91, 97, 124, 91, 98, 93, 93]⟩ q bg' W' ∧ Mod (fun k => k = w.heap.size + 1) W W' := by
  have hsz : (⟨#[91, 97, 124, 91, 98, 93, 93]⟩ : ByteArray).size ≤ 1099511627776 := by decide
  obtain ⟨aV, aN⟩ := check_valid aT_check
  obtain ⟨uV, uN⟩ := check_valid uT_check
  have hRO : ∀ x : Tm, Valid x → ReadOf w ⟨#[91, 97, 124, 91, 98, 93, 93]⟩ x := fun x hx => read_of hS hp hsz _ x (Nat.le_refl _) hx
  refine (part_bad (rollT [aT] uT) h hS hsz (by decide) (c := 91) (r := [97, 124, 91, 98, 93, 93]) rfl (by decide) rfl (q := 0 + 1 + (joinC ([aT].map txt)).length + 1 + (txt uT).length) (bgx := 1 + (Tm.pres [aT]).length + uT.nodes) (fun V hV => ?_)).mono ?_
  · refine (list_bad [aT] (by simp) (fun y hy => by simp at hy; subst hy; exact aV) (fun y hy => by simp at hy; subst hy; exact hRO _ aV) uT (hRO _ uV) (.inr rfl) hV hsz (r := []) (by rw [uT_text]; show _ = 91 :: (txt aT ++ _); rw [aT_text]; rfl) (by decide +kernel) (by decide)).mono ?_
    exact fun e W' h => h
  · rintro e W' ⟨tv, bg', rfl, hT, h1, -, m1⟩
    exact ⟨_, _, tv, _, bg', rfl, hT, h1, m1⟩

set_option maxHeartbeats 4000000 in
set_option maxRecDepth 100000 in
theorem wakes_ok (w : World) (hS : Spans w) (hp : PowTab w) : Calls Tryd.prog 11 #[] w fun e w' => e = .returned (.bool true) ∧ Below w.heap.size w w' := by
  obtain ⟨wV, wN⟩ := check_valid wT_check
  have R1 := Lib.hid (Read_ok wT wV wN ⟨#[123, 97, 44, 91, 49, 44, 50, 124, 98, 93, 125]⟩ (by decide) (r := []) (by rw [wT_text]; rfl) good_nil w hS hp)
  have hlen : (txt wT).length = 11 := by rw [wT_text]; rfl
  have HLEN := Lib.hid hlen
  have HSP := Lib.hid hS
  have HPW := Lib.hid hp
  clear hlen wV wN hS hp
  go_enter Tryd.func11, Tryd.ntmps11
  go_wp2_with fail
  refine R1.out.mono ?_
  rintro e w1 ⟨tv, rfl, hT, b1⟩
  rw [HLEN.out]
  obtain ⟨ad, cap, rfl, hpa, hca⟩ := wT_shape hT
  obtain ⟨W1, hW1⟩ : ∃ W1, W1 = w1.alloc (.cells #[.int .i8 5, .int .i64 0, .string ⟨#[]⟩, .string ⟨#[]⟩, .slice (some ad) 2 cap] 25) := ⟨_, rfl⟩
  have bW1 : Below w1.heap.size w1 W1 := by rw [hW1]; exact (Below.refl _ _).alloc (Nat.le_refl _) _
  have gW1 : W1.heap[w1.heap.size]? = some (.cells #[.int .i8 5, .int .i64 0, .string ⟨#[]⟩, .string ⟨#[]⟩, .slice (some ad) 2 cap] 25 (0, 0)) := by rw [hW1]; exact block_alloc _ _
  have B1 : Below w.heap.size w W1 := b1.trans (bW1.mono b1.size)
  have hT1 : TmAt (fun b => b < W1.heap.size) W1 wT _ := hT.keep (fun b hb => bW1.block b hb.2) (fun b hb => by have := bW1.size; have := hb.2; omega)
  have hS1 : Spans W1 := HSP.out.below B1 HSP.out.lt
  have hp1 : PowTab W1 := Go.Lib.tabBelow_of_tabIs HPW.out _ B1
  have hca1 : W1.cell? ⟨ad.block, ad.off + 5, none⟩ = some (.int .i8 7) := (World.cell?_of_block (w := w1) (a := ⟨ad.block, ad.off + 5, none⟩) (bW1.block _ hpa.2)).trans hca
  have R2 := Lib.hid (Read_bad ⟨#[91, 97, 124, 91, 98, 93, 93]⟩ W1 (part_bad_w W1 hS1 hp1))
  have HT1 := Lib.hid hT1
  have HB1 := Lib.hid B1
  have HG1 := Lib.hid gW1
  have HC1 := Lib.hid hca1
  have HPA : Hid (ad.block < W1.heap.size) := by have := bW1.size; have := hpa.2; exact (by omega : ad.block < W1.heap.size)
  clear hT hT1 B1 b1 bW1 gW1 hS1 hp1 hca hca1 hpa
  go_wp2_with fail
  rw [← hW1]
  clear hW1
  refine R2.out.mono ?_
  rintro e w2 ⟨rfl, b2⟩
  obtain ⟨W2, hW2⟩ : ∃ W2, W2 = w2.alloc (.cells #[.int .i8 0, .int .i64 0, .string ⟨#[]⟩, .string ⟨#[]⟩, .slice none 0 0] 25) := ⟨_, rfl⟩
  have B2 : Below W1.heap.size W1 W2 := by rw [hW2]; exact b2.alloc b2.size _
  have g2 : W2.heap[w1.heap.size]? = _ := (B2.block _ (heap_lt HG1.out)).trans HG1.out
  have x0 : W2.cell? ⟨w1.heap.size, 0, none⟩ = some (.int .i8 5) := cell_of_row g2 rfl
  have x1 : W2.cell? ⟨w1.heap.size, 1, none⟩ = some (.int .i64 0) := cell_of_row g2 rfl
  have x2 : W2.cell? ⟨w1.heap.size, 2, none⟩ = some (.string ⟨#[]⟩) := cell_of_row g2 rfl
  have x3 : W2.cell? ⟨w1.heap.size, 3, none⟩ = some (.string ⟨#[]⟩) := cell_of_row g2 rfl
  have x4 : W2.cell? ⟨w1.heap.size, 4, none⟩ = some (.slice (some ad) 2 cap) := cell_of_row g2 rfl
  have x5 : W2.cell? ⟨ad.block, ad.off + 5, none⟩ = some (.int .i8 7) := (World.cell?_of_block (w := W1) (a := ⟨ad.block, ad.off + 5, none⟩) (B2.block _ HPA.out)).trans HC1.out
  have hBB : Below w.heap.size w W2 := HB1.out.trans (B2.mono HB1.out.size)
  have hS2 : Spans W2 := HSP.out.below hBB HSP.out.lt
  have hp2 : PowTab W2 := Go.Lib.tabBelow_of_tabIs HPW.out _ hBB
  have hT2 : TmAt (· < W2.heap.size) W2 wT (.agg #[.int .i8 5, .int .i64 0, .string ⟨#[]⟩, .string ⟨#[]⟩, .slice (some ad) 2 cap]) := HT1.out.keep (fun b hb => B2.block b hb) (fun b hb => Nat.lt_of_lt_of_le hb B2.size)
  have TX := Text_any wT _ W2 hT2 hS2 hp2
  rw [show textN wT = [123, 97, 44, 91, 49, 44, 50, 124, 98, 93, 125] by unfold textN; rw [if_pos wT_check, wT_text]] at TX
  have HTX := Lib.hid TX
  have HBB := Lib.hid hBB
  clear g2 b2 B2 hS2 hp2 hT2 TX hBB
  subst hW2
  go_wp2_with fail
  refine HTX.out.mono ?_
  rintro e w3 ⟨rfl, b3⟩
  have hB3 : Below w.heap.size w w3 := HBB.out.trans (b3.mono HBB.out.size)
  have CP := Compare_any (iT 3) aT (.agg #[.int .i8 0, .int .i64 3, .string ⟨#[]⟩, .string ⟨#[]⟩, .slice none 0 0]) (.agg #[.int .i8 1, .int .i64 0, .string ⟨#[97]⟩, .string ⟨#[]⟩, .slice none 0 0]) w3 (leaf_at _ _ (by omega) (by omega) (by show 0 ≤ maxLen; omega) (by show 0 ≤ maxLen; omega)) (leaf_at _ _ (by omega) (by omega) (by decide) (by show 0 ≤ maxLen; omega)) (HSP.out.below hB3 HSP.out.lt)
  rw [wT_comp] at CP
  have HCP := Lib.hid CP
  have HB3 := Lib.hid hB3
  clear CP hB3 b3 x0 x1 x2 x3 x4 x5
  go_wp2_with fail
  refine HCP.out.mono ?_
  rintro e w4 ⟨rfl, b4⟩
  go_wp2_with fail
  go_ret
  exact ⟨rfl, HB3.out.trans (b4.mono HB3.out.size)⟩
end Go.Proofs.YtohbljgagbnjoaaDoor
