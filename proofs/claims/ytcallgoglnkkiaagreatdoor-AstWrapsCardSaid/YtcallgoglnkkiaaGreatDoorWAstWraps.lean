/- The law AstWraps from contracts. -/
import Derived.Test.YtcallgoglnkkiaaGreatDoorWakes07
import Derived.Test.YtcallgoglnkkiaaGreatDoorAstV
import Derived.Test.YtcallgoglnkkiaaGreatDoorOpenN
import Derived.Deep.RegionHeld
import Derived.OrdersHeld
set_option linter.unusedVariables false
namespace Go.Proofs.YtcallgoglnkkiaaGreatDoor
open Go.RowKit

def SizeC (E : World → Prop) : Prop := ∀ (x : Tm) (v : Value) (w : World), TmAt (· < w.heap.size) w x v → (4096 < x.nodes → FreeT w x v) → x.nodes ≤ 8200 → E w →
  Calls Tryz.prog 18 #[v] w fun e w' => ∃ d : Nat, e = .returned (.tuple #[.int .i64 (min x.nodes 4097 : Nat), .int .i64 d]) ∧ (x.nodes ≤ 4096 → d = min x.deep 65) ∧ d ≤ 65 ∧ Below w.heap.size w w'

set_option maxRecDepth 100000 in
set_option maxHeartbeats 8000000 in
theorem astWraps_of {E : World → Prop} (hE : ∀ w w', E w → Below w.heap.size w w' → E w') (hWk : WakesC E) (hSz : SizeC E) (hPat : BoolC E 12 patB) (hExp : BoolC E 13 exprB) (hGua : BoolC E 14 guaB)
    (hCls : ClauseC E) (x : Tm) (v : Value) (w : World) (hT : TmAt (· < w.heap.size) w x v) (hF : FreeT w x v) (hw : E w) :
    Calls Tryz.prog 6 #[v] w fun e w' => e = .returned (.bool true) ∧ Below w.heap.size w w' := by
  obtain ⟨k, n, s, t, l⟩ := x
  obtain ⟨A, cap, rfl, hR, hk, hn, hs, ht⟩ := hT.parts
  have hlen := hR.max
  unfold maxLen at hlen
  obtain ⟨X, hX⟩ : ∃ X, X = Tm.mk k n s t l := ⟨_, rfl⟩
  rw [← hX] at hT hF
  have HT := Lib.hid hT
  have HF := Lib.hid hF
  clear hF
  have HEE := Lib.hid hE
  have HWK := Lib.hid hWk
  have HSZ := Lib.hid hSz
  have HP := Lib.hid hPat
  have HXP := Lib.hid hExp
  have HG := Lib.hid hGua
  have HCL := Lib.hid hCls
  have hb1 := nbx_of hE hw #[.int .i8 k, .int .i64 n, .string s, .string t, .slice A l.length cap]
  have HB1 := Lib.hid hb1
  have x0 : (w.alloc (.cells #[.int .i8 k, .int .i64 n, .string s, .string t, .slice A l.length cap] 25)).cell? ⟨w.heap.size, 0, none⟩ = some (.int .i8 k) := cell_of_row hb1.box rfl
  have x1 : (w.alloc (.cells #[.int .i8 k, .int .i64 n, .string s, .string t, .slice A l.length cap] 25)).cell? ⟨w.heap.size, 1, none⟩ = some (.int .i64 n) := cell_of_row hb1.box rfl
  have x2 : (w.alloc (.cells #[.int .i8 k, .int .i64 n, .string s, .string t, .slice A l.length cap] 25)).cell? ⟨w.heap.size, 2, none⟩ = some (.string s) := cell_of_row hb1.box rfl
  have x3 : (w.alloc (.cells #[.int .i8 k, .int .i64 n, .string s, .string t, .slice A l.length cap] 25)).cell? ⟨w.heap.size, 3, none⟩ = some (.string t) := cell_of_row hb1.box rfl
  have x4 : (w.alloc (.cells #[.int .i8 k, .int .i64 n, .string s, .string t, .slice A l.length cap] 25)).cell? ⟨w.heap.size, 4, none⟩ = some (.slice A l.length cap) := cell_of_row hb1.box rfl
  clear hX hT hR hE hWk hSz hPat hExp hGua hCls hb1 hw
  go_enter Tryz.func6, Tryz.ntmps6
  go_wp2_with fail
  generalize w.alloc (.cells #[.int .i8 k, .int .i64 n, .string s, .string t, .slice A l.length cap] 25) = w1 at HB1 x0 x1 x2 x3 x4 ⊢
  refine (GreatN_any X _ w1 (HT.out.laterN HB1.out.below)).mono ?_
  rintro e w2 ⟨b, rfl, hb, bw2⟩
  have HB2 := Lib.hid (HB1.out.under HEE.out bw2)
  clear bw2 x0 x1 x2 x3 x4
  have x0 : w2.cell? ⟨w.heap.size, 0, none⟩ = some (.int .i8 k) := cell_of_row HB2.out.box rfl
  have x1 : w2.cell? ⟨w.heap.size, 1, none⟩ = some (.int .i64 n) := cell_of_row HB2.out.box rfl
  have x2 : w2.cell? ⟨w.heap.size, 2, none⟩ = some (.string s) := cell_of_row HB2.out.box rfl
  have x3 : w2.cell? ⟨w.heap.size, 3, none⟩ = some (.string t) := cell_of_row HB2.out.box rfl
  have x4 : w2.cell? ⟨w.heap.size, 4, none⟩ = some (.slice A l.length cap) := cell_of_row HB2.out.box rfl
  cases b with
  | true =>
    go_wp2_with fail
    refine (HWK.out w2 HB2.out.env).mono ?_
    rintro e w3 ⟨rfl, b3⟩
    go_wp2_with fail
    go_ret
    exact ⟨rfl, HB2.out.below.trans (b3.mono HB2.out.below.size)⟩
  | false =>
    have HN : Hid (X.nodes ≤ 8200) := by have := hb rfl; show _ ≤ _; omega
    clear hb
    go_wp2_with fail
    refine (HSZ.out X _ w2 (HT.out.laterN HB2.out.below) (fun _ => HF.out.keep HT.out (fun b hb => HB2.out.below.block b hb)) (by have := HN.out; omega) HB2.out.env).mono ?_
    rintro e w3 ⟨d, rfl, hd, hdb, b3⟩
    have HB3 := Lib.hid (HB2.out.under HEE.out b3)
    clear b3 x0 x1 x2 x3 x4
    obtain ⟨a, ha⟩ : ∃ a : Nat, a = min X.nodes 4097 := ⟨_, rfl⟩
    rw [← ha]
    have HA := Lib.hid ha
    have HD := Lib.hid hd
    have hab : a ≤ 4097 := by omega
    clear ha hd
    by_cases hbig : 4096 < (a : Int) + 6
    · go_wp2_with fail
      refine (HWK.out w3 HB3.out.env).mono ?_
      rintro e w4 ⟨rfl, b4⟩
      go_wp2_with fail
      go_ret
      exact ⟨rfl, HB3.out.below.trans (b4.mono HB3.out.below.size)⟩
    by_cases hdeep : 64 < (d : Int) + 3
    · go_wp2_with fail
      refine (HWK.out w3 HB3.out.env).mono ?_
      rintro e w4 ⟨rfl, b4⟩
      go_wp2_with fail
      go_ret
      exact ⟨rfl, HB3.out.below.trans (b4.mono HB3.out.below.size)⟩
    have HNN : Hid (X.nodes + 6 ≤ 4096 ∧ X.deep + 3 ≤ 64) := by show _ ∧ _; have h1 := HA.out; have h2 := HD.out (by omega); omega
    have x0 : w3.cell? ⟨w.heap.size, 0, none⟩ = some (.int .i8 k) := cell_of_row HB3.out.box rfl
    have x1 : w3.cell? ⟨w.heap.size, 1, none⟩ = some (.int .i64 n) := cell_of_row HB3.out.box rfl
    have x2 : w3.cell? ⟨w.heap.size, 2, none⟩ = some (.string s) := cell_of_row HB3.out.box rfl
    have x3 : w3.cell? ⟨w.heap.size, 3, none⟩ = some (.string t) := cell_of_row HB3.out.box rfl
    have x4 : w3.cell? ⟨w.heap.size, 4, none⟩ = some (.slice A l.length cap) := cell_of_row HB3.out.box rfl
    obtain ⟨a1, z1⟩ := here_of (.cells #[.int .i8 k, .int .i64 n, .string s, .string t, .slice A l.length cap, .int .i8 8, .int .i64 0, .string ⟨#[]⟩, .string ⟨#[]⟩, .slice none 0 0] 25) (rfl : w3.heap.size = w3.heap.size)
    obtain ⟨a2, z2⟩ := here_of (.cells #[.int .i8 0, .int .i64 0, .string ⟨#[]⟩, .string ⟨#[]⟩, .slice none 0 0] 25) z1
    obtain ⟨a3, z3⟩ := here_of (.cells #[.int .i8 10, .int .i64 0, .string ⟨#[]⟩, .string ⟨#[]⟩, .slice (some ⟨w3.heap.size, 0, none⟩) 2 2] 25) z1
    have a4 := there_of (.cells #[.int .i8 10, .int .i64 0, .string ⟨#[]⟩, .string ⟨#[]⟩, .slice (some ⟨w3.heap.size, 0, none⟩) 2 2] 25) a1
    have z0 : ((w3.alloc (.cells #[.int .i8 k, .int .i64 n, .string s, .string t, .slice A l.length cap, .int .i8 8, .int .i64 0, .string ⟨#[]⟩, .string ⟨#[]⟩, .slice none 0 0] 25)).alloc (.cells #[.int .i8 0, .int .i64 0, .string ⟨#[]⟩, .string ⟨#[]⟩, .slice none 0 0] 25)).cell? ⟨w3.heap.size + 1, 0, none⟩ = some (.int .i8 0) := cell_of_row a2 rfl
    have zf0 : ((w3.alloc (.cells #[.int .i8 k, .int .i64 n, .string s, .string t, .slice A l.length cap, .int .i8 8, .int .i64 0, .string ⟨#[]⟩, .string ⟨#[]⟩, .slice none 0 0] 25)).alloc (.cells #[.int .i8 0, .int .i64 0, .string ⟨#[]⟩, .string ⟨#[]⟩, .slice none 0 0] 25)).frozen? ⟨w3.heap.size + 1, 0, none⟩ = false := free_of_row a2
    have z1 : ((w3.alloc (.cells #[.int .i8 k, .int .i64 n, .string s, .string t, .slice A l.length cap, .int .i8 8, .int .i64 0, .string ⟨#[]⟩, .string ⟨#[]⟩, .slice none 0 0] 25)).alloc (.cells #[.int .i8 0, .int .i64 0, .string ⟨#[]⟩, .string ⟨#[]⟩, .slice none 0 0] 25)).cell? ⟨w3.heap.size + 1, 1, none⟩ = some (.int .i64 0) := cell_of_row a2 rfl
    have zf1 : ((w3.alloc (.cells #[.int .i8 k, .int .i64 n, .string s, .string t, .slice A l.length cap, .int .i8 8, .int .i64 0, .string ⟨#[]⟩, .string ⟨#[]⟩, .slice none 0 0] 25)).alloc (.cells #[.int .i8 0, .int .i64 0, .string ⟨#[]⟩, .string ⟨#[]⟩, .slice none 0 0] 25)).frozen? ⟨w3.heap.size + 1, 1, none⟩ = false := free_of_row a2
    have z2 : ((w3.alloc (.cells #[.int .i8 k, .int .i64 n, .string s, .string t, .slice A l.length cap, .int .i8 8, .int .i64 0, .string ⟨#[]⟩, .string ⟨#[]⟩, .slice none 0 0] 25)).alloc (.cells #[.int .i8 0, .int .i64 0, .string ⟨#[]⟩, .string ⟨#[]⟩, .slice none 0 0] 25)).cell? ⟨w3.heap.size + 1, 2, none⟩ = some (.string ⟨#[]⟩) := cell_of_row a2 rfl
    have zf2 : ((w3.alloc (.cells #[.int .i8 k, .int .i64 n, .string s, .string t, .slice A l.length cap, .int .i8 8, .int .i64 0, .string ⟨#[]⟩, .string ⟨#[]⟩, .slice none 0 0] 25)).alloc (.cells #[.int .i8 0, .int .i64 0, .string ⟨#[]⟩, .string ⟨#[]⟩, .slice none 0 0] 25)).frozen? ⟨w3.heap.size + 1, 2, none⟩ = false := free_of_row a2
    have z3 : ((w3.alloc (.cells #[.int .i8 k, .int .i64 n, .string s, .string t, .slice A l.length cap, .int .i8 8, .int .i64 0, .string ⟨#[]⟩, .string ⟨#[]⟩, .slice none 0 0] 25)).alloc (.cells #[.int .i8 0, .int .i64 0, .string ⟨#[]⟩, .string ⟨#[]⟩, .slice none 0 0] 25)).cell? ⟨w3.heap.size + 1, 3, none⟩ = some (.string ⟨#[]⟩) := cell_of_row a2 rfl
    have zf3 : ((w3.alloc (.cells #[.int .i8 k, .int .i64 n, .string s, .string t, .slice A l.length cap, .int .i8 8, .int .i64 0, .string ⟨#[]⟩, .string ⟨#[]⟩, .slice none 0 0] 25)).alloc (.cells #[.int .i8 0, .int .i64 0, .string ⟨#[]⟩, .string ⟨#[]⟩, .slice none 0 0] 25)).frozen? ⟨w3.heap.size + 1, 3, none⟩ = false := free_of_row a2
    have z4 : ((w3.alloc (.cells #[.int .i8 k, .int .i64 n, .string s, .string t, .slice A l.length cap, .int .i8 8, .int .i64 0, .string ⟨#[]⟩, .string ⟨#[]⟩, .slice none 0 0] 25)).alloc (.cells #[.int .i8 0, .int .i64 0, .string ⟨#[]⟩, .string ⟨#[]⟩, .slice none 0 0] 25)).cell? ⟨w3.heap.size + 1, 4, none⟩ = some (.slice none 0 0) := cell_of_row a2 rfl
    have zf4 : ((w3.alloc (.cells #[.int .i8 k, .int .i64 n, .string s, .string t, .slice A l.length cap, .int .i8 8, .int .i64 0, .string ⟨#[]⟩, .string ⟨#[]⟩, .slice none 0 0] 25)).alloc (.cells #[.int .i8 0, .int .i64 0, .string ⟨#[]⟩, .string ⟨#[]⟩, .slice none 0 0] 25)).frozen? ⟨w3.heap.size + 1, 4, none⟩ = false := free_of_row a2
    have bb : Below w3.heap.size w3 ((w3.alloc (.cells #[.int .i8 k, .int .i64 n, .string s, .string t, .slice A l.length cap, .int .i8 8, .int .i64 0, .string ⟨#[]⟩, .string ⟨#[]⟩, .slice none 0 0] 25)).alloc (.cells #[.int .i8 10, .int .i64 0, .string ⟨#[]⟩, .string ⟨#[]⟩, .slice (some ⟨w3.heap.size, 0, none⟩) 2 2] 25)) := ((Below.refl _ _).alloc (Nat.le_refl _) _).alloc (by simp) _
    have Hv6 := Lib.hid (And.intro a4 (And.intro a3 bb))
    clear a1 a2 a3 a4 z1 z2 z3 bb
    go_upto_region 7 with fail
    generalize (w3.alloc (.cells #[.int .i8 k, .int .i64 n, .string s, .string t, .slice A l.length cap, .int .i8 8, .int .i64 0, .string ⟨#[]⟩, .string ⟨#[]⟩, .slice none 0 0] 25)).alloc (.cells #[.int .i8 10, .int .i64 0, .string ⟨#[]⟩, .string ⟨#[]⟩, .slice (some ⟨w3.heap.size, 0, none⟩) 2 2] 25) = v6 at Hv6 ⊢
    clear z0 zf0 z1 zf1 z2 zf2 z3 zf3 z4 zf4
    clear x0 x1 x2 x3 x4
    have HBv6 := Lib.hid (HB3.out.under HEE.out Hv6.out.2.2)
    have HTv6 : Hid (TmAt (· < v6.heap.size) v6 (tupT X) (.agg #[.int .i8 10, .int .i64 0, .string ⟨#[]⟩, .string ⟨#[]⟩, .slice (some ⟨w3.heap.size, 0, none⟩) 2 2])) := TmAt.of_row (k := 10) (n := 0) (s := ⟨#[]⟩) (t := ⟨#[]⟩) (l := [X, nilT]) (row2_of (P := fun b => b < v6.heap.size) Hv6.out.1 (heap_lt Hv6.out.1) (HT.out.laterN HBv6.out.below) (TmAt.leaf (· < v6.heap.size) v6 8 0 ⟨#[]⟩ (by omega) (by omega) (by decide))) (by omega) (by omega) (by decide) (by decide)
    have x0 : v6.cell? ⟨w.heap.size, 0, none⟩ = some (.int .i8 k) := cell_of_row HBv6.out.box rfl
    have x1 : v6.cell? ⟨w.heap.size, 1, none⟩ = some (.int .i64 n) := cell_of_row HBv6.out.box rfl
    have x2 : v6.cell? ⟨w.heap.size, 2, none⟩ = some (.string s) := cell_of_row HBv6.out.box rfl
    have x3 : v6.cell? ⟨w.heap.size, 3, none⟩ = some (.string t) := cell_of_row HBv6.out.box rfl
    have x4 : v6.cell? ⟨w.heap.size, 4, none⟩ = some (.slice A l.length cap) := cell_of_row HBv6.out.box rfl
    obtain ⟨a1, z1⟩ := here_of (.cells #[.int .i8 k, .int .i64 n, .string s, .string t, .slice A l.length cap, .int .i8 8, .int .i64 0, .string ⟨#[]⟩, .string ⟨#[]⟩, .slice none 0 0] 25) (rfl : v6.heap.size = v6.heap.size)
    obtain ⟨a2, z2⟩ := here_of (.cells #[.int .i8 0, .int .i64 0, .string ⟨#[]⟩, .string ⟨#[]⟩, .slice none 0 0] 25) z1
    obtain ⟨a3, z3⟩ := here_of (.cells #[.int .i8 9, .int .i64 0, .string ⟨#[]⟩, .string ⟨#[]⟩, .slice (some ⟨v6.heap.size, 0, none⟩) 2 2] 25) z1
    have a4 := there_of (.cells #[.int .i8 9, .int .i64 0, .string ⟨#[]⟩, .string ⟨#[]⟩, .slice (some ⟨v6.heap.size, 0, none⟩) 2 2] 25) a1
    have z0 : ((v6.alloc (.cells #[.int .i8 k, .int .i64 n, .string s, .string t, .slice A l.length cap, .int .i8 8, .int .i64 0, .string ⟨#[]⟩, .string ⟨#[]⟩, .slice none 0 0] 25)).alloc (.cells #[.int .i8 0, .int .i64 0, .string ⟨#[]⟩, .string ⟨#[]⟩, .slice none 0 0] 25)).cell? ⟨v6.heap.size + 1, 0, none⟩ = some (.int .i8 0) := cell_of_row a2 rfl
    have zf0 : ((v6.alloc (.cells #[.int .i8 k, .int .i64 n, .string s, .string t, .slice A l.length cap, .int .i8 8, .int .i64 0, .string ⟨#[]⟩, .string ⟨#[]⟩, .slice none 0 0] 25)).alloc (.cells #[.int .i8 0, .int .i64 0, .string ⟨#[]⟩, .string ⟨#[]⟩, .slice none 0 0] 25)).frozen? ⟨v6.heap.size + 1, 0, none⟩ = false := free_of_row a2
    have z1 : ((v6.alloc (.cells #[.int .i8 k, .int .i64 n, .string s, .string t, .slice A l.length cap, .int .i8 8, .int .i64 0, .string ⟨#[]⟩, .string ⟨#[]⟩, .slice none 0 0] 25)).alloc (.cells #[.int .i8 0, .int .i64 0, .string ⟨#[]⟩, .string ⟨#[]⟩, .slice none 0 0] 25)).cell? ⟨v6.heap.size + 1, 1, none⟩ = some (.int .i64 0) := cell_of_row a2 rfl
    have zf1 : ((v6.alloc (.cells #[.int .i8 k, .int .i64 n, .string s, .string t, .slice A l.length cap, .int .i8 8, .int .i64 0, .string ⟨#[]⟩, .string ⟨#[]⟩, .slice none 0 0] 25)).alloc (.cells #[.int .i8 0, .int .i64 0, .string ⟨#[]⟩, .string ⟨#[]⟩, .slice none 0 0] 25)).frozen? ⟨v6.heap.size + 1, 1, none⟩ = false := free_of_row a2
    have z2 : ((v6.alloc (.cells #[.int .i8 k, .int .i64 n, .string s, .string t, .slice A l.length cap, .int .i8 8, .int .i64 0, .string ⟨#[]⟩, .string ⟨#[]⟩, .slice none 0 0] 25)).alloc (.cells #[.int .i8 0, .int .i64 0, .string ⟨#[]⟩, .string ⟨#[]⟩, .slice none 0 0] 25)).cell? ⟨v6.heap.size + 1, 2, none⟩ = some (.string ⟨#[]⟩) := cell_of_row a2 rfl
    have zf2 : ((v6.alloc (.cells #[.int .i8 k, .int .i64 n, .string s, .string t, .slice A l.length cap, .int .i8 8, .int .i64 0, .string ⟨#[]⟩, .string ⟨#[]⟩, .slice none 0 0] 25)).alloc (.cells #[.int .i8 0, .int .i64 0, .string ⟨#[]⟩, .string ⟨#[]⟩, .slice none 0 0] 25)).frozen? ⟨v6.heap.size + 1, 2, none⟩ = false := free_of_row a2
    have z3 : ((v6.alloc (.cells #[.int .i8 k, .int .i64 n, .string s, .string t, .slice A l.length cap, .int .i8 8, .int .i64 0, .string ⟨#[]⟩, .string ⟨#[]⟩, .slice none 0 0] 25)).alloc (.cells #[.int .i8 0, .int .i64 0, .string ⟨#[]⟩, .string ⟨#[]⟩, .slice none 0 0] 25)).cell? ⟨v6.heap.size + 1, 3, none⟩ = some (.string ⟨#[]⟩) := cell_of_row a2 rfl
    have zf3 : ((v6.alloc (.cells #[.int .i8 k, .int .i64 n, .string s, .string t, .slice A l.length cap, .int .i8 8, .int .i64 0, .string ⟨#[]⟩, .string ⟨#[]⟩, .slice none 0 0] 25)).alloc (.cells #[.int .i8 0, .int .i64 0, .string ⟨#[]⟩, .string ⟨#[]⟩, .slice none 0 0] 25)).frozen? ⟨v6.heap.size + 1, 3, none⟩ = false := free_of_row a2
    have z4 : ((v6.alloc (.cells #[.int .i8 k, .int .i64 n, .string s, .string t, .slice A l.length cap, .int .i8 8, .int .i64 0, .string ⟨#[]⟩, .string ⟨#[]⟩, .slice none 0 0] 25)).alloc (.cells #[.int .i8 0, .int .i64 0, .string ⟨#[]⟩, .string ⟨#[]⟩, .slice none 0 0] 25)).cell? ⟨v6.heap.size + 1, 4, none⟩ = some (.slice none 0 0) := cell_of_row a2 rfl
    have zf4 : ((v6.alloc (.cells #[.int .i8 k, .int .i64 n, .string s, .string t, .slice A l.length cap, .int .i8 8, .int .i64 0, .string ⟨#[]⟩, .string ⟨#[]⟩, .slice none 0 0] 25)).alloc (.cells #[.int .i8 0, .int .i64 0, .string ⟨#[]⟩, .string ⟨#[]⟩, .slice none 0 0] 25)).frozen? ⟨v6.heap.size + 1, 4, none⟩ = false := free_of_row a2
    have bb : Below v6.heap.size v6 ((v6.alloc (.cells #[.int .i8 k, .int .i64 n, .string s, .string t, .slice A l.length cap, .int .i8 8, .int .i64 0, .string ⟨#[]⟩, .string ⟨#[]⟩, .slice none 0 0] 25)).alloc (.cells #[.int .i8 9, .int .i64 0, .string ⟨#[]⟩, .string ⟨#[]⟩, .slice (some ⟨v6.heap.size, 0, none⟩) 2 2] 25)) := ((Below.refl _ _).alloc (Nat.le_refl _) _).alloc (by simp) _
    have Hv7 := Lib.hid (And.intro a4 (And.intro a3 bb))
    clear a1 a2 a3 a4 z1 z2 z3 bb
    go_upto_region 8 with fail
    generalize (v6.alloc (.cells #[.int .i8 k, .int .i64 n, .string s, .string t, .slice A l.length cap, .int .i8 8, .int .i64 0, .string ⟨#[]⟩, .string ⟨#[]⟩, .slice none 0 0] 25)).alloc (.cells #[.int .i8 9, .int .i64 0, .string ⟨#[]⟩, .string ⟨#[]⟩, .slice (some ⟨v6.heap.size, 0, none⟩) 2 2] 25) = v7 at Hv7 ⊢
    clear z0 zf0 z1 zf1 z2 zf2 z3 zf3 z4 zf4
    clear x0 x1 x2 x3 x4
    have HBv7 := Lib.hid (HBv6.out.under HEE.out Hv7.out.2.2)
    have HTv7 : Hid (TmAt (· < v7.heap.size) v7 (lisT X) (.agg #[.int .i8 9, .int .i64 0, .string ⟨#[]⟩, .string ⟨#[]⟩, .slice (some ⟨v6.heap.size, 0, none⟩) 2 2])) := TmAt.of_row (k := 9) (n := 0) (s := ⟨#[]⟩) (t := ⟨#[]⟩) (l := [X, nilT]) (row2_of (P := fun b => b < v7.heap.size) Hv7.out.1 (heap_lt Hv7.out.1) (HT.out.laterN HBv7.out.below) (TmAt.leaf (· < v7.heap.size) v7 8 0 ⟨#[]⟩ (by omega) (by omega) (by decide))) (by omega) (by omega) (by decide) (by decide)
    have x0 : v7.cell? ⟨w.heap.size, 0, none⟩ = some (.int .i8 k) := cell_of_row HBv7.out.box rfl
    have x1 : v7.cell? ⟨w.heap.size, 1, none⟩ = some (.int .i64 n) := cell_of_row HBv7.out.box rfl
    have x2 : v7.cell? ⟨w.heap.size, 2, none⟩ = some (.string s) := cell_of_row HBv7.out.box rfl
    have x3 : v7.cell? ⟨w.heap.size, 3, none⟩ = some (.string t) := cell_of_row HBv7.out.box rfl
    have x4 : v7.cell? ⟨w.heap.size, 4, none⟩ = some (.slice A l.length cap) := cell_of_row HBv7.out.box rfl
    obtain ⟨a1, z1⟩ := here_of (.cells #[.int .i8 8, .int .i64 0, .string ⟨#[]⟩, .string ⟨#[]⟩, .slice none 0 0, .int .i8 4, .int .i64 0, .string ⟨#[]⟩, .string ⟨#[]⟩, .slice none 0 0, .int .i8 k, .int .i64 n, .string s, .string t, .slice A l.length cap] 25) (rfl : v7.heap.size = v7.heap.size)
    obtain ⟨a2, z2⟩ := here_of (.cells #[.int .i8 0, .int .i64 0, .string ⟨#[]⟩, .string ⟨#[]⟩, .slice none 0 0] 25) z1
    obtain ⟨a3, z3⟩ := here_of (.cells #[.int .i8 3, .int .i64 1, .string ⟨#[]⟩, .string ⟨#[]⟩, .slice (some ⟨v7.heap.size, 0, none⟩) 3 3] 25) z1
    have a4 := there_of (.cells #[.int .i8 3, .int .i64 1, .string ⟨#[]⟩, .string ⟨#[]⟩, .slice (some ⟨v7.heap.size, 0, none⟩) 3 3] 25) a1
    have z0 : ((v7.alloc (.cells #[.int .i8 8, .int .i64 0, .string ⟨#[]⟩, .string ⟨#[]⟩, .slice none 0 0, .int .i8 4, .int .i64 0, .string ⟨#[]⟩, .string ⟨#[]⟩, .slice none 0 0, .int .i8 k, .int .i64 n, .string s, .string t, .slice A l.length cap] 25)).alloc (.cells #[.int .i8 0, .int .i64 0, .string ⟨#[]⟩, .string ⟨#[]⟩, .slice none 0 0] 25)).cell? ⟨v7.heap.size + 1, 0, none⟩ = some (.int .i8 0) := cell_of_row a2 rfl
    have zf0 : ((v7.alloc (.cells #[.int .i8 8, .int .i64 0, .string ⟨#[]⟩, .string ⟨#[]⟩, .slice none 0 0, .int .i8 4, .int .i64 0, .string ⟨#[]⟩, .string ⟨#[]⟩, .slice none 0 0, .int .i8 k, .int .i64 n, .string s, .string t, .slice A l.length cap] 25)).alloc (.cells #[.int .i8 0, .int .i64 0, .string ⟨#[]⟩, .string ⟨#[]⟩, .slice none 0 0] 25)).frozen? ⟨v7.heap.size + 1, 0, none⟩ = false := free_of_row a2
    have z1 : ((v7.alloc (.cells #[.int .i8 8, .int .i64 0, .string ⟨#[]⟩, .string ⟨#[]⟩, .slice none 0 0, .int .i8 4, .int .i64 0, .string ⟨#[]⟩, .string ⟨#[]⟩, .slice none 0 0, .int .i8 k, .int .i64 n, .string s, .string t, .slice A l.length cap] 25)).alloc (.cells #[.int .i8 0, .int .i64 0, .string ⟨#[]⟩, .string ⟨#[]⟩, .slice none 0 0] 25)).cell? ⟨v7.heap.size + 1, 1, none⟩ = some (.int .i64 0) := cell_of_row a2 rfl
    have zf1 : ((v7.alloc (.cells #[.int .i8 8, .int .i64 0, .string ⟨#[]⟩, .string ⟨#[]⟩, .slice none 0 0, .int .i8 4, .int .i64 0, .string ⟨#[]⟩, .string ⟨#[]⟩, .slice none 0 0, .int .i8 k, .int .i64 n, .string s, .string t, .slice A l.length cap] 25)).alloc (.cells #[.int .i8 0, .int .i64 0, .string ⟨#[]⟩, .string ⟨#[]⟩, .slice none 0 0] 25)).frozen? ⟨v7.heap.size + 1, 1, none⟩ = false := free_of_row a2
    have z2 : ((v7.alloc (.cells #[.int .i8 8, .int .i64 0, .string ⟨#[]⟩, .string ⟨#[]⟩, .slice none 0 0, .int .i8 4, .int .i64 0, .string ⟨#[]⟩, .string ⟨#[]⟩, .slice none 0 0, .int .i8 k, .int .i64 n, .string s, .string t, .slice A l.length cap] 25)).alloc (.cells #[.int .i8 0, .int .i64 0, .string ⟨#[]⟩, .string ⟨#[]⟩, .slice none 0 0] 25)).cell? ⟨v7.heap.size + 1, 2, none⟩ = some (.string ⟨#[]⟩) := cell_of_row a2 rfl
    have zf2 : ((v7.alloc (.cells #[.int .i8 8, .int .i64 0, .string ⟨#[]⟩, .string ⟨#[]⟩, .slice none 0 0, .int .i8 4, .int .i64 0, .string ⟨#[]⟩, .string ⟨#[]⟩, .slice none 0 0, .int .i8 k, .int .i64 n, .string s, .string t, .slice A l.length cap] 25)).alloc (.cells #[.int .i8 0, .int .i64 0, .string ⟨#[]⟩, .string ⟨#[]⟩, .slice none 0 0] 25)).frozen? ⟨v7.heap.size + 1, 2, none⟩ = false := free_of_row a2
    have z3 : ((v7.alloc (.cells #[.int .i8 8, .int .i64 0, .string ⟨#[]⟩, .string ⟨#[]⟩, .slice none 0 0, .int .i8 4, .int .i64 0, .string ⟨#[]⟩, .string ⟨#[]⟩, .slice none 0 0, .int .i8 k, .int .i64 n, .string s, .string t, .slice A l.length cap] 25)).alloc (.cells #[.int .i8 0, .int .i64 0, .string ⟨#[]⟩, .string ⟨#[]⟩, .slice none 0 0] 25)).cell? ⟨v7.heap.size + 1, 3, none⟩ = some (.string ⟨#[]⟩) := cell_of_row a2 rfl
    have zf3 : ((v7.alloc (.cells #[.int .i8 8, .int .i64 0, .string ⟨#[]⟩, .string ⟨#[]⟩, .slice none 0 0, .int .i8 4, .int .i64 0, .string ⟨#[]⟩, .string ⟨#[]⟩, .slice none 0 0, .int .i8 k, .int .i64 n, .string s, .string t, .slice A l.length cap] 25)).alloc (.cells #[.int .i8 0, .int .i64 0, .string ⟨#[]⟩, .string ⟨#[]⟩, .slice none 0 0] 25)).frozen? ⟨v7.heap.size + 1, 3, none⟩ = false := free_of_row a2
    have z4 : ((v7.alloc (.cells #[.int .i8 8, .int .i64 0, .string ⟨#[]⟩, .string ⟨#[]⟩, .slice none 0 0, .int .i8 4, .int .i64 0, .string ⟨#[]⟩, .string ⟨#[]⟩, .slice none 0 0, .int .i8 k, .int .i64 n, .string s, .string t, .slice A l.length cap] 25)).alloc (.cells #[.int .i8 0, .int .i64 0, .string ⟨#[]⟩, .string ⟨#[]⟩, .slice none 0 0] 25)).cell? ⟨v7.heap.size + 1, 4, none⟩ = some (.slice none 0 0) := cell_of_row a2 rfl
    have zf4 : ((v7.alloc (.cells #[.int .i8 8, .int .i64 0, .string ⟨#[]⟩, .string ⟨#[]⟩, .slice none 0 0, .int .i8 4, .int .i64 0, .string ⟨#[]⟩, .string ⟨#[]⟩, .slice none 0 0, .int .i8 k, .int .i64 n, .string s, .string t, .slice A l.length cap] 25)).alloc (.cells #[.int .i8 0, .int .i64 0, .string ⟨#[]⟩, .string ⟨#[]⟩, .slice none 0 0] 25)).frozen? ⟨v7.heap.size + 1, 4, none⟩ = false := free_of_row a2
    have bb : Below v7.heap.size v7 ((v7.alloc (.cells #[.int .i8 8, .int .i64 0, .string ⟨#[]⟩, .string ⟨#[]⟩, .slice none 0 0, .int .i8 4, .int .i64 0, .string ⟨#[]⟩, .string ⟨#[]⟩, .slice none 0 0, .int .i8 k, .int .i64 n, .string s, .string t, .slice A l.length cap] 25)).alloc (.cells #[.int .i8 3, .int .i64 1, .string ⟨#[]⟩, .string ⟨#[]⟩, .slice (some ⟨v7.heap.size, 0, none⟩) 3 3] 25)) := ((Below.refl _ _).alloc (Nat.le_refl _) _).alloc (by simp) _
    have Hv8 := Lib.hid (And.intro a4 (And.intro a3 bb))
    clear a1 a2 a3 a4 z1 z2 z3 bb
    go_upto_region 9 with fail
    generalize (v7.alloc (.cells #[.int .i8 8, .int .i64 0, .string ⟨#[]⟩, .string ⟨#[]⟩, .slice none 0 0, .int .i8 4, .int .i64 0, .string ⟨#[]⟩, .string ⟨#[]⟩, .slice none 0 0, .int .i8 k, .int .i64 n, .string s, .string t, .slice A l.length cap] 25)).alloc (.cells #[.int .i8 3, .int .i64 1, .string ⟨#[]⟩, .string ⟨#[]⟩, .slice (some ⟨v7.heap.size, 0, none⟩) 3 3] 25) = v8 at Hv8 ⊢
    clear z0 zf0 z1 zf1 z2 zf2 z3 zf3 z4 zf4
    clear x0 x1 x2 x3 x4
    have HBv8 := Lib.hid (HBv7.out.under HEE.out Hv8.out.2.2)
    have HTv8 : Hid (TmAt (· < v8.heap.size) v8 (oneT X) (.agg #[.int .i8 3, .int .i64 1, .string ⟨#[]⟩, .string ⟨#[]⟩, .slice (some ⟨v7.heap.size, 0, none⟩) 3 3])) := TmAt.of_row (k := 3) (n := 1) (s := ⟨#[]⟩) (t := ⟨#[]⟩) (l := [nilT, .mk 4 0 ⟨#[]⟩ ⟨#[]⟩ [], X]) (row3_of (P := fun b => b < v8.heap.size) Hv8.out.1 (heap_lt Hv8.out.1) (TmAt.leaf (· < v8.heap.size) v8 8 0 ⟨#[]⟩ (by omega) (by omega) (by decide)) (TmAt.leaf (· < v8.heap.size) v8 4 0 ⟨#[]⟩ (by omega) (by omega) (by decide)) (HT.out.laterN HBv8.out.below)) (by omega) (by omega) (by decide) (by decide)
    have HBO := Lib.hid Hv8.out.2.1
    have x0 : v8.cell? ⟨v7.heap.size + 1, 0, none⟩ = some (.int .i8 3) := cell_of_row HBO.out rfl
    have x1 : v8.cell? ⟨v7.heap.size + 1, 1, none⟩ = some (.int .i64 1) := cell_of_row HBO.out rfl
    have x2 : v8.cell? ⟨v7.heap.size + 1, 2, none⟩ = some (.string ⟨#[]⟩) := cell_of_row HBO.out rfl
    have x3 : v8.cell? ⟨v7.heap.size + 1, 3, none⟩ = some (.string ⟨#[]⟩) := cell_of_row HBO.out rfl
    have x4 : v8.cell? ⟨v7.heap.size + 1, 4, none⟩ = some (.slice (some ⟨v7.heap.size, 0, none⟩) 3 3) := cell_of_row HBO.out rfl
    obtain ⟨a1, z1⟩ := here_of (.cells #[.int .i8 8, .int .i64 0, .string ⟨#[]⟩, .string ⟨#[]⟩, .slice none 0 0, .int .i8 3, .int .i64 1, .string ⟨#[]⟩, .string ⟨#[]⟩, .slice (some ⟨v7.heap.size, 0, none⟩) 3 3] 25) (rfl : v8.heap.size = v8.heap.size)
    obtain ⟨a2, z2⟩ := here_of (.cells #[.int .i8 0, .int .i64 0, .string ⟨#[]⟩, .string ⟨#[]⟩, .slice none 0 0] 25) z1
    obtain ⟨a3, z3⟩ := here_of (.cells #[.int .i8 18, .int .i64 0, .string ⟨#[]⟩, .string ⟨#[]⟩, .slice (some ⟨v8.heap.size, 0, none⟩) 2 2] 25) z1
    have a4 := there_of (.cells #[.int .i8 18, .int .i64 0, .string ⟨#[]⟩, .string ⟨#[]⟩, .slice (some ⟨v8.heap.size, 0, none⟩) 2 2] 25) a1
    have z0 : ((v8.alloc (.cells #[.int .i8 8, .int .i64 0, .string ⟨#[]⟩, .string ⟨#[]⟩, .slice none 0 0, .int .i8 3, .int .i64 1, .string ⟨#[]⟩, .string ⟨#[]⟩, .slice (some ⟨v7.heap.size, 0, none⟩) 3 3] 25)).alloc (.cells #[.int .i8 0, .int .i64 0, .string ⟨#[]⟩, .string ⟨#[]⟩, .slice none 0 0] 25)).cell? ⟨v8.heap.size + 1, 0, none⟩ = some (.int .i8 0) := cell_of_row a2 rfl
    have zf0 : ((v8.alloc (.cells #[.int .i8 8, .int .i64 0, .string ⟨#[]⟩, .string ⟨#[]⟩, .slice none 0 0, .int .i8 3, .int .i64 1, .string ⟨#[]⟩, .string ⟨#[]⟩, .slice (some ⟨v7.heap.size, 0, none⟩) 3 3] 25)).alloc (.cells #[.int .i8 0, .int .i64 0, .string ⟨#[]⟩, .string ⟨#[]⟩, .slice none 0 0] 25)).frozen? ⟨v8.heap.size + 1, 0, none⟩ = false := free_of_row a2
    have z1 : ((v8.alloc (.cells #[.int .i8 8, .int .i64 0, .string ⟨#[]⟩, .string ⟨#[]⟩, .slice none 0 0, .int .i8 3, .int .i64 1, .string ⟨#[]⟩, .string ⟨#[]⟩, .slice (some ⟨v7.heap.size, 0, none⟩) 3 3] 25)).alloc (.cells #[.int .i8 0, .int .i64 0, .string ⟨#[]⟩, .string ⟨#[]⟩, .slice none 0 0] 25)).cell? ⟨v8.heap.size + 1, 1, none⟩ = some (.int .i64 0) := cell_of_row a2 rfl
    have zf1 : ((v8.alloc (.cells #[.int .i8 8, .int .i64 0, .string ⟨#[]⟩, .string ⟨#[]⟩, .slice none 0 0, .int .i8 3, .int .i64 1, .string ⟨#[]⟩, .string ⟨#[]⟩, .slice (some ⟨v7.heap.size, 0, none⟩) 3 3] 25)).alloc (.cells #[.int .i8 0, .int .i64 0, .string ⟨#[]⟩, .string ⟨#[]⟩, .slice none 0 0] 25)).frozen? ⟨v8.heap.size + 1, 1, none⟩ = false := free_of_row a2
    have z2 : ((v8.alloc (.cells #[.int .i8 8, .int .i64 0, .string ⟨#[]⟩, .string ⟨#[]⟩, .slice none 0 0, .int .i8 3, .int .i64 1, .string ⟨#[]⟩, .string ⟨#[]⟩, .slice (some ⟨v7.heap.size, 0, none⟩) 3 3] 25)).alloc (.cells #[.int .i8 0, .int .i64 0, .string ⟨#[]⟩, .string ⟨#[]⟩, .slice none 0 0] 25)).cell? ⟨v8.heap.size + 1, 2, none⟩ = some (.string ⟨#[]⟩) := cell_of_row a2 rfl
    have zf2 : ((v8.alloc (.cells #[.int .i8 8, .int .i64 0, .string ⟨#[]⟩, .string ⟨#[]⟩, .slice none 0 0, .int .i8 3, .int .i64 1, .string ⟨#[]⟩, .string ⟨#[]⟩, .slice (some ⟨v7.heap.size, 0, none⟩) 3 3] 25)).alloc (.cells #[.int .i8 0, .int .i64 0, .string ⟨#[]⟩, .string ⟨#[]⟩, .slice none 0 0] 25)).frozen? ⟨v8.heap.size + 1, 2, none⟩ = false := free_of_row a2
    have z3 : ((v8.alloc (.cells #[.int .i8 8, .int .i64 0, .string ⟨#[]⟩, .string ⟨#[]⟩, .slice none 0 0, .int .i8 3, .int .i64 1, .string ⟨#[]⟩, .string ⟨#[]⟩, .slice (some ⟨v7.heap.size, 0, none⟩) 3 3] 25)).alloc (.cells #[.int .i8 0, .int .i64 0, .string ⟨#[]⟩, .string ⟨#[]⟩, .slice none 0 0] 25)).cell? ⟨v8.heap.size + 1, 3, none⟩ = some (.string ⟨#[]⟩) := cell_of_row a2 rfl
    have zf3 : ((v8.alloc (.cells #[.int .i8 8, .int .i64 0, .string ⟨#[]⟩, .string ⟨#[]⟩, .slice none 0 0, .int .i8 3, .int .i64 1, .string ⟨#[]⟩, .string ⟨#[]⟩, .slice (some ⟨v7.heap.size, 0, none⟩) 3 3] 25)).alloc (.cells #[.int .i8 0, .int .i64 0, .string ⟨#[]⟩, .string ⟨#[]⟩, .slice none 0 0] 25)).frozen? ⟨v8.heap.size + 1, 3, none⟩ = false := free_of_row a2
    have z4 : ((v8.alloc (.cells #[.int .i8 8, .int .i64 0, .string ⟨#[]⟩, .string ⟨#[]⟩, .slice none 0 0, .int .i8 3, .int .i64 1, .string ⟨#[]⟩, .string ⟨#[]⟩, .slice (some ⟨v7.heap.size, 0, none⟩) 3 3] 25)).alloc (.cells #[.int .i8 0, .int .i64 0, .string ⟨#[]⟩, .string ⟨#[]⟩, .slice none 0 0] 25)).cell? ⟨v8.heap.size + 1, 4, none⟩ = some (.slice none 0 0) := cell_of_row a2 rfl
    have zf4 : ((v8.alloc (.cells #[.int .i8 8, .int .i64 0, .string ⟨#[]⟩, .string ⟨#[]⟩, .slice none 0 0, .int .i8 3, .int .i64 1, .string ⟨#[]⟩, .string ⟨#[]⟩, .slice (some ⟨v7.heap.size, 0, none⟩) 3 3] 25)).alloc (.cells #[.int .i8 0, .int .i64 0, .string ⟨#[]⟩, .string ⟨#[]⟩, .slice none 0 0] 25)).frozen? ⟨v8.heap.size + 1, 4, none⟩ = false := free_of_row a2
    have bb : Below v8.heap.size v8 ((v8.alloc (.cells #[.int .i8 8, .int .i64 0, .string ⟨#[]⟩, .string ⟨#[]⟩, .slice none 0 0, .int .i8 3, .int .i64 1, .string ⟨#[]⟩, .string ⟨#[]⟩, .slice (some ⟨v7.heap.size, 0, none⟩) 3 3] 25)).alloc (.cells #[.int .i8 18, .int .i64 0, .string ⟨#[]⟩, .string ⟨#[]⟩, .slice (some ⟨v8.heap.size, 0, none⟩) 2 2] 25)) := ((Below.refl _ _).alloc (Nat.le_refl _) _).alloc (by simp) _
    have Hv9 := Lib.hid (And.intro a4 (And.intro a3 bb))
    clear a1 a2 a3 a4 z1 z2 z3 bb
    go_upto_region 10 with fail
    generalize (v8.alloc (.cells #[.int .i8 8, .int .i64 0, .string ⟨#[]⟩, .string ⟨#[]⟩, .slice none 0 0, .int .i8 3, .int .i64 1, .string ⟨#[]⟩, .string ⟨#[]⟩, .slice (some ⟨v7.heap.size, 0, none⟩) 3 3] 25)).alloc (.cells #[.int .i8 18, .int .i64 0, .string ⟨#[]⟩, .string ⟨#[]⟩, .slice (some ⟨v8.heap.size, 0, none⟩) 2 2] 25) = v9 at Hv9 ⊢
    clear z0 zf0 z1 zf1 z2 zf2 z3 zf3 z4 zf4
    clear x0 x1 x2 x3 x4
    have HBv9 := Lib.hid (HBv8.out.under HEE.out Hv9.out.2.2)
    have HTv9 : Hid (TmAt (· < v9.heap.size) v9 (kasT X) (.agg #[.int .i8 18, .int .i64 0, .string ⟨#[]⟩, .string ⟨#[]⟩, .slice (some ⟨v8.heap.size, 0, none⟩) 2 2])) := TmAt.of_row (k := 18) (n := 0) (s := ⟨#[]⟩) (t := ⟨#[]⟩) (l := [nilT, oneT X]) (row2_of (P := fun b => b < v9.heap.size) Hv9.out.1 (heap_lt Hv9.out.1) (TmAt.leaf (· < v9.heap.size) v9 8 0 ⟨#[]⟩ (by omega) (by omega) (by decide)) (HTv8.out.laterN Hv9.out.2.2)) (by omega) (by omega) (by decide) (by decide)
    have x0 : v9.cell? ⟨w.heap.size, 0, none⟩ = some (.int .i8 k) := cell_of_row HBv9.out.box rfl
    have x1 : v9.cell? ⟨w.heap.size, 1, none⟩ = some (.int .i64 n) := cell_of_row HBv9.out.box rfl
    have x2 : v9.cell? ⟨w.heap.size, 2, none⟩ = some (.string s) := cell_of_row HBv9.out.box rfl
    have x3 : v9.cell? ⟨w.heap.size, 3, none⟩ = some (.string t) := cell_of_row HBv9.out.box rfl
    have x4 : v9.cell? ⟨w.heap.size, 4, none⟩ = some (.slice A l.length cap) := cell_of_row HBv9.out.box rfl
    have hfx : fitsB X = true := (wrap_fits (tup_fit X).1 (tup_fit X).2 (by have := HNN.out; omega) (by have := HNN.out; omega)).2
    obtain ⟨I, hI⟩ : ∃ I, I = exprB X := ⟨_, rfl⟩
    obtain ⟨J, hJ⟩ : ∃ J, J = patB X := ⟨_, rfl⟩
    obtain ⟨K7, hK7⟩ : ∃ K7, K7 = guaB X := ⟨_, rfl⟩
    have qI : (fitsB X && exprB X) = I := by rw [hfx, ← hI]; rfl
    have qJ : (fitsB X && patB X) = J := by rw [hfx, ← hJ]; rfl
    have qK : (fitsB X && guaB X) = K7 := by rw [hfx, ← hK7]; rfl
    have qt : (fitsB (tupT X) && exprB (tupT X)) = I := by rw [(wrap_fits (tup_fit X).1 (tup_fit X).2 (by have := HNN.out; omega) (by have := HNN.out; omega)).1, tup_expr, ← hI]; rfl
    have ql : (fitsB (lisT X) && exprB (lisT X)) = I := by rw [(wrap_fits (lis_fit X).1 (lis_fit X).2 (by have := HNN.out; omega) (by have := HNN.out; omega)).1, lis_expr, ← hI]; rfl
    have qk : (fitsB (kasT X) && exprB (kasT X)) = I := by rw [(wrap_fits (kas_fit X).1 (kas_fit X).2 (by have := HNN.out; omega) (by have := HNN.out; omega)).1, kas_expr, ← hI]; rfl
    have qo : clauseR (oneT X) 1 = I := by unfold clauseR; rw [(wrap_fits (one_fit X).1 (one_fit X).2 (by have := HNN.out; omega) (by have := HNN.out; omega)).1, show ((1 : Int).toNat) = 1 from rfl, one_cl, ← hI]; rfl
    have qp : (fitsB (tupT X) && patB (tupT X)) = J := by rw [(wrap_fits (tup_fit X).1 (tup_fit X).2 (by have := HNN.out; omega) (by have := HNN.out; omega)).1, tup_pat, ← hJ]; rfl
    have qg : (fitsB (lisT X) && guaB (lisT X)) = K7 := by rw [(wrap_fits (lis_fit X).1 (lis_fit X).2 (by have := HNN.out; omega) (by have := HNN.out; omega)).1, lis_gua, ← hK7]; rfl
    have zt : (tupT X).nodes ≤ 8200 := by have := HNN.out; rw [(tup_fit X).1]; omega
    have zl : (lisT X).nodes ≤ 8200 := by have := HNN.out; rw [(lis_fit X).1]; omega
    have zk : (kasT X).nodes ≤ 8200 := by have := HNN.out; rw [(kas_fit X).1]; omega
    have zo : (oneT X).nodes ≤ 8200 := by have := HNN.out; rw [(one_fit X).1]; omega
    have HQ1 := Lib.hid (And.intro qI (And.intro qJ (And.intro qK (And.intro qt (And.intro ql (And.intro qk (And.intro qo (And.intro qp qg))))))))
    have HZ1 := Lib.hid (And.intro zt (And.intro zl (And.intro zk zo)))
    clear hfx hI hJ hK7 qI qJ qK qt ql qk qo qp qg zt zl zk zo
    go_wp2_with fail
    refine (HXP.out X _ v9 (HT.out.laterN HBv9.out.below) HN.out HBv9.out.env).mono ?_
    rintro e w10 ⟨rfl, b10⟩
    rw [HQ1.out.1]
    have d8 : Below v8.heap.size v8 w10 := Hv9.out.2.2.trans (b10.mono Hv9.out.2.2.size)
    have d7 : Below v7.heap.size v7 w10 := Hv8.out.2.2.trans (d8.mono Hv8.out.2.2.size)
    have d6 : Below v6.heap.size v6 w10 := Hv7.out.2.2.trans (d7.mono Hv7.out.2.2.size)
    have HB10 := Lib.hid (HBv9.out.under HEE.out b10)
    have GN := Lib.hid HB10.out.box
    have GT := Lib.hid ((d6.block _ (heap_lt Hv6.out.2.1)).trans Hv6.out.2.1)
    have GL := Lib.hid ((d7.block _ (heap_lt Hv7.out.2.1)).trans Hv7.out.2.1)
    have GO := Lib.hid ((d8.block _ (heap_lt Hv8.out.2.1)).trans Hv8.out.2.1)
    have GK := Lib.hid ((b10.block _ (heap_lt Hv9.out.2.1)).trans Hv9.out.2.1)
    have UT := Lib.hid (HTv6.out.laterN d6)
    have UL := Lib.hid (HTv7.out.laterN d7)
    have UO := Lib.hid (HTv8.out.laterN d8)
    have UK := Lib.hid (HTv9.out.laterN b10)
    clear d6 d7 d8 b10 x0 x1 x2 x3 x4
    go_upto_region 11 with fail
    refine wp_region_held (S := fun V => Below w10.heap.size w10 V) (by kernel_rfl) ?_
    show wpAnyH _ _ _ _ _ _ _ _ w10.drew
    have hS0 : Below w10.heap.size w10 w10.drew := ⟨rfl, rfl, rfl, Nat.le_refl _, fun _ _ => rfl⟩
    generalize w10.drew = D at hS0 ⊢
    refine wpAnyH_take (i := 0) (oi := ⟨some 46, _, _, _, _, _⟩) (v := ?_) rfl (by kernel_rfl) (by kernel_rfl) (by kernel_rfl) (fun _ _ _ h => h) (Or.inl ⟨by kernel_rfl, ?_⟩) (by assumption) ?_; rotate_left; (intro V hSw; (try dsimp only at hSw); have q0 := cell_of_row (i := 0) ((hSw.block _ (heap_lt GT.out)).trans GT.out) rfl; have q1 := cell_of_row (i := 1) ((hSw.block _ (heap_lt GT.out)).trans GT.out) rfl; have q2 := cell_of_row (i := 2) ((hSw.block _ (heap_lt GT.out)).trans GT.out) rfl; have q3 := cell_of_row (i := 3) ((hSw.block _ (heap_lt GT.out)).trans GT.out) rfl; have q4 := cell_of_row (i := 4) ((hSw.block _ (heap_lt GT.out)).trans GT.out) rfl; go_simp; first | done | with_reducible rfl); (try simp only [Act.put, List.setIfInBounds_toArray, List.set_cons_zero, List.set_cons_succ])
    refine wpAnyH_take (i := 2) (oi := ⟨some 48, _, _, _, _, _⟩) (v := ?_) rfl (by kernel_rfl) (by kernel_rfl) (by kernel_rfl) (fun _ _ _ h => h) (Or.inl ⟨by kernel_rfl, ?_⟩) (by assumption) ?_; rotate_left; (intro V hSw; (try dsimp only at hSw); go_simp; first | done | with_reducible rfl); (try simp only [Act.put, List.setIfInBounds_toArray, List.set_cons_zero, List.set_cons_succ])
    refine wpAnyH_ready (rs := [1]) (by kernel_rfl) (by simp) ?_
    refine AllReadyH.cons (o := ⟨some 47, _, _, _, _, _⟩) rfl (fun K hK => ?_) AllReadyH.nil
    rw [if_pos (by rfl)]
    go_simp
    refine (HXP.out _ _ D (UT.out.laterN hS0) HZ1.out.1 (HEE.out _ _ HB10.out.env hS0)).mono ?_
    rintro e Y1 ⟨rfl, bY1⟩
    rw [HQ1.out.2.2.2.1]
    have hSY1 : Below w10.heap.size w10 Y1 := hS0.trans (bY1.mono hS0.size)
    refine hK.out _ _ hSY1 (fun hSn => ?_)
    clear hK K hSn bY1; (try simp only [Act.put, List.setIfInBounds_toArray, List.set_cons_zero, List.set_cons_succ])
    refine wpAnyH_take (i := 3) (oi := ⟨some 49, _, _, _, _, _⟩) (v := ?_) rfl (by kernel_rfl) (by kernel_rfl) (by kernel_rfl) (fun _ _ _ h => h) (Or.inl ⟨by kernel_rfl, ?_⟩) (by assumption) ?_; rotate_left; (intro V hSw; (try dsimp only at hSw); go_simp; first | done | with_reducible rfl); (try simp only [Act.put, List.setIfInBounds_toArray, List.set_cons_zero, List.set_cons_succ])
    refine wpAnyH_take (i := 4) (oi := ⟨some 50, _, _, _, _, _⟩) (v := ?_) rfl (by kernel_rfl) (by kernel_rfl) (by kernel_rfl) (fun _ _ _ h => h) (Or.inl ⟨by kernel_rfl, ?_⟩) (by assumption) ?_; rotate_left; (intro V hSw; (try dsimp only at hSw); go_simp; first | done | with_reducible rfl); (try simp only [Act.put, List.setIfInBounds_toArray, List.set_cons_zero, List.set_cons_succ])
    refine wpAnyH_take (i := 5) (oi := ⟨some 51, _, _, _, _, _⟩) (v := ?_) rfl (by kernel_rfl) (by kernel_rfl) (by kernel_rfl) (fun _ _ _ h => h) (Or.inl ⟨by kernel_rfl, ?_⟩) (by assumption) ?_; rotate_left; (intro V hSw; (try dsimp only at hSw); have q0 := cell_of_row (i := 0) ((hSw.block _ (heap_lt GL.out)).trans GL.out) rfl; have q1 := cell_of_row (i := 1) ((hSw.block _ (heap_lt GL.out)).trans GL.out) rfl; have q2 := cell_of_row (i := 2) ((hSw.block _ (heap_lt GL.out)).trans GL.out) rfl; have q3 := cell_of_row (i := 3) ((hSw.block _ (heap_lt GL.out)).trans GL.out) rfl; have q4 := cell_of_row (i := 4) ((hSw.block _ (heap_lt GL.out)).trans GL.out) rfl; go_simp; first | done | with_reducible rfl); (try simp only [Act.put, List.setIfInBounds_toArray, List.set_cons_zero, List.set_cons_succ])
    refine wpAnyH_take (i := 7) (oi := ⟨some 53, _, _, _, _, _⟩) (v := ?_) rfl (by kernel_rfl) (by kernel_rfl) (by kernel_rfl) (fun _ _ _ h => h) (Or.inl ⟨by kernel_rfl, ?_⟩) (by assumption) ?_; rotate_left; (intro V hSw; (try dsimp only at hSw); go_simp; first | done | with_reducible rfl); (try simp only [Act.put, List.setIfInBounds_toArray, List.set_cons_zero, List.set_cons_succ])
    refine wpAnyH_ready (rs := [6]) (by kernel_rfl) (by simp) ?_
    refine AllReadyH.cons (o := ⟨some 52, _, _, _, _, _⟩) rfl (fun K hK => ?_) AllReadyH.nil
    rw [if_pos (by rfl)]
    go_simp
    refine (HXP.out _ _ Y1 (UL.out.laterN hSY1) HZ1.out.2.1 (HEE.out _ _ HB10.out.env hSY1)).mono ?_
    rintro e Y2 ⟨rfl, bY2⟩
    rw [HQ1.out.2.2.2.2.1]
    have hSY2 : Below w10.heap.size w10 Y2 := hSY1.trans (bY2.mono hSY1.size)
    refine hK.out _ _ hSY2 (fun hSn => ?_)
    clear hK K hSn bY2; (try simp only [Act.put, List.setIfInBounds_toArray, List.set_cons_zero, List.set_cons_succ])
    refine wpAnyH_take (i := 8) (oi := ⟨some 54, _, _, _, _, _⟩) (v := ?_) rfl (by kernel_rfl) (by kernel_rfl) (by kernel_rfl) (fun _ _ _ h => h) (Or.inl ⟨by kernel_rfl, ?_⟩) (by assumption) ?_; rotate_left; (intro V hSw; (try dsimp only at hSw); go_simp; first | done | with_reducible rfl); (try simp only [Act.put, List.setIfInBounds_toArray, List.set_cons_zero, List.set_cons_succ])
    refine wpAnyH_take (i := 9) (oi := ⟨some 55, _, _, _, _, _⟩) (v := ?_) rfl (by kernel_rfl) (by kernel_rfl) (by kernel_rfl) (fun _ _ _ h => h) (Or.inl ⟨by kernel_rfl, ?_⟩) (by assumption) ?_; rotate_left; (intro V hSw; (try dsimp only at hSw); go_simp; first | done | with_reducible rfl); (try simp only [Act.put, List.setIfInBounds_toArray, List.set_cons_zero, List.set_cons_succ])
    refine wpAnyH_take (i := 10) (oi := ⟨some 56, _, _, _, _, _⟩) (v := ?_) rfl (by kernel_rfl) (by kernel_rfl) (by kernel_rfl) (fun _ _ _ h => h) (Or.inl ⟨by kernel_rfl, ?_⟩) (by assumption) ?_; rotate_left; (intro V hSw; (try dsimp only at hSw); go_simp; first | done | with_reducible rfl); (try simp only [Act.put, List.setIfInBounds_toArray, List.set_cons_zero, List.set_cons_succ])
    refine wpAnyH_take (i := 11) (oi := ⟨some 57, _, _, _, _, _⟩) (v := ?_) rfl (by kernel_rfl) (by kernel_rfl) (by kernel_rfl) (fun _ _ _ h => h) (Or.inl ⟨by kernel_rfl, ?_⟩) (by assumption) ?_; rotate_left; (intro V hSw; (try dsimp only at hSw); have q0 := cell_of_row (i := 0) ((hSw.block _ (heap_lt GK.out)).trans GK.out) rfl; have q1 := cell_of_row (i := 1) ((hSw.block _ (heap_lt GK.out)).trans GK.out) rfl; have q2 := cell_of_row (i := 2) ((hSw.block _ (heap_lt GK.out)).trans GK.out) rfl; have q3 := cell_of_row (i := 3) ((hSw.block _ (heap_lt GK.out)).trans GK.out) rfl; have q4 := cell_of_row (i := 4) ((hSw.block _ (heap_lt GK.out)).trans GK.out) rfl; go_simp; first | done | with_reducible rfl); (try simp only [Act.put, List.setIfInBounds_toArray, List.set_cons_zero, List.set_cons_succ])
    refine wpAnyH_take (i := 13) (oi := ⟨some 59, _, _, _, _, _⟩) (v := ?_) rfl (by kernel_rfl) (by kernel_rfl) (by kernel_rfl) (fun _ _ _ h => h) (Or.inl ⟨by kernel_rfl, ?_⟩) (by assumption) ?_; rotate_left; (intro V hSw; (try dsimp only at hSw); go_simp; first | done | with_reducible rfl); (try simp only [Act.put, List.setIfInBounds_toArray, List.set_cons_zero, List.set_cons_succ])
    refine wpAnyH_ready (rs := [12]) (by kernel_rfl) (by simp) ?_
    refine AllReadyH.cons (o := ⟨some 58, _, _, _, _, _⟩) rfl (fun K hK => ?_) AllReadyH.nil
    rw [if_pos (by rfl)]
    go_simp
    refine (HXP.out _ _ Y2 (UK.out.laterN hSY2) HZ1.out.2.2.1 (HEE.out _ _ HB10.out.env hSY2)).mono ?_
    rintro e Y3 ⟨rfl, bY3⟩
    rw [HQ1.out.2.2.2.2.2.1]
    have hSY3 : Below w10.heap.size w10 Y3 := hSY2.trans (bY3.mono hSY2.size)
    refine hK.out _ _ hSY3 (fun hSn => ?_)
    clear hK K hSn bY3; (try simp only [Act.put, List.setIfInBounds_toArray, List.set_cons_zero, List.set_cons_succ])
    refine wpAnyH_take (i := 14) (oi := ⟨some 60, _, _, _, _, _⟩) (v := ?_) rfl (by kernel_rfl) (by kernel_rfl) (by kernel_rfl) (fun _ _ _ h => h) (Or.inl ⟨by kernel_rfl, ?_⟩) (by assumption) ?_; rotate_left; (intro V hSw; (try dsimp only at hSw); go_simp; first | done | with_reducible rfl); (try simp only [Act.put, List.setIfInBounds_toArray, List.set_cons_zero, List.set_cons_succ])
    refine wpAnyH_take (i := 15) (oi := ⟨some 61, _, _, _, _, _⟩) (v := ?_) rfl (by kernel_rfl) (by kernel_rfl) (by kernel_rfl) (fun _ _ _ h => h) (Or.inl ⟨by kernel_rfl, ?_⟩) (by assumption) ?_; rotate_left; (intro V hSw; (try dsimp only at hSw); go_simp; first | done | with_reducible rfl); (try simp only [Act.put, List.setIfInBounds_toArray, List.set_cons_zero, List.set_cons_succ])
    refine wpAnyH_take (i := 16) (oi := ⟨some 62, _, _, _, _, _⟩) (v := ?_) rfl (by kernel_rfl) (by kernel_rfl) (by kernel_rfl) (fun _ _ _ h => h) (Or.inl ⟨by kernel_rfl, ?_⟩) (by assumption) ?_; rotate_left; (intro V hSw; (try dsimp only at hSw); go_simp; first | done | with_reducible rfl); (try simp only [Act.put, List.setIfInBounds_toArray, List.set_cons_zero, List.set_cons_succ])
    refine wpAnyH_take (i := 17) (oi := ⟨some 63, _, _, _, _, _⟩) (v := ?_) rfl (by kernel_rfl) (by kernel_rfl) (by kernel_rfl) (fun _ _ _ h => h) (Or.inl ⟨by kernel_rfl, ?_⟩) (by assumption) ?_; rotate_left; (intro V hSw; (try dsimp only at hSw); have q0 := cell_of_row (i := 0) ((hSw.block _ (heap_lt GO.out)).trans GO.out) rfl; have q1 := cell_of_row (i := 1) ((hSw.block _ (heap_lt GO.out)).trans GO.out) rfl; have q2 := cell_of_row (i := 2) ((hSw.block _ (heap_lt GO.out)).trans GO.out) rfl; have q3 := cell_of_row (i := 3) ((hSw.block _ (heap_lt GO.out)).trans GO.out) rfl; have q4 := cell_of_row (i := 4) ((hSw.block _ (heap_lt GO.out)).trans GO.out) rfl; go_simp; first | done | with_reducible rfl); (try simp only [Act.put, List.setIfInBounds_toArray, List.set_cons_zero, List.set_cons_succ])
    refine wpAnyH_take (i := 19) (oi := ⟨some 65, _, _, _, _, _⟩) (v := ?_) rfl (by kernel_rfl) (by kernel_rfl) (by kernel_rfl) (fun _ _ _ h => h) (Or.inl ⟨by kernel_rfl, ?_⟩) (by assumption) ?_; rotate_left; (intro V hSw; (try dsimp only at hSw); go_simp; first | done | with_reducible rfl); (try simp only [Act.put, List.setIfInBounds_toArray, List.set_cons_zero, List.set_cons_succ])
    refine wpAnyH_ready (rs := [18]) (by kernel_rfl) (by simp) ?_
    refine AllReadyH.cons (o := ⟨some 64, _, _, _, _, _⟩) rfl (fun K hK => ?_) AllReadyH.nil
    rw [if_pos (by rfl)]
    go_simp
    refine (HCL.out _ 1 _ Y3 (UO.out.laterN hSY3) HZ1.out.2.2.2 (HEE.out _ _ HB10.out.env hSY3)).mono ?_
    rintro e Y4 ⟨rfl, bY4⟩
    rw [HQ1.out.2.2.2.2.2.2.1]
    have hSY4 : Below w10.heap.size w10 Y4 := hSY3.trans (bY4.mono hSY3.size)
    refine hK.out _ _ hSY4 (fun hSn => ?_)
    clear hK K hSn bY4; (try simp only [Act.put, List.setIfInBounds_toArray, List.set_cons_zero, List.set_cons_succ])
    refine wpAnyH_take (i := 20) (oi := ⟨some 66, _, _, _, _, _⟩) (v := ?_) rfl (by kernel_rfl) (by kernel_rfl) (by kernel_rfl) (fun _ _ _ h => h) (Or.inl ⟨by kernel_rfl, ?_⟩) (by assumption) ?_; rotate_left; (intro V hSw; (try dsimp only at hSw); go_simp; first | done | with_reducible rfl); (try simp only [Act.put, List.setIfInBounds_toArray, List.set_cons_zero, List.set_cons_succ])
    refine wpAnyH_take (i := 21) (oi := ⟨some 67, _, _, _, _, _⟩) (v := ?_) rfl (by kernel_rfl) (by kernel_rfl) (by kernel_rfl) (fun _ _ _ h => h) (Or.inl ⟨by kernel_rfl, ?_⟩) (by assumption) ?_; rotate_left; (intro V hSw; (try dsimp only at hSw); go_simp; first | done | with_reducible rfl); (try simp only [Act.put, List.setIfInBounds_toArray, List.set_cons_zero, List.set_cons_succ])
    refine wpAnyH_take (i := 22) (oi := ⟨some 68, _, _, _, _, _⟩) (v := ?_) rfl (by kernel_rfl) (by kernel_rfl) (by kernel_rfl) (fun _ _ _ h => h) (Or.inl ⟨by kernel_rfl, ?_⟩) (by assumption) ?_; rotate_left; (intro V hSw; (try dsimp only at hSw); go_simp; first | done | with_reducible rfl); (try simp only [Act.put, List.setIfInBounds_toArray, List.set_cons_zero, List.set_cons_succ])
    refine wpAnyH_take (i := 23) (oi := ⟨some 69, _, _, _, _, _⟩) (v := ?_) rfl (by kernel_rfl) (by kernel_rfl) (by kernel_rfl) (fun _ _ _ h => h) (Or.inl ⟨by kernel_rfl, ?_⟩) (by assumption) ?_; rotate_left; (intro V hSw; (try dsimp only at hSw); have q0 := cell_of_row (i := 0) ((hSw.block _ (heap_lt GT.out)).trans GT.out) rfl; have q1 := cell_of_row (i := 1) ((hSw.block _ (heap_lt GT.out)).trans GT.out) rfl; have q2 := cell_of_row (i := 2) ((hSw.block _ (heap_lt GT.out)).trans GT.out) rfl; have q3 := cell_of_row (i := 3) ((hSw.block _ (heap_lt GT.out)).trans GT.out) rfl; have q4 := cell_of_row (i := 4) ((hSw.block _ (heap_lt GT.out)).trans GT.out) rfl; go_simp; first | done | with_reducible rfl); (try simp only [Act.put, List.setIfInBounds_toArray, List.set_cons_zero, List.set_cons_succ])
    refine wpAnyH_take (i := 25) (oi := ⟨some 71, _, _, _, _, _⟩) (v := ?_) rfl (by kernel_rfl) (by kernel_rfl) (by kernel_rfl) (fun _ _ _ h => h) (Or.inl ⟨by kernel_rfl, ?_⟩) (by assumption) ?_; rotate_left; (intro V hSw; (try dsimp only at hSw); have q0 := cell_of_row (i := 0) ((hSw.block _ (heap_lt GN.out)).trans GN.out) rfl; have q1 := cell_of_row (i := 1) ((hSw.block _ (heap_lt GN.out)).trans GN.out) rfl; have q2 := cell_of_row (i := 2) ((hSw.block _ (heap_lt GN.out)).trans GN.out) rfl; have q3 := cell_of_row (i := 3) ((hSw.block _ (heap_lt GN.out)).trans GN.out) rfl; have q4 := cell_of_row (i := 4) ((hSw.block _ (heap_lt GN.out)).trans GN.out) rfl; go_simp; first | done | with_reducible rfl); (try simp only [Act.put, List.setIfInBounds_toArray, List.set_cons_zero, List.set_cons_succ])
    refine wpAnyH_ready (rs := [24]) (by kernel_rfl) (by simp) ?_
    refine AllReadyH.cons (o := ⟨some 70, _, _, _, _, _⟩) rfl (fun K hK => ?_) AllReadyH.nil
    rw [if_pos (by rfl)]
    go_simp
    refine (HP.out _ _ Y4 (UT.out.laterN hSY4) HZ1.out.1 (HEE.out _ _ HB10.out.env hSY4)).mono ?_
    rintro e Y5 ⟨rfl, bY5⟩
    rw [HQ1.out.2.2.2.2.2.2.2.1]
    have hSY5 : Below w10.heap.size w10 Y5 := hSY4.trans (bY5.mono hSY4.size)
    refine hK.out _ _ hSY5 (fun hSn => ?_)
    clear hK K hSn bY5; (try simp only [Act.put, List.setIfInBounds_toArray, List.set_cons_zero, List.set_cons_succ])
    refine wpAnyH_ready (rs := [26]) (by kernel_rfl) (by simp) ?_
    refine AllReadyH.cons (o := ⟨some 72, _, _, _, _, _⟩) rfl (fun K hK => ?_) AllReadyH.nil
    rw [if_pos (by rfl)]
    go_simp
    refine (HP.out X _ Y5 (HT.out.laterN (HB10.out.below.trans (hSY5.mono HB10.out.below.size))) HN.out (HEE.out _ _ HB10.out.env hSY5)).mono ?_
    rintro e Y6 ⟨rfl, bY6⟩
    rw [HQ1.out.2.1]
    have hSY6 : Below w10.heap.size w10 Y6 := hSY5.trans (bY6.mono hSY5.size)
    refine hK.out _ _ hSY6 (fun hSn => ?_)
    clear hK K hSn bY6; (try simp only [Act.put, List.setIfInBounds_toArray, List.set_cons_zero, List.set_cons_succ])
    refine wpAnyH_take (i := 27) (oi := ⟨some 73, _, _, _, _, _⟩) (v := ?_) rfl (by kernel_rfl) (by kernel_rfl) (by kernel_rfl) (fun _ _ _ h => h) (Or.inl ⟨by kernel_rfl, ?_⟩) (by assumption) ?_; rotate_left; (intro V hSw; (try dsimp only at hSw); go_simp; first | done | with_reducible rfl); (try simp only [Act.put, List.setIfInBounds_toArray, List.set_cons_zero, List.set_cons_succ])
    refine wpAnyH_take (i := 28) (oi := ⟨some 74, _, _, _, _, _⟩) (v := ?_) rfl (by kernel_rfl) (by kernel_rfl) (by kernel_rfl) (fun _ _ _ h => h) (Or.inl ⟨by kernel_rfl, ?_⟩) (by assumption) ?_; rotate_left; (intro V hSw; (try dsimp only at hSw); go_simp; first | done | with_reducible rfl); (try simp only [Act.put, List.setIfInBounds_toArray, List.set_cons_zero, List.set_cons_succ])
    refine wpAnyH_take (i := 29) (oi := ⟨some 75, _, _, _, _, _⟩) (v := ?_) rfl (by kernel_rfl) (by kernel_rfl) (by kernel_rfl) (fun _ _ _ h => h) (Or.inl ⟨by kernel_rfl, ?_⟩) (by assumption) ?_; rotate_left; (intro V hSw; (try dsimp only at hSw); go_simp; first | done | with_reducible rfl); (try simp only [Act.put, List.setIfInBounds_toArray, List.set_cons_zero, List.set_cons_succ])
    refine wpAnyH_take (i := 30) (oi := ⟨some 76, _, _, _, _, _⟩) (v := ?_) rfl (by kernel_rfl) (by kernel_rfl) (by kernel_rfl) (fun _ _ _ h => h) (Or.inl ⟨by kernel_rfl, ?_⟩) (by assumption) ?_; rotate_left; (intro V hSw; (try dsimp only at hSw); have q0 := cell_of_row (i := 0) ((hSw.block _ (heap_lt GL.out)).trans GL.out) rfl; have q1 := cell_of_row (i := 1) ((hSw.block _ (heap_lt GL.out)).trans GL.out) rfl; have q2 := cell_of_row (i := 2) ((hSw.block _ (heap_lt GL.out)).trans GL.out) rfl; have q3 := cell_of_row (i := 3) ((hSw.block _ (heap_lt GL.out)).trans GL.out) rfl; have q4 := cell_of_row (i := 4) ((hSw.block _ (heap_lt GL.out)).trans GL.out) rfl; go_simp; first | done | with_reducible rfl); (try simp only [Act.put, List.setIfInBounds_toArray, List.set_cons_zero, List.set_cons_succ])
    refine wpAnyH_take (i := 32) (oi := ⟨some 78, _, _, _, _, _⟩) (v := ?_) rfl (by kernel_rfl) (by kernel_rfl) (by kernel_rfl) (fun _ _ _ h => h) (Or.inl ⟨by kernel_rfl, ?_⟩) (by assumption) ?_; rotate_left; (intro V hSw; (try dsimp only at hSw); have q0 := cell_of_row (i := 0) ((hSw.block _ (heap_lt GN.out)).trans GN.out) rfl; have q1 := cell_of_row (i := 1) ((hSw.block _ (heap_lt GN.out)).trans GN.out) rfl; have q2 := cell_of_row (i := 2) ((hSw.block _ (heap_lt GN.out)).trans GN.out) rfl; have q3 := cell_of_row (i := 3) ((hSw.block _ (heap_lt GN.out)).trans GN.out) rfl; have q4 := cell_of_row (i := 4) ((hSw.block _ (heap_lt GN.out)).trans GN.out) rfl; go_simp; first | done | with_reducible rfl); (try simp only [Act.put, List.setIfInBounds_toArray, List.set_cons_zero, List.set_cons_succ])
    refine wpAnyH_ready (rs := [31]) (by kernel_rfl) (by simp) ?_
    refine AllReadyH.cons (o := ⟨some 77, _, _, _, _, _⟩) rfl (fun K hK => ?_) AllReadyH.nil
    rw [if_pos (by rfl)]
    go_simp
    refine (HG.out _ _ Y6 (UL.out.laterN hSY6) HZ1.out.2.1 (HEE.out _ _ HB10.out.env hSY6)).mono ?_
    rintro e Y7 ⟨rfl, bY7⟩
    rw [HQ1.out.2.2.2.2.2.2.2.2]
    have hSY7 : Below w10.heap.size w10 Y7 := hSY6.trans (bY7.mono hSY6.size)
    refine hK.out _ _ hSY7 (fun hSn => ?_)
    clear hK K hSn bY7; (try simp only [Act.put, List.setIfInBounds_toArray, List.set_cons_zero, List.set_cons_succ])
    refine wpAnyH_ready (rs := [33]) (by kernel_rfl) (by simp) ?_
    refine AllReadyH.cons (o := ⟨some 79, _, _, _, _, _⟩) rfl (fun K hK => ?_) AllReadyH.nil
    rw [if_pos (by rfl)]
    go_simp
    refine (HG.out X _ Y7 (HT.out.laterN (HB10.out.below.trans (hSY7.mono HB10.out.below.size))) HN.out (HEE.out _ _ HB10.out.env hSY7)).mono ?_
    rintro e Y8 ⟨rfl, bY8⟩
    rw [HQ1.out.2.2.1]
    have hSY8 : Below w10.heap.size w10 Y8 := hSY7.trans (bY8.mono hSY7.size)
    refine hK.out _ _ hSY8 (fun hSn => ?_)
    clear hK K hSn bY8; (try simp only [Act.put, List.setIfInBounds_toArray, List.set_cons_zero, List.set_cons_succ])
    refine wpAnyH_take (i := 34) (oi := ⟨some 80, _, _, _, _, _⟩) (v := ?_) rfl (by kernel_rfl) (by kernel_rfl) (by kernel_rfl) (fun _ _ _ h => h) (Or.inl ⟨by kernel_rfl, ?_⟩) (by assumption) ?_; rotate_left; (intro V hSw; (try dsimp only at hSw); go_simp; first | done | with_reducible rfl); (try simp only [Act.put, List.setIfInBounds_toArray, List.set_cons_zero, List.set_cons_succ])
    refine wpAnyH_take (i := 35) (oi := ⟨some 81, _, _, _, _, _⟩) (v := ?_) rfl (by kernel_rfl) (by kernel_rfl) (by kernel_rfl) (fun _ _ _ h => h) (Or.inl ⟨by kernel_rfl, ?_⟩) (by assumption) ?_; rotate_left; (intro V hSw; (try dsimp only at hSw); go_simp; first | done | with_reducible rfl); (try simp only [Act.put, List.setIfInBounds_toArray, List.set_cons_zero, List.set_cons_succ])
    refine wpAnyH_take (i := 36) (oi := ⟨some 82, _, _, _, _, _⟩) (v := ?_) rfl (by kernel_rfl) (by kernel_rfl) (by kernel_rfl) (fun _ _ _ h => h) (Or.inl ⟨by kernel_rfl, ?_⟩) (by assumption) ?_; rotate_left; (intro V hSw; (try dsimp only at hSw); go_simp; first | done | with_reducible rfl); (try simp only [Act.put, List.setIfInBounds_toArray, List.set_cons_zero, List.set_cons_succ])
    refine wpAnyH_ready (rs := [37]) (by kernel_rfl) (by simp) ?_
    refine AllReadyH.cons (o := ⟨some 83, _, _, _, _, _⟩) rfl (fun K hK => ?_) AllReadyH.nil
    rw [if_pos (by rfl)]
    go_simp
    refine (HWK.out Y8 (HEE.out _ _ HB10.out.env hSY8)).mono ?_
    rintro e Y9 ⟨rfl, bY9⟩
    have hSY9 : Below w10.heap.size w10 Y9 := hSY8.trans (bY9.mono hSY8.size)
    refine hK.out _ _ hSY9 (fun hSn => ?_)
    clear hK K hSn bY9; (try simp only [Act.put, List.setIfInBounds_toArray, List.set_cons_zero, List.set_cons_succ])
    refine wpAnyH_take (i := 38) (oi := ⟨some 84, _, _, _, _, _⟩) (v := ?_) rfl (by kernel_rfl) (by kernel_rfl) (by kernel_rfl) (fun _ _ _ h => h) (Or.inl ⟨by kernel_rfl, ?_⟩) (by assumption) ?_; rotate_left; (intro V hSw; (try dsimp only at hSw); go_simp; first | done | with_reducible rfl); (try simp only [Act.put, List.setIfInBounds_toArray, List.set_cons_zero, List.set_cons_succ])
    refine wpAnyH_take (i := 39) (oi := ⟨some 2, _, _, _, _, _⟩) (v := ?_) rfl (by kernel_rfl) (by kernel_rfl) (by kernel_rfl) (fun _ _ _ h => h) (Or.inl ⟨by kernel_rfl, ?_⟩) (by assumption) ?_; rotate_left; (intro V hSw; (try dsimp only at hSw); go_simp; first | done | with_reducible rfl); (try simp only [Act.put, List.setIfInBounds_toArray, List.set_cons_zero, List.set_cons_succ])
    refine wpAnyH_done (by kernel_rfl) ?_ _
    go_wp2_with fail
    go_ret
    exact ⟨rfl, HB10.out.below.trans (hSY9.mono HB10.out.below.size)⟩
end Go.Proofs.YtcallgoglnkkiaaGreatDoor
