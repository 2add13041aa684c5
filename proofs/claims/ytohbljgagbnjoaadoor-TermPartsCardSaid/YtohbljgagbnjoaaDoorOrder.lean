/- cmp.Compare at int8, int and string: contracts. term.rows, term.order: the order of terms. -/
import Derived.Test.YtohbljgagbnjoaaDoorBase
import Derived.WalkKit
import Derived.Lib.Hide
import Derived.WalkLawsBesides
import Derived.WalkSpells
import Derived.Test.YtohbljgagbnjoaaDoorKinds
import Derived.Test.YtohbljgagbnjoaaDoorTm
import Derived.LoopNIn
import Derived.LoopTactic
import Derived.StillTailTactics
import Derived.Deep.QuietTactic
import Derived.BigQuiet
import Derived.Outline
set_option linter.unusedVariables false
namespace Go.Proofs.YtohbljgagbnjoaaDoor
open Go.RowKit

/-- How two numbers stand to each other. -/
def cmpI (a b : Int) : Int := if a < b then -1 else if b < a then 1 else 0

theorem nan_i8 (a : Int) (w : World) : Calls Tryd.prog 87 #[.int .i8 a] w fun e w' => e = .returned (.bool false) ∧ w = w' := by
  go_enter Tryd.func87, Tryd.ntmps87
  go_wp2
  go_ret
  exact ⟨ret_bool (by simp), rfl⟩
theorem nan_int (a : Int) (w : World) : Calls Tryd.prog 89 #[.int .i64 a] w fun e w' => e = .returned (.bool false) ∧ w = w' := by
  go_enter Tryd.func89, Tryd.ntmps89
  go_wp2
  go_ret
  exact ⟨ret_bool (by simp), rfl⟩
theorem nan_str (a : ByteArray) (w : World) : Calls Tryd.prog 88 #[.string a] w fun e w' => e = .returned (.bool false) ∧ w = w' := by
  go_enter Tryd.func88, Tryd.ntmps88
  go_wp2
  go_ret
  exact ⟨ret_bool (by simp), rfl⟩

theorem cmp_i8 (a b : Int) (w : World) : Calls Tryd.prog 66 #[.int .i8 a, .int .i8 b] w fun e w' => e = .returned (.int .i64 (cmpI a b)) ∧ w = w' := by
  unfold cmpI
  by_cases h1 : a < b
  · rw [if_pos h1]
    go_enter Tryd.func66, Tryd.ntmps66
    go_wp2_with (go_at_call 87; refine (nan_i8 _ _).mono ?_; rintro e w' ⟨rfl, rfl⟩)
    go_ret
    exact ⟨rfl, rfl⟩
  · rw [if_neg h1]
    by_cases h2 : b < a
    · rw [if_pos h2]
      go_enter Tryd.func66, Tryd.ntmps66
      go_wp2_with (go_at_call 87; refine (nan_i8 _ _).mono ?_; rintro e w' ⟨rfl, rfl⟩)
      go_ret
      exact ⟨rfl, rfl⟩
    · rw [if_neg h2]
      go_enter Tryd.func66, Tryd.ntmps66
      go_wp2_with (go_at_call 87; refine (nan_i8 _ _).mono ?_; rintro e w' ⟨rfl, rfl⟩)
      go_ret
      exact ⟨rfl, rfl⟩
theorem cmp_int (a b : Int) (w : World) : Calls Tryd.prog 69 #[.int .i64 a, .int .i64 b] w fun e w' => e = .returned (.int .i64 (cmpI a b)) ∧ w = w' := by
  unfold cmpI
  by_cases h1 : a < b
  · rw [if_pos h1]
    go_enter Tryd.func69, Tryd.ntmps69
    go_wp2_with (go_at_call 89; refine (nan_int _ _).mono ?_; rintro e w' ⟨rfl, rfl⟩)
    go_ret
    exact ⟨rfl, rfl⟩
  · rw [if_neg h1]
    by_cases h2 : b < a
    · rw [if_pos h2]
      go_enter Tryd.func69, Tryd.ntmps69
      go_wp2_with (go_at_call 89; refine (nan_int _ _).mono ?_; rintro e w' ⟨rfl, rfl⟩)
      go_ret
      exact ⟨rfl, rfl⟩
    · rw [if_neg h2]
      go_enter Tryd.func69, Tryd.ntmps69
      go_wp2_with (go_at_call 89; refine (nan_int _ _).mono ?_; rintro e w' ⟨rfl, rfl⟩)
      go_ret
      exact ⟨rfl, rfl⟩
/-- How two texts stand to each other. -/
def cmpS (a b : ByteArray) : Int := if Op.bytesLess a.toList b.toList = true then -1 else if a.toList = b.toList then 0 else 1
theorem cmp_str (a b : ByteArray) (w : World) : Calls Tryd.prog 67 #[.string a, .string b] w fun e w' => e = .returned (.int .i64 (cmpS a b)) ∧ w = w' := by
  unfold cmpS
  cases h1 : Op.bytesLess a.toList b.toList
  · by_cases h2 : a.toList = b.toList
    · rw [if_neg (by simp), if_pos h2]
      have h3 : (!a.toList == b.toList) = false := by rw [h2]; simp
      clear h2
      go_enter Tryd.func67, Tryd.ntmps67
      go_wp2_with (go_at_call 88; refine (nan_str _ _).mono ?_; rintro e w' ⟨rfl, rfl⟩)
      go_ret
      exact ⟨rfl, rfl⟩
    · rw [if_neg (by simp), if_neg h2]
      have h3 : (!a.toList == b.toList) = true := by simpa using h2
      clear h2
      go_enter Tryd.func67, Tryd.ntmps67
      go_wp2_with (go_at_call 88; refine (nan_str _ _).mono ?_; rintro e w' ⟨rfl, rfl⟩)
      go_ret
      exact ⟨rfl, rfl⟩
  · rw [if_pos rfl]
    go_enter Tryd.func67, Tryd.ntmps67
    go_wp2_with (go_at_call 88; refine (nan_str _ _).mono ?_; rintro e w' ⟨rfl, rfl⟩)
    go_ret
    exact ⟨rfl, rfl⟩

theorem cells_ints : Tryd.prog.cellsOf 3 = 1 := by kernel_rfl

/-- The first that is not 0. -/
def orL : List Int → Int
  | [] => 0
  | x :: l => if x = 0 then orL l else x

set_option maxHeartbeats 1000000 in
theorem cmpOr_any (g : Nat) (xs : List Int) (cap : Nat) (w : World) (hl : xs.length ≤ 1000) (hc : ∀ j x, xs[j]? = some x → w.cell? ⟨g, j, none⟩ = some (.int .i64 x)) :
    Calls Tryd.prog 68 #[.slice (some ⟨g, 0, none⟩) xs.length cap] w fun e w' => e = .returned (.int .i64 (orL xs)) ∧ w = w' := by
  have HC := Lib.hid hc
  clear hc
  go_enter Tryd.func68, Tryd.ntmps68
  go_wp2_with fail
  go_loop [8] (fun i => ∃ j : Nat, j ≤ xs.length ∧ i = .int .i64 j ∧ orL xs = orL (xs.drop j)) (fun i => xs.length - (intOf i).toNat)
  case atStart => exact ⟨0, Nat.zero_le _, rfl, rfl⟩
  case round =>
    obtain ⟨j, hj, rfl, ho⟩ := hrel
    have HO := Lib.hid ho
    clear ho
    by_cases hlt : j < xs.length
    · obtain ⟨x, hx⟩ : ∃ x, xs[j]? = some x := ⟨xs[j], List.getElem?_eq_getElem hlt⟩
      have hcell := HC.out j x hx
      have hd : xs.drop j = x :: xs.drop (j + 1) := by
        obtain ⟨h1, h2⟩ := List.getElem?_eq_some_iff.1 hx
        subst h2
        exact List.drop_eq_getElem_cons h1
      have HD := Lib.hid hd
      clear hd hx
      by_cases h0 : x = 0
      · subst h0
        go_wp2_with fail
        go_round
        case rel => exact ⟨j + 1, by omega, by go_num, by rw [HO.out, HD.out, orL, if_pos rfl]⟩
        case measure => simp [intOf]; omega
      · have hb : (x != 0) = true := by simpa using h0
        clear h0
        go_wp2_with fail
        go_ret
        exact ⟨ret_int (by rw [HO.out, HD.out, orL, if_neg (by simpa using hb)]), rfl⟩
    · obtain rfl : j = xs.length := by omega
      go_wp2_with fail
      go_ret
      exact ⟨ret_int (by rw [HO.out, List.drop_length]; rfl), rfl⟩
end Go.Proofs.YtohbljgagbnjoaaDoor
set_option linter.unusedVariables false
namespace Go.Proofs.YtohbljgagbnjoaaDoor
open Go.RowKit

mutual
/-- How a term stands to another one, by the code's own order. -/
def ordN : Tm → Tm → Int
  | .mk k n s t l, y => if k ≠ y.k then cmpI k y.k else if k = 1 then cmpS s y.s else if k = 3 then orL [cmpS s y.s, cmpS t y.t, cmpI n y.n]
      else if k = 5 ∨ k = 7 then (if l.length ≠ y.l.length then cmpI l.length y.l.length else ordL l y.l) else cmpI n y.n
def ordL : List Tm → List Tm → Int
  | x :: l, y :: m => if ordN x y = 0 then ordL l m else ordN x y
  | _, _ => 0
end
def ordR (l m : List Tm) : Int := if l.length ≠ m.length then cmpI l.length m.length else ordL l m

theorem ordL_drop {l m : List Tm} {j : Nat} {x y : Tm} (hx : l[j]? = some x) (hy : m[j]? = some y) : ordL (l.drop j) (m.drop j) = if ordN x y = 0 then ordL (l.drop (j + 1)) (m.drop (j + 1)) else ordN x y := by
  obtain ⟨h1, h2⟩ := List.getElem?_eq_some_iff.1 hx
  obtain ⟨h3, h4⟩ := List.getElem?_eq_some_iff.1 hy
  subst h2 h4
  rw [List.drop_eq_getElem_cons h1, List.drop_eq_getElem_cons h3, ordL]

/-- The contract of a function that compares two terms. -/
def OrdOf (x : Tm) : Prop := ∀ (y : Tm) (v u : Value) (w : World), TmAt (· < w.heap.size) w x v → TmAt (· < w.heap.size) w y u →
  Calls Tryd.prog 40 #[v, u] w fun e w' => e = .returned (.int .i64 (ordN x y)) ∧ Below w.heap.size w w'

set_option maxHeartbeats 2000000 in
set_option maxRecDepth 100000 in
theorem rows_any (l m : List Tm) (A B : Option Addr) (cap cap' : Nat) (w : World) (hR : TRow (· < w.heap.size) w A l.length cap l) (hQ : TRow (· < w.heap.size) w B m.length cap' m) (hO : ∀ x ∈ l, OrdOf x) :
    Calls Tryd.prog 70 #[.slice A l.length cap, .slice B m.length cap', .func (.func 40) #[] #[]] w fun e w' => e = .returned (.int .i64 (ordR l m)) ∧ Below w.heap.size w w' := by
  have hl1 := hR.max
  have hl2 := hQ.max
  unfold maxLen at hl1 hl2
  have HR := Lib.hid hR
  have HQ := Lib.hid hQ
  have HO := Lib.hid hO
  clear hR hQ hO
  unfold ordR
  by_cases hne : l.length = m.length
  · rw [if_neg (by simpa using hne)]
    have HE := Lib.hid hne
    have hne1 : ((l.length : Int) != (m.length : Int)) = false := by rw [hne]; simp
    clear hne
    go_enter Tryd.func70, Tryd.ntmps70
    go_wp2_with fail
    go_loopw [21] (fun i wr => ∃ j : Nat, j ≤ l.length ∧ i = .int .i64 j ∧ ordL l m = ordL (l.drop j) (m.drop j) ∧ Below w.heap.size w wr) (fun i _ => l.length - (intOf i).toNat)
    case atStart => exact ⟨0, Nat.zero_le _, rfl, rfl, Below.refl _ _⟩
    case round =>
      obtain ⟨j, hj, rfl, ho, hB⟩ := hrel
      have HOR := Lib.hid ho
      have HB := Lib.hid hB
      clear ho hB
      by_cases hlt : j < l.length
      · have hlt2 : j < m.length := by rw [← HE.out]; exact hlt
        obtain ⟨x, hx⟩ : ∃ x, l[j]? = some x := ⟨l[j], List.getElem?_eq_getElem hlt⟩
        obtain ⟨y, hy⟩ : ∃ y, m[j]? = some y := ⟨m[j], List.getElem?_eq_getElem hlt2⟩
        obtain ⟨ad, u, rfl, had, hE, hTx⟩ := HR.out.at_ j x hx
        obtain ⟨bd, u', rfl, hbd, hE', hTy⟩ := HQ.out.at_ j y hy
        have hTx1 : TmAt (· < wr.heap.size) wr x u := hTx.keep (fun b hb => HB.out.block b hb) (fun b hb => Nat.lt_of_lt_of_le hb HB.out.size)
        have hTy1 : TmAt (· < wr.heap.size) wr y u' := hTy.keep (fun b hb => HB.out.block b hb) (fun b hb => Nat.lt_of_lt_of_le hb HB.out.size)
        obtain ⟨c0, c1, c2, c3, c4, rfl, e0, e1, e2, e3, e4⟩ := hE.keep (HB.out.block ad.block had)
        obtain ⟨d0, d1, d2, d3, d4, rfl, g0, g1, g2, g3, g4⟩ := hE'.keep (HB.out.block bd.block hbd)
        have HXY := Lib.hid (ordL_drop hx hy)
        have hmem := List.mem_of_getElem? hx
        have HC : Hid (Calls Tryd.prog 40 #[.agg #[c0, c1, c2, c3, c4], .agg #[d0, d1, d2, d3, d4]] { wr with drawn := wr.drawn + 1 } fun e w' => e = .returned (.int .i64 (ordN x y)) ∧ Below wr.heap.size wr w') :=
          (HO.out x hmem y _ _ { wr with drawn := wr.drawn + 1 } (hTx1.keep (fun _ _ => rfl) (fun _ h => h)) (hTy1.keep (fun _ _ => rfl) (fun _ h => h))).mono fun e w' ⟨he, hb⟩ => ⟨he, (⟨rfl, rfl, rfl, Nat.le_refl _, fun _ _ => rfl⟩ : Below wr.heap.size wr { wr with drawn := wr.drawn + 1 }).trans hb⟩
        clear hx hy hE hE' hTx hTy hTx1 hTy1 hmem had hbd
        have i0 : (0 : Int) ≤ (j : Int) := by omega
        have i1 : (j : Int) < (l.length : Int) := by omega
        have i2 : (j : Int) < (m.length : Int) := by omega
        go_wp2_with fail
        go_still_tail 9, (by kernel_rfl)
        go_wp2_with fail
        refine HC.out.mono ?_
        clear e0 e1 e2 e3 e4 g0 g1 g2 g3 g4
        rintro e w1 ⟨rfl, b1⟩
        have HB1 := Lib.hid (HB.out.trans (b1.mono HB.out.size))
        clear b1
        by_cases h0 : ordN x y = 0
        · have h01 : (ordN x y != 0) = false := by simpa using h0
          have HH := Lib.hid h0
          clear h0
          go_wp2_with fail
          go_roundw
          case rel => exact ⟨j + 1, by omega, by go_num, by rw [HOR.out, HXY.out, if_pos HH.out], HB1.out⟩
          case measure => simp [intOf]; omega
        · have h01 : (ordN x y != 0) = true := by simpa using h0
          have HH := Lib.hid h0
          clear h0
          go_wp2_with fail
          go_ret
          exact ⟨ret_int (by rw [HOR.out, HXY.out, if_neg HH.out]), HB1.out⟩
      · obtain rfl : j = l.length := by omega
        go_wp2_with fail
        go_ret
        exact ⟨ret_int (by rw [HOR.out, List.drop_length, List.drop_of_length_le (by rw [HE.out]; omega)]; rfl), HB.out⟩
  · rw [if_pos (by simpa using hne)]
    have hne1 : ((l.length : Int) != (m.length : Int)) = true := by simp; omega
    clear hne
    go_enter Tryd.func70, Tryd.ntmps70
    go_wp2_with fail
    refine (cmp_int _ _ _).mono ?_
    rintro e w1 ⟨rfl, rfl⟩
    go_wp2_with fail
    go_ret
    exact ⟨rfl, Below.refl _ _⟩
end Go.Proofs.YtohbljgagbnjoaaDoor
