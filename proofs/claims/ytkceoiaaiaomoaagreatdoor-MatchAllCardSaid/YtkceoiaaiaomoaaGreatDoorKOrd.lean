/- cmp.Compare at int8, int and string: contracts. term.rows, term.order: the order of terms. term.order kind by kind; term.Compare. -/
import Derived.Test.YtkceoiaaiaomoaaGreatDoorKBnd
import Derived.Test.YtkceoiaaiaomoaaGreatDoorKKinds
import Derived.Test.YtkceoiaaiaomoaaGreatDoorKAstC
import Derived.WalkKit
import Derived.Lib.Hide
import Derived.WalkLawsBesides
import Derived.WalkSpells
import Derived.LoopNIn
import Derived.LoopTactic
import Derived.StillTailTactics
import Derived.Deep.QuietTactic
import Derived.BigQuiet
import Derived.Outline
set_option linter.unusedVariables false
namespace Go.Proofs.YtkceoiaaiaomoaaGreatDoor
open Go.RowKit

def cmpI (a b : Int) : Int := if a < b then -1 else if b < a then 1 else 0

theorem nan_i8 (a : Int) (w : World) : Calls Tryz.prog 304 #[.int .i8 a] w fun e w' => e = .returned (.bool false) ∧ w = w' := by
  go_enter Tryz.func304, Tryz.ntmps304
  go_wp2
  go_ret
  exact ⟨ret_bool (by simp), rfl⟩
theorem nan_int (a : Int) (w : World) : Calls Tryz.prog 306 #[.int .i64 a] w fun e w' => e = .returned (.bool false) ∧ w = w' := by
  go_enter Tryz.func306, Tryz.ntmps306
  go_wp2
  go_ret
  exact ⟨ret_bool (by simp), rfl⟩
theorem nan_str (a : ByteArray) (w : World) : Calls Tryz.prog 305 #[.string a] w fun e w' => e = .returned (.bool false) ∧ w = w' := by
  go_enter Tryz.func305, Tryz.ntmps305
  go_wp2
  go_ret
  exact ⟨ret_bool (by simp), rfl⟩

theorem cmp_i8 (a b : Int) (w : World) : Calls Tryz.prog 285 #[.int .i8 a, .int .i8 b] w fun e w' => e = .returned (.int .i64 (cmpI a b)) ∧ w = w' := by
  unfold cmpI
  by_cases h1 : a < b
  · rw [if_pos h1]
    go_enter Tryz.func285, Tryz.ntmps285
    go_wp2_with (go_at_call 304; refine (nan_i8 _ _).mono ?_; rintro e w' ⟨rfl, rfl⟩)
    go_ret
    exact ⟨rfl, rfl⟩
  · rw [if_neg h1]
    by_cases h2 : b < a
    · rw [if_pos h2]
      go_enter Tryz.func285, Tryz.ntmps285
      go_wp2_with (go_at_call 304; refine (nan_i8 _ _).mono ?_; rintro e w' ⟨rfl, rfl⟩)
      go_ret
      exact ⟨rfl, rfl⟩
    · rw [if_neg h2]
      go_enter Tryz.func285, Tryz.ntmps285
      go_wp2_with (go_at_call 304; refine (nan_i8 _ _).mono ?_; rintro e w' ⟨rfl, rfl⟩)
      go_ret
      exact ⟨rfl, rfl⟩
theorem cmp_int (a b : Int) (w : World) : Calls Tryz.prog 288 #[.int .i64 a, .int .i64 b] w fun e w' => e = .returned (.int .i64 (cmpI a b)) ∧ w = w' := by
  unfold cmpI
  by_cases h1 : a < b
  · rw [if_pos h1]
    go_enter Tryz.func288, Tryz.ntmps288
    go_wp2_with (go_at_call 306; refine (nan_int _ _).mono ?_; rintro e w' ⟨rfl, rfl⟩)
    go_ret
    exact ⟨rfl, rfl⟩
  · rw [if_neg h1]
    by_cases h2 : b < a
    · rw [if_pos h2]
      go_enter Tryz.func288, Tryz.ntmps288
      go_wp2_with (go_at_call 306; refine (nan_int _ _).mono ?_; rintro e w' ⟨rfl, rfl⟩)
      go_ret
      exact ⟨rfl, rfl⟩
    · rw [if_neg h2]
      go_enter Tryz.func288, Tryz.ntmps288
      go_wp2_with (go_at_call 306; refine (nan_int _ _).mono ?_; rintro e w' ⟨rfl, rfl⟩)
      go_ret
      exact ⟨rfl, rfl⟩
def cmpS (a b : ByteArray) : Int := if Op.bytesLess a.toList b.toList = true then -1 else if a.toList = b.toList then 0 else 1
theorem cmp_str (a b : ByteArray) (w : World) : Calls Tryz.prog 286 #[.string a, .string b] w fun e w' => e = .returned (.int .i64 (cmpS a b)) ∧ w = w' := by
  unfold cmpS
  cases h1 : Op.bytesLess a.toList b.toList
  · by_cases h2 : a.toList = b.toList
    · rw [if_neg (by simp), if_pos h2]
      have h3 : (!a.toList == b.toList) = false := by rw [h2]; simp
      clear h2
      go_enter Tryz.func286, Tryz.ntmps286
      go_wp2_with (go_at_call 305; refine (nan_str _ _).mono ?_; rintro e w' ⟨rfl, rfl⟩)
      go_ret
      exact ⟨rfl, rfl⟩
    · rw [if_neg (by simp), if_neg h2]
      have h3 : (!a.toList == b.toList) = true := by simpa using h2
      clear h2
      go_enter Tryz.func286, Tryz.ntmps286
      go_wp2_with (go_at_call 305; refine (nan_str _ _).mono ?_; rintro e w' ⟨rfl, rfl⟩)
      go_ret
      exact ⟨rfl, rfl⟩
  · rw [if_pos rfl]
    go_enter Tryz.func286, Tryz.ntmps286
    go_wp2_with (go_at_call 305; refine (nan_str _ _).mono ?_; rintro e w' ⟨rfl, rfl⟩)
    go_ret
    exact ⟨rfl, rfl⟩

def orL : List Int → Int
  | [] => 0
  | x :: l => if x = 0 then orL l else x

set_option maxHeartbeats 1000000 in
theorem cmpOr_any (g : Nat) (xs : List Int) (cap : Nat) (w : World) (hl : xs.length ≤ 1000) (hc : ∀ j x, xs[j]? = some x → w.cell? ⟨g, j, none⟩ = some (.int .i64 x)) :
    Calls Tryz.prog 287 #[.slice (some ⟨g, 0, none⟩) xs.length cap] w fun e w' => e = .returned (.int .i64 (orL xs)) ∧ w = w' := by
  have HC := Lib.hid hc
  clear hc
  go_enter Tryz.func287, Tryz.ntmps287
  go_wp2_with fail
  go_loop [8] (fun i => ∃ j : Nat, j ≤ xs.length ∧ i = .int .i64 j ∧ orL xs = orL (xs.drop j)) (fun i => xs.length - (intOf i).toNat)
  case atStart => exact ⟨0, Nat.zero_le _, rfl, rfl⟩
  case round =>
    obtain ⟨j, hj, rfl, ho⟩ := hrel
    have HO := Lib.hid ho
    clear ho
    by_cases hlt : j < xs.length
    · obtain ⟨x, hx⟩ : ∃ x, xs[j]? = some x := ⟨xs[j], List.getElem?_eq_getElem hlt⟩
      have hcell := HC.out j x hx
      have hd : xs.drop j = x :: xs.drop (j + 1) := by
        obtain ⟨h1, h2⟩ := List.getElem?_eq_some_iff.1 hx
        subst h2
        exact List.drop_eq_getElem_cons h1
      have HD := Lib.hid hd
      clear hd hx
      by_cases h0 : x = 0
      · subst h0
        go_wp2_with fail
        go_round
        case rel => exact ⟨j + 1, by omega, by go_num, by rw [HO.out, HD.out, orL, if_pos rfl]⟩
        case measure => simp [intOf]; omega
      · have hb : (x != 0) = true := by simpa using h0
        clear h0
        go_wp2_with fail
        go_ret
        exact ⟨ret_int (by rw [HO.out, HD.out, orL, if_neg (by simpa using hb)]), rfl⟩
    · obtain rfl : j = xs.length := by omega
      go_wp2_with fail
      go_ret
      exact ⟨ret_int (by rw [HO.out, List.drop_length]; rfl), rfl⟩
end Go.Proofs.YtkceoiaaiaomoaaGreatDoor
set_option linter.unusedVariables false
namespace Go.Proofs.YtkceoiaaiaomoaaGreatDoor
open Go.RowKit

mutual
def ordN : Tm → Tm → Int
  | .mk k n s t l, y => if k ≠ y.k then cmpI k y.k else if k = 1 then cmpS s y.s else if k = 3 then orL [cmpS s y.s, cmpS t y.t, cmpI n y.n]
      else if k = 5 ∨ k = 7 then (if l.length ≠ y.l.length then cmpI l.length y.l.length else ordL l y.l) else cmpI n y.n
def ordL : List Tm → List Tm → Int
  | x :: l, y :: m => if ordN x y = 0 then ordL l m else ordN x y
  | _, _ => 0
end
def ordR (l m : List Tm) : Int := if l.length ≠ m.length then cmpI l.length m.length else ordL l m

theorem ordL_drop {l m : List Tm} {j : Nat} {x y : Tm} (hx : l[j]? = some x) (hy : m[j]? = some y) : ordL (l.drop j) (m.drop j) = if ordN x y = 0 then ordL (l.drop (j + 1)) (m.drop (j + 1)) else ordN x y := by
  obtain ⟨h1, h2⟩ := List.getElem?_eq_some_iff.1 hx
  obtain ⟨h3, h4⟩ := List.getElem?_eq_some_iff.1 hy
  subst h2 h4
  rw [List.drop_eq_getElem_cons h1, List.drop_eq_getElem_cons h3, ordL]

def OrdOf (x : Tm) : Prop := ∀ (y : Tm) (v u : Value) (w : World), TmAt (· < w.heap.size) w x v → TmAt (· < w.heap.size) w y u →
  Calls Tryz.prog 240 #[v, u] w fun e w' => e = .returned (.int .i64 (ordN x y)) ∧ Below w.heap.size w w'

set_option maxHeartbeats 2000000 in
set_option maxRecDepth 100000 in
theorem rows_any (l m : List Tm) (A B : Option Addr) (cap cap' : Nat) (w : World) (hR : TRow (· < w.heap.size) w A l.length cap l) (hQ : TRow (· < w.heap.size) w B m.length cap' m) (hO : ∀ x ∈ l, OrdOf x) :
    Calls Tryz.prog 289 #[.slice A l.length cap, .slice B m.length cap', .func (.func 240) #[] #[]] w fun e w' => e = .returned (.int .i64 (ordR l m)) ∧ Below w.heap.size w w' := by
  have hl1 := hR.max
  have hl2 := hQ.max
  unfold maxLen at hl1 hl2
  have HR := Lib.hid hR
  have HQ := Lib.hid hQ
  have HO := Lib.hid hO
  clear hR hQ hO
  unfold ordR
  by_cases hne : l.length = m.length
  · rw [if_neg (by simpa using hne)]
    have HE := Lib.hid hne
    have hne1 : ((l.length : Int) != (m.length : Int)) = false := by rw [hne]; simp
    clear hne
    go_enter Tryz.func289, Tryz.ntmps289
    go_wp2_with fail
    go_loopw [21] (fun i wr => ∃ j : Nat, j ≤ l.length ∧ i = .int .i64 j ∧ ordL l m = ordL (l.drop j) (m.drop j) ∧ Below w.heap.size w wr) (fun i _ => l.length - (intOf i).toNat)
    case atStart => exact ⟨0, Nat.zero_le _, rfl, rfl, Below.refl _ _⟩
    case round =>
      obtain ⟨j, hj, rfl, ho, hB⟩ := hrel
      have HOR := Lib.hid ho
      have HB := Lib.hid hB
      clear ho hB
      by_cases hlt : j < l.length
      · have hlt2 : j < m.length := by rw [← HE.out]; exact hlt
        obtain ⟨x, hx⟩ : ∃ x, l[j]? = some x := ⟨l[j], List.getElem?_eq_getElem hlt⟩
        obtain ⟨y, hy⟩ : ∃ y, m[j]? = some y := ⟨m[j], List.getElem?_eq_getElem hlt2⟩
        obtain ⟨ad, u, rfl, had, hE, hTx⟩ := HR.out.at_ j x hx
        obtain ⟨bd, u', rfl, hbd, hE', hTy⟩ := HQ.out.at_ j y hy
        have hTx1 : TmAt (· < wr.heap.size) wr x u := hTx.keep (fun b hb => HB.out.block b hb) (fun b hb => Nat.lt_of_lt_of_le hb HB.out.size)
        have hTy1 : TmAt (· < wr.heap.size) wr y u' := hTy.keep (fun b hb => HB.out.block b hb) (fun b hb => Nat.lt_of_lt_of_le hb HB.out.size)
        obtain ⟨c0, c1, c2, c3, c4, rfl, e0, e1, e2, e3, e4⟩ := hE.keep (HB.out.block ad.block had)
        obtain ⟨d0, d1, d2, d3, d4, rfl, g0, g1, g2, g3, g4⟩ := hE'.keep (HB.out.block bd.block hbd)
        have HXY := Lib.hid (ordL_drop hx hy)
        have hmem := List.mem_of_getElem? hx
        have HC : Hid (Calls Tryz.prog 240 #[.agg #[c0, c1, c2, c3, c4], .agg #[d0, d1, d2, d3, d4]] { wr with drawn := wr.drawn + 1 } fun e w' => e = .returned (.int .i64 (ordN x y)) ∧ Below wr.heap.size wr w') :=
          (HO.out x hmem y _ _ { wr with drawn := wr.drawn + 1 } (hTx1.keep (fun _ _ => rfl) (fun _ h => h)) (hTy1.keep (fun _ _ => rfl) (fun _ h => h))).mono fun e w' ⟨he, hb⟩ => ⟨he, (⟨rfl, rfl, rfl, Nat.le_refl _, fun _ _ => rfl⟩ : Below wr.heap.size wr { wr with drawn := wr.drawn + 1 }).trans hb⟩
        clear hx hy hE hE' hTx hTy hTx1 hTy1 hmem had hbd
        have i0 : (0 : Int) ≤ (j : Int) := by omega
        have i1 : (j : Int) < (l.length : Int) := by omega
        have i2 : (j : Int) < (m.length : Int) := by omega
        go_wp2_with fail
        go_still_tail 9, (by kernel_rfl)
        go_wp2_with fail
        refine HC.out.mono ?_
        clear e0 e1 e2 e3 e4 g0 g1 g2 g3 g4
        rintro e w1 ⟨rfl, b1⟩
        have HB1 := Lib.hid (HB.out.trans (b1.mono HB.out.size))
        clear b1
        by_cases h0 : ordN x y = 0
        · have h01 : (ordN x y != 0) = false := by simpa using h0
          have HH := Lib.hid h0
          clear h0
          go_wp2_with fail
          go_roundw
          case rel => exact ⟨j + 1, by omega, by go_num, by rw [HOR.out, HXY.out, if_pos HH.out], HB1.out⟩
          case measure => simp [intOf]; omega
        · have h01 : (ordN x y != 0) = true := by simpa using h0
          have HH := Lib.hid h0
          clear h0
          go_wp2_with fail
          go_ret
          exact ⟨ret_int (by rw [HOR.out, HXY.out, if_neg HH.out]), HB1.out⟩
      · obtain rfl : j = l.length := by omega
        go_wp2_with fail
        go_ret
        exact ⟨ret_int (by rw [HOR.out, List.drop_length, List.drop_of_length_le (by rw [HE.out]; omega)]; rfl), HB.out⟩
  · rw [if_pos (by simpa using hne)]
    have hne1 : ((l.length : Int) != (m.length : Int)) = true := by simp; omega
    clear hne
    go_enter Tryz.func289, Tryz.ntmps289
    go_wp2_with fail
    refine (cmp_int _ _ _).mono ?_
    rintro e w1 ⟨rfl, rfl⟩
    go_wp2_with fail
    go_ret
    exact ⟨rfl, Below.refl _ _⟩
end Go.Proofs.YtkceoiaaiaomoaaGreatDoor
set_option linter.unusedVariables false
namespace Go.Proofs.YtkceoiaaiaomoaaGreatDoor
open Go.RowKit

set_option maxHeartbeats 1000000 in
theorem ord_ne (k k' : Int) (n n' : Int) (s t s' t' : ByteArray) (A A' : Option Addr) (len cap len' cap' : Nat) (hk : ¬ k = k') (w : World) :
    Calls Tryz.prog 240 #[.agg #[.int .i8 k, .int .i64 n, .string s, .string t, .slice A len cap], .agg #[.int .i8 k', .int .i64 n', .string s', .string t', .slice A' len' cap']] w fun e w' => e = .returned (.int .i64 (cmpI k k')) ∧ Below w.heap.size w w' := by
  have hk1 : (k != k') = true := by simpa using hk
  clear hk
  go_enter Tryz.func240, Tryz.ntmps240
  go_wp2_with fail
  refine (cmp_i8 _ _ _).mono ?_
  rintro e w1 ⟨rfl, rfl⟩
  go_wp2_with fail
  go_ret
  exact ⟨rfl, ((Below.refl _ w).alloc (Nat.le_refl _) _).alloc (by simp) _⟩

set_option maxHeartbeats 2000000 in
set_option maxRecDepth 100000 in
theorem ord_integer (n n' : Int) (s t s' t' : ByteArray) (A A' : Option Addr) (len cap len' cap' : Nat) (w : World) :
    Calls Tryz.prog 240 #[.agg #[.int .i8 0, .int .i64 n, .string s, .string t, .slice A len cap], .agg #[.int .i8 0, .int .i64 n', .string s', .string t', .slice A' len' cap']] w fun e w' => e = .returned (.int .i64 (cmpI n n')) ∧ Below w.heap.size w w' := by
  have q0 := ta_integer_atom (.int .i64 n)
  have q1 := ta_integer_fun (.int .i64 n)
  have q2 := ta_integer_tuple (.int .i64 n)
  have q3 := ta_integer_cons (.int .i64 n)
  have HB0 := Lib.hid (((Below.refl _ w).alloc (Nat.le_refl _) (.cells #[.int .i8 0, .int .i64 n, .string s, .string t, .slice A len cap] 44)).alloc (by simp) (.cells #[.int .i8 0, .int .i64 n', .string s', .string t', .slice A' len' cap'] 44))
  go_enter Tryz.func240, Tryz.ntmps240
  go_wp2_with fail
  refine (nodeOf_integer n s t A len cap _).mono ?_
  rintro e w1 ⟨rfl, b1⟩
  have HB1 := Lib.hid (HB0.out.trans (b1.mono (by simp; omega)))
  have hx : w1.heap[w.heap.size]? = _ := (b1.block w.heap.size (by simp; omega)).trans ((Below.heap_alloc _ _ _ (by simp)).trans (block_alloc w (.cells #[.int .i8 0, .int .i64 n, .string s, .string t, .slice A len cap] 44)))
  have hy : w1.heap[w.heap.size + 1]? = some (.cells #[.int .i8 0, .int .i64 n', .string s', .string t', .slice A' len' cap'] 44) := (b1.block _ (by simp)).trans (by
    have := block_alloc (w.alloc (.cells #[.int .i8 0, .int .i64 n, .string s, .string t, .slice A len cap] 44)) (.cells #[.int .i8 0, .int .i64 n', .string s', .string t', .slice A' len' cap'] 44)
    rwa [World.size_alloc] at this)
  have x1 : w1.cell? ⟨w.heap.size, 1, none⟩ = some (.int .i64 n) := cell_of_row hx rfl
  have y1 : w1.cell? ⟨w.heap.size + 1, 1, none⟩ = some (.int .i64 n') := cell_of_row hy rfl
  have x2 : w1.cell? ⟨w.heap.size, 2, none⟩ = some (.string s) := cell_of_row hx rfl
  have y2 : w1.cell? ⟨w.heap.size + 1, 2, none⟩ = some (.string s') := cell_of_row hy rfl
  have x3 : w1.cell? ⟨w.heap.size, 3, none⟩ = some (.string t) := cell_of_row hx rfl
  have y3 : w1.cell? ⟨w.heap.size + 1, 3, none⟩ = some (.string t') := cell_of_row hy rfl
  have x4 : w1.cell? ⟨w.heap.size, 4, none⟩ = some (.slice A len cap) := cell_of_row hx rfl
  have y4 : w1.cell? ⟨w.heap.size + 1, 4, none⟩ = some (.slice A' len' cap') := cell_of_row hy rfl
  clear hx hy b1
  go_wp2_with fail
  refine (cmp_int _ _ _).mono ?_
  rintro e w2 ⟨rfl, rfl⟩
  go_wp2_with fail
  go_ret
  exact ⟨rfl, HB1.out⟩

set_option maxHeartbeats 2000000 in
set_option maxRecDepth 100000 in
theorem ord_atom (n n' : Int) (s t s' t' : ByteArray) (A A' : Option Addr) (len cap len' cap' : Nat) (w : World) :
    Calls Tryz.prog 240 #[.agg #[.int .i8 1, .int .i64 n, .string s, .string t, .slice A len cap], .agg #[.int .i8 1, .int .i64 n', .string s', .string t', .slice A' len' cap']] w fun e w' => e = .returned (.int .i64 (cmpS s s')) ∧ Below w.heap.size w w' := by
  have q0 := ta_atom_atom (.string s)
  have HB0 := Lib.hid (((Below.refl _ w).alloc (Nat.le_refl _) (.cells #[.int .i8 1, .int .i64 n, .string s, .string t, .slice A len cap] 44)).alloc (by simp) (.cells #[.int .i8 1, .int .i64 n', .string s', .string t', .slice A' len' cap'] 44))
  go_enter Tryz.func240, Tryz.ntmps240
  go_wp2_with fail
  refine (nodeOf_atom n s t A len cap _).mono ?_
  rintro e w1 ⟨rfl, b1⟩
  have HB1 := Lib.hid (HB0.out.trans (b1.mono (by simp; omega)))
  have hx : w1.heap[w.heap.size]? = _ := (b1.block w.heap.size (by simp; omega)).trans ((Below.heap_alloc _ _ _ (by simp)).trans (block_alloc w (.cells #[.int .i8 1, .int .i64 n, .string s, .string t, .slice A len cap] 44)))
  have hy : w1.heap[w.heap.size + 1]? = some (.cells #[.int .i8 1, .int .i64 n', .string s', .string t', .slice A' len' cap'] 44) := (b1.block _ (by simp)).trans (by
    have := block_alloc (w.alloc (.cells #[.int .i8 1, .int .i64 n, .string s, .string t, .slice A len cap] 44)) (.cells #[.int .i8 1, .int .i64 n', .string s', .string t', .slice A' len' cap'] 44)
    rwa [World.size_alloc] at this)
  have x1 : w1.cell? ⟨w.heap.size, 1, none⟩ = some (.int .i64 n) := cell_of_row hx rfl
  have y1 : w1.cell? ⟨w.heap.size + 1, 1, none⟩ = some (.int .i64 n') := cell_of_row hy rfl
  have x2 : w1.cell? ⟨w.heap.size, 2, none⟩ = some (.string s) := cell_of_row hx rfl
  have y2 : w1.cell? ⟨w.heap.size + 1, 2, none⟩ = some (.string s') := cell_of_row hy rfl
  have x3 : w1.cell? ⟨w.heap.size, 3, none⟩ = some (.string t) := cell_of_row hx rfl
  have y3 : w1.cell? ⟨w.heap.size + 1, 3, none⟩ = some (.string t') := cell_of_row hy rfl
  have x4 : w1.cell? ⟨w.heap.size, 4, none⟩ = some (.slice A len cap) := cell_of_row hx rfl
  have y4 : w1.cell? ⟨w.heap.size + 1, 4, none⟩ = some (.slice A' len' cap') := cell_of_row hy rfl
  clear hx hy b1
  go_wp2_with fail
  refine (cmp_str _ _ _).mono ?_
  rintro e w2 ⟨rfl, rfl⟩
  go_wp2_with fail
  go_ret
  exact ⟨rfl, HB1.out⟩

set_option maxHeartbeats 2000000 in
set_option maxRecDepth 100000 in
theorem ord_ref (n n' : Int) (s t s' t' : ByteArray) (A A' : Option Addr) (len cap len' cap' : Nat) (w : World) :
    Calls Tryz.prog 240 #[.agg #[.int .i8 2, .int .i64 n, .string s, .string t, .slice A len cap], .agg #[.int .i8 2, .int .i64 n', .string s', .string t', .slice A' len' cap']] w fun e w' => e = .returned (.int .i64 (cmpI n n')) ∧ Below w.heap.size w w' := by
  have q0 := ta_ref_atom (.int .i64 n)
  have q1 := ta_ref_fun (.int .i64 n)
  have q2 := ta_ref_tuple (.int .i64 n)
  have q3 := ta_ref_cons (.int .i64 n)
  have HB0 := Lib.hid (((Below.refl _ w).alloc (Nat.le_refl _) (.cells #[.int .i8 2, .int .i64 n, .string s, .string t, .slice A len cap] 44)).alloc (by simp) (.cells #[.int .i8 2, .int .i64 n', .string s', .string t', .slice A' len' cap'] 44))
  go_enter Tryz.func240, Tryz.ntmps240
  go_wp2_with fail
  refine (nodeOf_ref n s t A len cap _).mono ?_
  rintro e w1 ⟨rfl, b1⟩
  have HB1 := Lib.hid (HB0.out.trans (b1.mono (by simp; omega)))
  have hx : w1.heap[w.heap.size]? = _ := (b1.block w.heap.size (by simp; omega)).trans ((Below.heap_alloc _ _ _ (by simp)).trans (block_alloc w (.cells #[.int .i8 2, .int .i64 n, .string s, .string t, .slice A len cap] 44)))
  have hy : w1.heap[w.heap.size + 1]? = some (.cells #[.int .i8 2, .int .i64 n', .string s', .string t', .slice A' len' cap'] 44) := (b1.block _ (by simp)).trans (by
    have := block_alloc (w.alloc (.cells #[.int .i8 2, .int .i64 n, .string s, .string t, .slice A len cap] 44)) (.cells #[.int .i8 2, .int .i64 n', .string s', .string t', .slice A' len' cap'] 44)
    rwa [World.size_alloc] at this)
  have x1 : w1.cell? ⟨w.heap.size, 1, none⟩ = some (.int .i64 n) := cell_of_row hx rfl
  have y1 : w1.cell? ⟨w.heap.size + 1, 1, none⟩ = some (.int .i64 n') := cell_of_row hy rfl
  have x2 : w1.cell? ⟨w.heap.size, 2, none⟩ = some (.string s) := cell_of_row hx rfl
  have y2 : w1.cell? ⟨w.heap.size + 1, 2, none⟩ = some (.string s') := cell_of_row hy rfl
  have x3 : w1.cell? ⟨w.heap.size, 3, none⟩ = some (.string t) := cell_of_row hx rfl
  have y3 : w1.cell? ⟨w.heap.size + 1, 3, none⟩ = some (.string t') := cell_of_row hy rfl
  have x4 : w1.cell? ⟨w.heap.size, 4, none⟩ = some (.slice A len cap) := cell_of_row hx rfl
  have y4 : w1.cell? ⟨w.heap.size + 1, 4, none⟩ = some (.slice A' len' cap') := cell_of_row hy rfl
  clear hx hy b1
  go_wp2_with fail
  refine (cmp_int _ _ _).mono ?_
  rintro e w2 ⟨rfl, rfl⟩
  go_wp2_with fail
  go_ret
  exact ⟨rfl, HB1.out⟩

set_option maxHeartbeats 2000000 in
set_option maxRecDepth 100000 in
theorem ord_fun (n n' : Int) (s t s' t' : ByteArray) (A A' : Option Addr) (len cap len' cap' : Nat) (w : World) :
    Calls Tryz.prog 240 #[.agg #[.int .i8 3, .int .i64 n, .string s, .string t, .slice A len cap], .agg #[.int .i8 3, .int .i64 n', .string s', .string t', .slice A' len' cap']] w fun e w' => e = .returned (.int .i64 (orL [cmpS s s', cmpS t t', cmpI n n'])) ∧ Below w.heap.size w w' := by
  have q0 := ta_fun_atom (.agg #[.string s, .string t, .int .i64 n])
  have q1 := ta_fun_fun (.agg #[.string s, .string t, .int .i64 n])
  have HB0 := Lib.hid (((Below.refl _ w).alloc (Nat.le_refl _) (.cells #[.int .i8 3, .int .i64 n, .string s, .string t, .slice A len cap] 44)).alloc (by simp) (.cells #[.int .i8 3, .int .i64 n', .string s', .string t', .slice A' len' cap'] 44))
  go_enter Tryz.func240, Tryz.ntmps240
  go_wp2_with fail
  refine (nodeOf_fun n s t A len cap _).mono ?_
  rintro e w1 ⟨rfl, b1⟩
  have HB1 := Lib.hid (HB0.out.trans (b1.mono (by simp; omega)))
  have hx : w1.heap[w.heap.size]? = _ := (b1.block w.heap.size (by simp; omega)).trans ((Below.heap_alloc _ _ _ (by simp)).trans (block_alloc w (.cells #[.int .i8 3, .int .i64 n, .string s, .string t, .slice A len cap] 44)))
  have hy : w1.heap[w.heap.size + 1]? = some (.cells #[.int .i8 3, .int .i64 n', .string s', .string t', .slice A' len' cap'] 44) := (b1.block _ (by simp)).trans (by
    have := block_alloc (w.alloc (.cells #[.int .i8 3, .int .i64 n, .string s, .string t, .slice A len cap] 44)) (.cells #[.int .i8 3, .int .i64 n', .string s', .string t', .slice A' len' cap'] 44)
    rwa [World.size_alloc] at this)
  have x1 : w1.cell? ⟨w.heap.size, 1, none⟩ = some (.int .i64 n) := cell_of_row hx rfl
  have y1 : w1.cell? ⟨w.heap.size + 1, 1, none⟩ = some (.int .i64 n') := cell_of_row hy rfl
  have x2 : w1.cell? ⟨w.heap.size, 2, none⟩ = some (.string s) := cell_of_row hx rfl
  have y2 : w1.cell? ⟨w.heap.size + 1, 2, none⟩ = some (.string s') := cell_of_row hy rfl
  have x3 : w1.cell? ⟨w.heap.size, 3, none⟩ = some (.string t) := cell_of_row hx rfl
  have y3 : w1.cell? ⟨w.heap.size + 1, 3, none⟩ = some (.string t') := cell_of_row hy rfl
  have x4 : w1.cell? ⟨w.heap.size, 4, none⟩ = some (.slice A len cap) := cell_of_row hx rfl
  have y4 : w1.cell? ⟨w.heap.size + 1, 4, none⟩ = some (.slice A' len' cap') := cell_of_row hy rfl
  have hs1 : w.heap.size + 1 < w1.heap.size := heap_lt hy
  obtain ⟨w2, hw2⟩ : ∃ w2, w2 = w1.alloc (.cells #[.string s, .string t, .int .i64 n] 277) := ⟨_, rfl⟩
  have HB2 : Hid (Below w.heap.size w w2) := by rw [hw2]; exact HB1.out.alloc (by omega) _
  have hf : w2.heap[w1.heap.size]? = some (.cells #[.string s, .string t, .int .i64 n] 277) := by rw [hw2]; exact block_alloc _ _
  have hy2 : w2.heap[w.heap.size + 1]? = some (.cells #[.int .i8 3, .int .i64 n', .string s', .string t', .slice A' len' cap'] 44) := by rw [hw2]; exact (Below.heap_alloc _ _ _ hs1).trans hy
  have f0 : w2.cell? ⟨w1.heap.size, 0, none⟩ = some (.string s) := cell_of_row hf rfl
  have f1 : w2.cell? ⟨w1.heap.size, 1, none⟩ = some (.string t) := cell_of_row hf rfl
  have f2 : w2.cell? ⟨w1.heap.size, 2, none⟩ = some (.int .i64 n) := cell_of_row hf rfl
  have z1 : w2.cell? ⟨w.heap.size + 1, 1, none⟩ = some (.int .i64 n') := cell_of_row hy2 rfl
  have z2 : w2.cell? ⟨w.heap.size + 1, 2, none⟩ = some (.string s') := cell_of_row hy2 rfl
  have z3 : w2.cell? ⟨w.heap.size + 1, 3, none⟩ = some (.string t') := cell_of_row hy2 rfl
  clear hf hy2 hx hy b1 x1 x2 x3 x4 y1 y2 y3 y4
  go_wp2_with fail
  rw [← hw2]
  clear hw2
  go_wp2_with fail
  refine wp_region_still_tail 15 (by kernel_rfl) (by kernel_rfl) ?_
  simp only [List.take_succ_cons, List.take_zero, List.drop_succ_cons, List.drop_zero]
  repeat still_step
  still_call ((cmp_str _ _ _).mono fun e w' h => ⟨h.1, h.2.symm⟩)
  repeat still_step
  still_call ((cmp_str _ _ _).mono fun e w' h => ⟨h.1, h.2.symm⟩)
  repeat still_step
  still_call ((cmp_int _ _ _).mono fun e w' h => ⟨h.1, h.2.symm⟩)
  refine wpStill_nil ?_
  obtain ⟨w3, hw3⟩ : ∃ w3, w3 = { w2 with drawn := w2.drawn + 1 } := ⟨_, rfl⟩
  have b3 : Below w2.heap.size w2 w3 := by rw [hw3]; exact ⟨rfl, rfl, rfl, Nat.le_refl _, fun _ _ => rfl⟩
  rw [← hw3]
  clear hw3
  have HB3 := Lib.hid (HB2.out.trans (b3.mono HB2.out.size))
  clear f0 f1 f2 z1 z2 z3 b3
  generalize h0 : cmpS s s' = r0
  generalize h1 : cmpS t t' = r1
  generalize h2 : cmpI n n' = r2
  have H0 := Lib.hid h0
  have H1 := Lib.hid h1
  have H2 := Lib.hid h2
  clear h0 h1 h2
  go_wp2_with fail
  have hrow : ∀ j x, [r0, r1, r2][j]? = some x → (w3.alloc (.cells #[.int .i64 r0, .int .i64 r1, .int .i64 r2] 3)).cell? ⟨w3.heap.size, j, none⟩ = some (.int .i64 x) := by
    intro j x hj
    have hb := block_alloc w3 (.cells #[.int .i64 r0, .int .i64 r1, .int .i64 r2] 3)
    match j, hj with
    | 0, hj => simp at hj; subst hj; exact cell_of_row hb rfl
    | 1, hj => simp at hj; subst hj; exact cell_of_row hb rfl
    | 2, hj => simp at hj; subst hj; exact cell_of_row hb rfl
    | j + 3, hj => simp at hj
  refine (cmpOr_any w3.heap.size [r0, r1, r2] 3 _ (by simp) hrow).mono ?_
  clear hrow
  rintro e w4 ⟨rfl, rfl⟩
  go_wp2_with fail
  go_ret
  exact ⟨ret_int (by rw [H0.out, H1.out, H2.out]), HB3.out.alloc (HB3.out.size) _⟩

set_option maxHeartbeats 2000000 in
set_option maxRecDepth 100000 in
theorem ord_pid (n n' : Int) (s t s' t' : ByteArray) (A A' : Option Addr) (len cap len' cap' : Nat) (w : World) :
    Calls Tryz.prog 240 #[.agg #[.int .i8 4, .int .i64 n, .string s, .string t, .slice A len cap], .agg #[.int .i8 4, .int .i64 n', .string s', .string t', .slice A' len' cap']] w fun e w' => e = .returned (.int .i64 (cmpI n n')) ∧ Below w.heap.size w w' := by
  have q0 := ta_pid_atom (.int .i64 n)
  have q1 := ta_pid_fun (.int .i64 n)
  have q2 := ta_pid_tuple (.int .i64 n)
  have q3 := ta_pid_cons (.int .i64 n)
  have HB0 := Lib.hid (((Below.refl _ w).alloc (Nat.le_refl _) (.cells #[.int .i8 4, .int .i64 n, .string s, .string t, .slice A len cap] 44)).alloc (by simp) (.cells #[.int .i8 4, .int .i64 n', .string s', .string t', .slice A' len' cap'] 44))
  go_enter Tryz.func240, Tryz.ntmps240
  go_wp2_with fail
  refine (nodeOf_pid n s t A len cap _).mono ?_
  rintro e w1 ⟨rfl, b1⟩
  have HB1 := Lib.hid (HB0.out.trans (b1.mono (by simp; omega)))
  have hx : w1.heap[w.heap.size]? = _ := (b1.block w.heap.size (by simp; omega)).trans ((Below.heap_alloc _ _ _ (by simp)).trans (block_alloc w (.cells #[.int .i8 4, .int .i64 n, .string s, .string t, .slice A len cap] 44)))
  have hy : w1.heap[w.heap.size + 1]? = some (.cells #[.int .i8 4, .int .i64 n', .string s', .string t', .slice A' len' cap'] 44) := (b1.block _ (by simp)).trans (by
    have := block_alloc (w.alloc (.cells #[.int .i8 4, .int .i64 n, .string s, .string t, .slice A len cap] 44)) (.cells #[.int .i8 4, .int .i64 n', .string s', .string t', .slice A' len' cap'] 44)
    rwa [World.size_alloc] at this)
  have x1 : w1.cell? ⟨w.heap.size, 1, none⟩ = some (.int .i64 n) := cell_of_row hx rfl
  have y1 : w1.cell? ⟨w.heap.size + 1, 1, none⟩ = some (.int .i64 n') := cell_of_row hy rfl
  have x2 : w1.cell? ⟨w.heap.size, 2, none⟩ = some (.string s) := cell_of_row hx rfl
  have y2 : w1.cell? ⟨w.heap.size + 1, 2, none⟩ = some (.string s') := cell_of_row hy rfl
  have x3 : w1.cell? ⟨w.heap.size, 3, none⟩ = some (.string t) := cell_of_row hx rfl
  have y3 : w1.cell? ⟨w.heap.size + 1, 3, none⟩ = some (.string t') := cell_of_row hy rfl
  have x4 : w1.cell? ⟨w.heap.size, 4, none⟩ = some (.slice A len cap) := cell_of_row hx rfl
  have y4 : w1.cell? ⟨w.heap.size + 1, 4, none⟩ = some (.slice A' len' cap') := cell_of_row hy rfl
  clear hx hy b1
  go_wp2_with fail
  refine (cmp_int _ _ _).mono ?_
  rintro e w2 ⟨rfl, rfl⟩
  go_wp2_with fail
  go_ret
  exact ⟨rfl, HB1.out⟩

set_option maxHeartbeats 2000000 in
set_option maxRecDepth 100000 in
theorem ord_tuple (n n' : Int) (s t s' t' : ByteArray) (A A' : Option Addr) (cap cap' : Nat) (l m : List Tm) (w : World) (hR : TRow (· < w.heap.size) w A l.length cap l) (hQ : TRow (· < w.heap.size) w A' m.length cap' m) (hO : ∀ x ∈ l, OrdOf x) :
    Calls Tryz.prog 240 #[.agg #[.int .i8 5, .int .i64 n, .string s, .string t, .slice A l.length cap], .agg #[.int .i8 5, .int .i64 n', .string s', .string t', .slice A' m.length cap']] w fun e w' => e = .returned (.int .i64 (ordR l m)) ∧ Below w.heap.size w w' := by
  have q0 := ta_tuple_atom (.slice A l.length cap)
  have q1 := ta_tuple_fun (.slice A l.length cap)
  have q2 := ta_tuple_tuple (.slice A l.length cap)
  have HR := Lib.hid hR
  have HQ := Lib.hid hQ
  have HO := Lib.hid hO
  clear hR hQ hO
  have HB0 := Lib.hid (((Below.refl _ w).alloc (Nat.le_refl _) (.cells #[.int .i8 5, .int .i64 n, .string s, .string t, .slice A l.length cap] 44)).alloc (by simp) (.cells #[.int .i8 5, .int .i64 n', .string s', .string t', .slice A' m.length cap'] 44))
  go_enter Tryz.func240, Tryz.ntmps240
  go_wp2_with fail
  refine (nodeOf_tuple n s t A l.length cap _).mono ?_
  rintro e w1 ⟨rfl, b1⟩
  have HB1 := Lib.hid (HB0.out.trans (b1.mono (by simp; omega)))
  have hx : w1.heap[w.heap.size]? = _ := (b1.block w.heap.size (by simp; omega)).trans ((Below.heap_alloc _ _ _ (by simp)).trans (block_alloc w (.cells #[.int .i8 5, .int .i64 n, .string s, .string t, .slice A l.length cap] 44)))
  have hy : w1.heap[w.heap.size + 1]? = some (.cells #[.int .i8 5, .int .i64 n', .string s', .string t', .slice A' m.length cap'] 44) := (b1.block _ (by simp)).trans (by
    have := block_alloc (w.alloc (.cells #[.int .i8 5, .int .i64 n, .string s, .string t, .slice A l.length cap] 44)) (.cells #[.int .i8 5, .int .i64 n', .string s', .string t', .slice A' m.length cap'] 44)
    rwa [World.size_alloc] at this)
  have x1 : w1.cell? ⟨w.heap.size, 1, none⟩ = some (.int .i64 n) := cell_of_row hx rfl
  have y1 : w1.cell? ⟨w.heap.size + 1, 1, none⟩ = some (.int .i64 n') := cell_of_row hy rfl
  have x2 : w1.cell? ⟨w.heap.size, 2, none⟩ = some (.string s) := cell_of_row hx rfl
  have y2 : w1.cell? ⟨w.heap.size + 1, 2, none⟩ = some (.string s') := cell_of_row hy rfl
  have x3 : w1.cell? ⟨w.heap.size, 3, none⟩ = some (.string t) := cell_of_row hx rfl
  have y3 : w1.cell? ⟨w.heap.size + 1, 3, none⟩ = some (.string t') := cell_of_row hy rfl
  have x4 : w1.cell? ⟨w.heap.size, 4, none⟩ = some (.slice A l.length cap) := cell_of_row hx rfl
  have y4 : w1.cell? ⟨w.heap.size + 1, 4, none⟩ = some (.slice A' m.length cap') := cell_of_row hy rfl
  clear hx hy b1
  have HC := Lib.hid (rows_any l m A A' cap cap' w1 (HR.out.keep (fun b hb => HB1.out.block b hb) (fun b hb => Nat.lt_of_lt_of_le hb HB1.out.size)) (HQ.out.keep (fun b hb => HB1.out.block b hb) (fun b hb => Nat.lt_of_lt_of_le hb HB1.out.size)) HO.out)
  go_wp2_with fail
  refine HC.out.mono ?_
  rintro e w2 ⟨rfl, b2⟩
  go_wp2_with fail
  go_ret
  exact ⟨rfl, HB1.out.trans (b2.mono HB1.out.size)⟩

set_option maxHeartbeats 2000000 in
set_option maxRecDepth 100000 in
theorem ord_empty (n n' : Int) (s t s' t' : ByteArray) (A A' : Option Addr) (len cap len' cap' : Nat) (w : World) :
    Calls Tryz.prog 240 #[.agg #[.int .i8 6, .int .i64 n, .string s, .string t, .slice A len cap], .agg #[.int .i8 6, .int .i64 n', .string s', .string t', .slice A' len' cap']] w fun e w' => e = .returned (.int .i64 (cmpI n n')) ∧ Below w.heap.size w w' := by
  have q0 := ta_empty_atom (.agg #[])
  have q1 := ta_empty_fun (.agg #[])
  have q2 := ta_empty_tuple (.agg #[])
  have q3 := ta_empty_cons (.agg #[])
  have HB0 := Lib.hid (((Below.refl _ w).alloc (Nat.le_refl _) (.cells #[.int .i8 6, .int .i64 n, .string s, .string t, .slice A len cap] 44)).alloc (by simp) (.cells #[.int .i8 6, .int .i64 n', .string s', .string t', .slice A' len' cap'] 44))
  go_enter Tryz.func240, Tryz.ntmps240
  go_wp2_with fail
  refine (nodeOf_empty n s t A len cap _).mono ?_
  rintro e w1 ⟨rfl, b1⟩
  have HB1 := Lib.hid (HB0.out.trans (b1.mono (by simp; omega)))
  have hx : w1.heap[w.heap.size]? = _ := (b1.block w.heap.size (by simp; omega)).trans ((Below.heap_alloc _ _ _ (by simp)).trans (block_alloc w (.cells #[.int .i8 6, .int .i64 n, .string s, .string t, .slice A len cap] 44)))
  have hy : w1.heap[w.heap.size + 1]? = some (.cells #[.int .i8 6, .int .i64 n', .string s', .string t', .slice A' len' cap'] 44) := (b1.block _ (by simp)).trans (by
    have := block_alloc (w.alloc (.cells #[.int .i8 6, .int .i64 n, .string s, .string t, .slice A len cap] 44)) (.cells #[.int .i8 6, .int .i64 n', .string s', .string t', .slice A' len' cap'] 44)
    rwa [World.size_alloc] at this)
  have x1 : w1.cell? ⟨w.heap.size, 1, none⟩ = some (.int .i64 n) := cell_of_row hx rfl
  have y1 : w1.cell? ⟨w.heap.size + 1, 1, none⟩ = some (.int .i64 n') := cell_of_row hy rfl
  have x2 : w1.cell? ⟨w.heap.size, 2, none⟩ = some (.string s) := cell_of_row hx rfl
  have y2 : w1.cell? ⟨w.heap.size + 1, 2, none⟩ = some (.string s') := cell_of_row hy rfl
  have x3 : w1.cell? ⟨w.heap.size, 3, none⟩ = some (.string t) := cell_of_row hx rfl
  have y3 : w1.cell? ⟨w.heap.size + 1, 3, none⟩ = some (.string t') := cell_of_row hy rfl
  have x4 : w1.cell? ⟨w.heap.size, 4, none⟩ = some (.slice A len cap) := cell_of_row hx rfl
  have y4 : w1.cell? ⟨w.heap.size + 1, 4, none⟩ = some (.slice A' len' cap') := cell_of_row hy rfl
  clear hx hy b1
  go_wp2_with fail
  refine (cmp_int _ _ _).mono ?_
  rintro e w2 ⟨rfl, rfl⟩
  go_wp2_with fail
  go_ret
  exact ⟨rfl, HB1.out⟩

set_option maxHeartbeats 2000000 in
set_option maxRecDepth 100000 in
theorem ord_cons (n n' : Int) (s t s' t' : ByteArray) (A A' : Option Addr) (cap cap' : Nat) (l m : List Tm) (w : World) (hR : TRow (· < w.heap.size) w A l.length cap l) (hQ : TRow (· < w.heap.size) w A' m.length cap' m) (hO : ∀ x ∈ l, OrdOf x) :
    Calls Tryz.prog 240 #[.agg #[.int .i8 7, .int .i64 n, .string s, .string t, .slice A l.length cap], .agg #[.int .i8 7, .int .i64 n', .string s', .string t', .slice A' m.length cap']] w fun e w' => e = .returned (.int .i64 (ordR l m)) ∧ Below w.heap.size w w' := by
  have q0 := ta_cons_atom (.slice A l.length cap)
  have q1 := ta_cons_fun (.slice A l.length cap)
  have q2 := ta_cons_tuple (.slice A l.length cap)
  have q3 := ta_cons_cons (.slice A l.length cap)
  have HR := Lib.hid hR
  have HQ := Lib.hid hQ
  have HO := Lib.hid hO
  clear hR hQ hO
  have HB0 := Lib.hid (((Below.refl _ w).alloc (Nat.le_refl _) (.cells #[.int .i8 7, .int .i64 n, .string s, .string t, .slice A l.length cap] 44)).alloc (by simp) (.cells #[.int .i8 7, .int .i64 n', .string s', .string t', .slice A' m.length cap'] 44))
  go_enter Tryz.func240, Tryz.ntmps240
  go_wp2_with fail
  refine (nodeOf_cons n s t A l.length cap _).mono ?_
  rintro e w1 ⟨rfl, b1⟩
  have HB1 := Lib.hid (HB0.out.trans (b1.mono (by simp; omega)))
  have hx : w1.heap[w.heap.size]? = _ := (b1.block w.heap.size (by simp; omega)).trans ((Below.heap_alloc _ _ _ (by simp)).trans (block_alloc w (.cells #[.int .i8 7, .int .i64 n, .string s, .string t, .slice A l.length cap] 44)))
  have hy : w1.heap[w.heap.size + 1]? = some (.cells #[.int .i8 7, .int .i64 n', .string s', .string t', .slice A' m.length cap'] 44) := (b1.block _ (by simp)).trans (by
    have := block_alloc (w.alloc (.cells #[.int .i8 7, .int .i64 n, .string s, .string t, .slice A l.length cap] 44)) (.cells #[.int .i8 7, .int .i64 n', .string s', .string t', .slice A' m.length cap'] 44)
    rwa [World.size_alloc] at this)
  have x1 : w1.cell? ⟨w.heap.size, 1, none⟩ = some (.int .i64 n) := cell_of_row hx rfl
  have y1 : w1.cell? ⟨w.heap.size + 1, 1, none⟩ = some (.int .i64 n') := cell_of_row hy rfl
  have x2 : w1.cell? ⟨w.heap.size, 2, none⟩ = some (.string s) := cell_of_row hx rfl
  have y2 : w1.cell? ⟨w.heap.size + 1, 2, none⟩ = some (.string s') := cell_of_row hy rfl
  have x3 : w1.cell? ⟨w.heap.size, 3, none⟩ = some (.string t) := cell_of_row hx rfl
  have y3 : w1.cell? ⟨w.heap.size + 1, 3, none⟩ = some (.string t') := cell_of_row hy rfl
  have x4 : w1.cell? ⟨w.heap.size, 4, none⟩ = some (.slice A l.length cap) := cell_of_row hx rfl
  have y4 : w1.cell? ⟨w.heap.size + 1, 4, none⟩ = some (.slice A' m.length cap') := cell_of_row hy rfl
  clear hx hy b1
  have HC := Lib.hid (rows_any l m A A' cap cap' w1 (HR.out.keep (fun b hb => HB1.out.block b hb) (fun b hb => Nat.lt_of_lt_of_le hb HB1.out.size)) (HQ.out.keep (fun b hb => HB1.out.block b hb) (fun b hb => Nat.lt_of_lt_of_le hb HB1.out.size)) HO.out)
  go_wp2_with fail
  refine HC.out.mono ?_
  rintro e w2 ⟨rfl, b2⟩
  go_wp2_with fail
  go_ret
  exact ⟨rfl, HB1.out.trans (b2.mono HB1.out.size)⟩

set_option maxHeartbeats 2000000 in
set_option maxRecDepth 100000 in
theorem ord_none (k : Int) (hk : k < 0 ∨ 7 < k) (n n' : Int) (s t s' t' : ByteArray) (A A' : Option Addr) (len cap len' cap' : Nat) (w : World) :
    Calls Tryz.prog 240 #[.agg #[.int .i8 k, .int .i64 n, .string s, .string t, .slice A len cap], .agg #[.int .i8 k, .int .i64 n', .string s', .string t', .slice A' len' cap']] w fun e w' => e = .returned (.int .i64 (cmpI n n')) ∧ Below w.heap.size w w' := by
  have q0 := ta_none_atom
  have q1 := ta_none_fun
  have q2 := ta_none_tuple
  have q3 := ta_none_cons
  have HK := Lib.hid hk
  clear hk
  have HB0 := Lib.hid (((Below.refl _ w).alloc (Nat.le_refl _) (.cells #[.int .i8 k, .int .i64 n, .string s, .string t, .slice A len cap] 44)).alloc (by simp) (.cells #[.int .i8 k, .int .i64 n', .string s', .string t', .slice A' len' cap'] 44))
  go_enter Tryz.func240, Tryz.ntmps240
  go_wp2_with fail
  refine (nodeOf_none k n s t A len cap HK.out _).mono ?_
  rintro e w1 ⟨rfl, b1⟩
  have HB1 := Lib.hid (HB0.out.trans (b1.mono (by simp; omega)))
  have hx : w1.heap[w.heap.size]? = _ := (b1.block w.heap.size (by simp; omega)).trans ((Below.heap_alloc _ _ _ (by simp)).trans (block_alloc w (.cells #[.int .i8 k, .int .i64 n, .string s, .string t, .slice A len cap] 44)))
  have hy : w1.heap[w.heap.size + 1]? = some (.cells #[.int .i8 k, .int .i64 n', .string s', .string t', .slice A' len' cap'] 44) := (b1.block _ (by simp)).trans (by
    have := block_alloc (w.alloc (.cells #[.int .i8 k, .int .i64 n, .string s, .string t, .slice A len cap] 44)) (.cells #[.int .i8 k, .int .i64 n', .string s', .string t', .slice A' len' cap'] 44)
    rwa [World.size_alloc] at this)
  have x1 : w1.cell? ⟨w.heap.size, 1, none⟩ = some (.int .i64 n) := cell_of_row hx rfl
  have y1 : w1.cell? ⟨w.heap.size + 1, 1, none⟩ = some (.int .i64 n') := cell_of_row hy rfl
  have x2 : w1.cell? ⟨w.heap.size, 2, none⟩ = some (.string s) := cell_of_row hx rfl
  have y2 : w1.cell? ⟨w.heap.size + 1, 2, none⟩ = some (.string s') := cell_of_row hy rfl
  have x3 : w1.cell? ⟨w.heap.size, 3, none⟩ = some (.string t) := cell_of_row hx rfl
  have y3 : w1.cell? ⟨w.heap.size + 1, 3, none⟩ = some (.string t') := cell_of_row hy rfl
  have x4 : w1.cell? ⟨w.heap.size, 4, none⟩ = some (.slice A len cap) := cell_of_row hx rfl
  have y4 : w1.cell? ⟨w.heap.size + 1, 4, none⟩ = some (.slice A' len' cap') := cell_of_row hy rfl
  clear hx hy b1
  go_wp2_with fail
  refine (cmp_int _ _ _).mono ?_
  rintro e w2 ⟨rfl, rfl⟩
  go_wp2_with fail
  go_ret
  exact ⟨rfl, HB1.out⟩

theorem ordN_eq (k n n' : Int) (s t s' t' : ByteArray) (l m : List Tm) : ordN (.mk k n s t l) (.mk k n' s' t' m) = if k = 1 then cmpS s s' else if k = 3 then orL [cmpS s s', cmpS t t', cmpI n n'] else if k = 5 ∨ k = 7 then ordR l m else cmpI n n' := by
  rw [ordN]
  exact if_neg (fun h => h rfl)

theorem order_any (x : Tm) : OrdOf x := by
  induction x using Tm.ind with
  | h k n s t l ih =>
    intro y v u w hv hu
    obtain ⟨k', n', s', t', m⟩ := y
    obtain ⟨A, cap, rfl, hR, hk, hn, hs, ht⟩ := hv.parts
    obtain ⟨A', cap', rfl, hQ, hk', hn', hs', ht'⟩ := hu.parts
    by_cases hne : k = k'
    · subst hne
      by_cases h : k < 0 ∨ 7 < k
      · rw [ordN_eq, if_neg (by omega), if_neg (by omega), if_neg (by omega)]
        exact ord_none k h n n' s t s' t' A A' _ cap _ cap' w
      · have h8 : k = 0 ∨ k = 1 ∨ k = 2 ∨ k = 3 ∨ k = 4 ∨ k = 5 ∨ k = 6 ∨ k = 7 := by omega
        rcases h8 with rfl | rfl | rfl | rfl | rfl | rfl | rfl | rfl
        · rw [ordN_eq]; exact ord_integer n n' s t s' t' A A' _ cap _ cap' w
        · rw [ordN_eq]; exact ord_atom n n' s t s' t' A A' _ cap _ cap' w
        · rw [ordN_eq]; exact ord_ref n n' s t s' t' A A' _ cap _ cap' w
        · rw [ordN_eq]; exact ord_fun n n' s t s' t' A A' _ cap _ cap' w
        · rw [ordN_eq]; exact ord_pid n n' s t s' t' A A' _ cap _ cap' w
        · rw [ordN_eq]; exact ord_tuple n n' s t s' t' A A' cap cap' l m w hR hQ ih
        · rw [ordN_eq]; exact ord_empty n n' s t s' t' A A' _ cap _ cap' w
        · rw [ordN_eq]; exact ord_cons n n' s t s' t' A A' cap cap' l m w hR hQ ih
    · rw [show ordN (.mk k n s t l) (.mk k' n' s' t' m) = cmpI k k' by rw [ordN]; exact if_pos hne]
      exact ord_ne k k' n n' s t s' t' A A' _ cap _ cap' hne w

def compN (x y : Tm) : Int := if checkN x = 0 ∧ checkN y = 0 then ordN x y else 0

set_option maxHeartbeats 2000000 in
set_option maxRecDepth 100000 in
theorem TCompare_any (x y : Tm) (v u : Value) (w : World) (hv : TmAt (· < w.heap.size) w x v) (hu : TmAt (· < w.heap.size) w y u) (hS : Spans w) :
    Calls Tryz.prog 203 #[v, u] w fun e w' => e = .returned (.int .i64 (compN x y)) ∧ Below w.heap.size w w' := by
  obtain ⟨k, n, s, t, l, A, cap, hx, rfl⟩ : ∃ k' n' s' t' L' A' cap', x = Tm.mk k' n' s' t' L' ∧ v = .agg #[.int .i8 k', .int .i64 n', .string s', .string t', .slice A' L'.length cap'] := by
    cases hv; exact ⟨_, _, _, _, _, _, _, rfl, rfl⟩
  obtain ⟨k', n', s', t', l', A', cap', hy, rfl⟩ : ∃ k' n' s' t' L' A' cap', y = Tm.mk k' n' s' t' L' ∧ u = .agg #[.int .i8 k', .int .i64 n', .string s', .string t', .slice A' L'.length cap'] := by
    cases hu; exact ⟨_, _, _, _, _, _, _, rfl, rfl⟩
  clear hx hy
  obtain ⟨w1, hw1⟩ : ∃ w1, w1 = (w.alloc (.cells #[.int .i8 k, .int .i64 n, .string s, .string t, .slice A l.length cap] 44)).alloc (.cells #[.int .i8 k', .int .i64 n', .string s', .string t', .slice A' l'.length cap'] 44) := ⟨_, rfl⟩
  have B1 : Below w.heap.size w w1 := by rw [hw1]; exact ((Below.refl _ w).alloc (Nat.le_refl _) _).alloc (by simp) _
  have xb : w1.heap[w.heap.size]? = some (.cells #[.int .i8 k, .int .i64 n, .string s, .string t, .slice A l.length cap] 44) := by rw [hw1]; exact (Below.heap_alloc _ _ _ (by simp)).trans (block_alloc _ _)
  have yb : w1.heap[w.heap.size + 1]? = some (.cells #[.int .i8 k', .int .i64 n', .string s', .string t', .slice A' l'.length cap'] 44) := by
    rw [hw1]
    have := block_alloc (w.alloc (.cells #[.int .i8 k, .int .i64 n, .string s, .string t, .slice A l.length cap] 44)) (.cells #[.int .i8 k', .int .i64 n', .string s', .string t', .slice A' l'.length cap'] 44)
    rwa [World.size_alloc] at this
  have HV := Lib.hid hv
  have HU := Lib.hid hu
  have hS1 : Spans w1 := hS.below B1 hS.lt
  have atv : ∀ W, Below w.heap.size w W → TmAt (· < W.heap.size) W x (.agg #[.int .i8 k, .int .i64 n, .string s, .string t, .slice A l.length cap]) := fun W hb => HV.out.keep (fun b h => hb.block b h) (fun b h => Nat.lt_of_lt_of_le h hb.size)
  have atu : ∀ W, Below w.heap.size w W → TmAt (· < W.heap.size) W y (.agg #[.int .i8 k', .int .i64 n', .string s', .string t', .slice A' l'.length cap']) := fun W hb => HU.out.keep (fun b h => hb.block b h) (fun b h => Nat.lt_of_lt_of_le h hb.size)
  have HAV := Lib.hid atv
  have HAU := Lib.hid atu
  have HC1 := Lib.hid (Check_any x _ w1 (atv _ B1) hS1)
  have HB1 := Lib.hid B1
  have HXB := Lib.hid xb
  have HYB := Lib.hid yb
  clear hv hu atv atu B1 xb yb
  go_enter Tryz.func203, Tryz.ntmps203
  go_wp2_with fail
  rw [← hw1]
  clear hw1
  refine HC1.out.mono ?_
  rintro e w2 ⟨rfl, b2⟩
  have HB2 := Lib.hid (HB1.out.trans (b2.mono HB1.out.size))
  have HXB2 := Lib.hid ((b2.block _ (heap_lt HXB.out)).trans HXB.out)
  have HYB2 := Lib.hid ((b2.block _ (heap_lt HYB.out)).trans HYB.out)
  have y0 : w2.cell? ⟨w.heap.size + 1, 0, none⟩ = some (.int .i8 k') := cell_of_row HYB2.out rfl
  have y1 : w2.cell? ⟨w.heap.size + 1, 1, none⟩ = some (.int .i64 n') := cell_of_row HYB2.out rfl
  have y2 : w2.cell? ⟨w.heap.size + 1, 2, none⟩ = some (.string s') := cell_of_row HYB2.out rfl
  have y3 : w2.cell? ⟨w.heap.size + 1, 3, none⟩ = some (.string t') := cell_of_row HYB2.out rfl
  have y4 : w2.cell? ⟨w.heap.size + 1, 4, none⟩ = some (.slice A' l'.length cap') := cell_of_row HYB2.out rfl
  have hS2 : Spans w2 := hS.below HB2.out hS.lt
  have HC2 := Lib.hid (Check_any y _ w2 (HAU.out _ HB2.out) hS2)
  clear b2
  by_cases hcx : checkN x = 0
  · have hc1 : (checkN x != 0) = false := by simpa using hcx
    have HCX := Lib.hid hcx
    clear hcx
    go_wp2_with fail
    refine HC2.out.mono ?_
    clear y0 y1 y2 y3 y4
    rintro e w3 ⟨rfl, b3⟩
    have HB3 := Lib.hid (HB2.out.trans (b3.mono HB2.out.size))
    have hxb : w3.heap[w.heap.size]? = _ := (b3.block _ (heap_lt HXB2.out)).trans HXB2.out
    have hyb : w3.heap[w.heap.size + 1]? = _ := (b3.block _ (heap_lt HYB2.out)).trans HYB2.out
    have x0 : w3.cell? ⟨w.heap.size, 0, none⟩ = some (.int .i8 k) := cell_of_row hxb rfl
    have x1 : w3.cell? ⟨w.heap.size, 1, none⟩ = some (.int .i64 n) := cell_of_row hxb rfl
    have x2 : w3.cell? ⟨w.heap.size, 2, none⟩ = some (.string s) := cell_of_row hxb rfl
    have x3 : w3.cell? ⟨w.heap.size, 3, none⟩ = some (.string t) := cell_of_row hxb rfl
    have x4 : w3.cell? ⟨w.heap.size, 4, none⟩ = some (.slice A l.length cap) := cell_of_row hxb rfl
    have y0 : w3.cell? ⟨w.heap.size + 1, 0, none⟩ = some (.int .i8 k') := cell_of_row hyb rfl
    have y1 : w3.cell? ⟨w.heap.size + 1, 1, none⟩ = some (.int .i64 n') := cell_of_row hyb rfl
    have y2 : w3.cell? ⟨w.heap.size + 1, 2, none⟩ = some (.string s') := cell_of_row hyb rfl
    have y3 : w3.cell? ⟨w.heap.size + 1, 3, none⟩ = some (.string t') := cell_of_row hyb rfl
    have y4 : w3.cell? ⟨w.heap.size + 1, 4, none⟩ = some (.slice A' l'.length cap') := cell_of_row hyb rfl
    have HC3 := Lib.hid (order_any x y _ _ w3 (HAV.out _ HB3.out) (HAU.out _ HB3.out))
    clear hxb hyb b3
    by_cases hcy : checkN y = 0
    · have hc2 : (checkN y != 0) = false := by simpa using hcy
      have HCY := Lib.hid hcy
      clear hcy
      go_wp2_with fail
      refine HC3.out.mono ?_
      clear x0 x1 x2 x3 x4 y0 y1 y2 y3 y4
      rintro e w4 ⟨rfl, b4⟩
      go_wp2_with fail
      go_ret
      exact ⟨ret_int (by unfold compN; rw [if_pos ⟨HCX.out, HCY.out⟩]), HB3.out.trans (b4.mono HB3.out.size)⟩
    · have hc2 : (checkN y != 0) = true := by simpa using hcy
      have HCY := Lib.hid hcy
      clear hcy x0 x1 x2 x3 x4 y0 y1 y2 y3 y4
      go_wp2_with fail
      go_ret
      exact ⟨ret_int (by unfold compN; rw [if_neg (fun h => HCY.out h.2)]), HB3.out⟩
  · have hc1 : (checkN x != 0) = true := by simpa using hcx
    have HCX := Lib.hid hcx
    clear hcx y0 y1 y2 y3 y4
    go_wp2_with fail
    go_ret
    exact ⟨ret_int (by unfold compN; rw [if_neg (fun h => HCX.out h.1)]), HB2.out⟩
end Go.Proofs.YtkceoiaaiaomoaaGreatDoor
