/- The document's own texts of terms, of integers and tuples alone. -/
import Derived.Test.YtphfekcacaaabaaDoorRef03C
import Derived.Test.YtphfekcacaaabaaDoorTxtLen
set_option linter.unusedVariables false
namespace Go.Proofs.YtphfekcacaaabaaDoor
open Go.RowKit
open Go.Lib (itoa)

/-- Of integers and tuples alone. -/
def Plain (x : Tm) : Prop := ∀ y ∈ x.pre, y.k = 0 ∨ y.k = 5
/-- What text and row come to. -/
def RTextP (l : List UInt8) (w : World) (e : Ending) (w' : World) : Prop := e = .returned (.string ⟨l.toArray⟩) ∧ Below w.heap.size w w'

set_option maxHeartbeats 4000000 in
set_option maxRecDepth 100000 in
theorem rtext_int (n : Int) (h0 : -9223372036854775808 ≤ n) (h1 : n ≤ 9223372036854775807) (s t : ByteArray) (A : Option Addr) (len cap : Nat) (w : World) (hp : PowTab w) : Calls Tryd.prog 60 #[.agg #[.int .i8 0, .int .i64 n, .string s, .string t, .slice A len cap]] w (RTextP (itoa n) w) := by
  have hB1 : Below w.heap.size w (w.alloc (.cells #[.int .i8 0, .int .i64 n, .string s, .string t, .slice A len cap] 25)) := (Below.refl _ w).alloc (Nat.le_refl _) _
  have HC := Lib.hid (Tryd.strconv_Itoa n h0 h1 (w.alloc (.cells #[.int .i8 0, .int .i64 n, .string s, .string t, .slice A len cap] 25)) (Go.Lib.tabBelow_of_tabIs hp _ hB1))
  have HB1 := Lib.hid hB1
  clear hB1 hp
  go_enter Tryd.func60, Tryd.ntmps60
  go_wp2_with fail
  refine HC.out.mono ?_
  rintro e w2 ⟨rfl, k, os, rfl⟩
  go_wp2_with fail
  go_ret
  exact ⟨rfl, HB1.out.trans (Go.Lib.below_grow _ _ HB1.out.size _ _)⟩

set_option maxHeartbeats 4000000 in
set_option maxRecDepth 100000 in
theorem rtext_tuple (r : List UInt8) (n : Int) (s t : ByteArray) (A : Option Addr) (len cap : Nat) (hr : r.length ≤ 100000000) (w : World)
    (hC : ∀ V, Below w.heap.size w V → Calls Tryd.prog 76 #[.slice A len cap] V (RTextP r V)) : Calls Tryd.prog 60 #[.agg #[.int .i8 5, .int .i64 n, .string s, .string t, .slice A len cap]] w (RTextP ([123] ++ r ++ [125]) w) := by
  have hB1 : Below w.heap.size w (w.alloc (.cells #[.int .i8 5, .int .i64 n, .string s, .string t, .slice A len cap] 25)) := (Below.refl _ w).alloc (Nat.le_refl _) _
  have HC := Lib.hid (hC _ hB1)
  have HB1 := Lib.hid hB1
  clear hB1 hC
  go_enter Tryd.func60, Tryd.ntmps60
  go_wp2_with fail
  refine HC.out.mono ?_
  rintro e w2 ⟨rfl, b2⟩
  go_wp2_with fail
  go_ret
  refine ⟨congrArg (fun b => Ending.returned (.string b)) ?_, HB1.out.trans (b2.mono HB1.out.size)⟩
  apply ByteArray.ext
  apply Array.toList_inj.1
  simp

theorem toArray_toList (l : List UInt8) : (⟨l.toArray⟩ : ByteArray).data.toList = l := rfl
theorem ba_eq {b : ByteArray} {l : List UInt8} (h : b.data.toList = l) : b = ⟨l.toArray⟩ := by
  apply ByteArray.ext
  apply Array.toList_inj.1
  rw [h]

set_option maxHeartbeats 4000000 in
set_option maxRecDepth 100000 in
theorem rrow_any (A : Option Addr) (n cap : Nat) (l : List Tm) (w : World) (hR : TRow (· < w.heap.size) w A n cap l) (hV : ∀ y ∈ l, Valid y) (hN : (Tm.pres l).length ≤ 100000)
    (hC : ∀ y ∈ l, ∀ (v : Value) (V : World), Below w.heap.size w V → TmAt (· < V.heap.size) V y v → Calls Tryd.prog 60 #[v] V (RTextP (txt y) V)) :
    Calls Tryd.prog 76 #[.slice A n cap] w (RTextP (joinC (l.map txt)) w) := by
  have hlen := hR.max
  obtain rfl := hR.len
  unfold maxLen at hlen
  have HR := Lib.hid hR
  have HC := Lib.hid hC
  have HV := Lib.hid hV
  clear hR hC hV
  go_enter Tryd.func76, Tryd.ntmps76
  go_wp2_with fail
  go_loopw [3, 4] (fun r i wr => ∃ (j : Nat) (sb : ByteArray), j ≤ l.length ∧ i = .int .i64 j ∧ r = .string sb ∧ sb.data.toList = joinC ((l.take j).map txt) ∧ Below w.heap.size w wr) (fun _ i _ => l.length - (intOf i).toNat)
  case atStart => exact ⟨0, ⟨#[]⟩, Nat.zero_le _, rfl, rfl, by simp [joinC], Below.refl _ _⟩
  case round =>
    obtain ⟨j, sb, hj, rfl, rfl, hsb, hB⟩ := hrel
    have HB := Lib.hid hB
    have HSB := Lib.hid hsb
    have hsl : sb.size ≤ 10000000 := by
      have h1 := row_len (l.take j) (fun y hy => HV.out y (List.mem_of_mem_take hy))
      have h2 := pres_take_le l j
      rw [← hsb, toList_size] at h1
      omega
    clear hB hsb
    by_cases hlt : j < l.length
    · obtain ⟨y, hy⟩ : ∃ y, l[j]? = some y := ⟨l[j], List.getElem?_eq_getElem hlt⟩
      obtain ⟨ad, u, rfl, had, hE, hTy⟩ := HR.out.at_ j y hy
      have hEr : ElemAt wr ad j u := hE.keep (HB.out.block ad.block had)
      have hTr : TmAt (· < wr.heap.size) wr y u := hTy.later HB.out
      obtain ⟨c0, c1, c2, c3, c4, rfl, e0, e1, e2, e3, e4⟩ := hEr
      have HCy := Lib.hid (HC.out y (List.mem_of_getElem? hy) _ wr HB.out hTr)
      have hjn : (l.take (j + 1)).map txt = (l.take j).map txt ++ [txt y] := by rw [List.take_add_one, hy]; simp
      have HJN := Lib.hid hjn
      have htl : (txt y).length ≤ 10000000 := by
        have h1 := (txt_len y (HV.out y (List.mem_of_getElem? hy))).1
        have h2 := pres_mem_le (List.mem_of_getElem? hy)
        have e : txt y = y.tx.1 := rfl
        rw [e]; omega
      generalize txt y = ty at HCy HJN htl
      clear hE hTy hy hTr hjn
      by_cases h0 : j = 0
      · have hd : decide (0 < j) = false := decide_eq_false (by omega)
        have H0 := Lib.hid h0
        clear h0
        go_wp2_with fail
        refine HCy.out.mono ?_
        rintro e w2 ⟨rfl, b2⟩
        have HB2 := Lib.hid (HB.out.trans (b2.mono HB.out.size))
        clear b2 e0 e1 e2 e3 e4
        go_wp2_with fail
        go_roundw
        case rel =>
          refine ⟨j + 1, _, by omega, by go_num, rfl, ?_, HB2.out⟩
          have h := HSB.out
          rw [HJN.out]
          rw [H0.out] at h ⊢
          simp [joinC] at h ⊢
          simp [h]
        case measure => simp [intOf]; omega
      · have hd : decide (0 < j) = true := decide_eq_true (by omega)
        have H0 := Lib.hid h0
        clear h0
        go_wp2_with fail
        refine HCy.out.mono ?_
        rintro e w2 ⟨rfl, b2⟩
        have HB2 := Lib.hid (HB.out.trans (b2.mono HB.out.size))
        clear b2 e0 e1 e2 e3 e4
        go_wp2_with fail
        go_roundw
        case rel =>
          refine ⟨j + 1, _, by omega, by go_num, rfl, ?_, HB2.out⟩
          rw [HJN.out, joinC_snoc, if_neg (by intro e; have h := congrArg List.length e; rw [List.length_map, List.length_take, List.length_nil] at h; have := H0.out; omega), ← HSB.out]
          simp
        case measure => simp [intOf]; omega
    · obtain rfl : j = l.length := by omega
      go_wp2_with fail
      go_ret
      have h := HSB.out
      rw [List.take_length] at h
      exact ⟨congrArg (fun b => Ending.returned (.string b)) (ba_eq h), HB.out⟩

theorem rtext_any (x : Tm) : ∀ (v : Value) (w : World), Plain x → Valid x → x.nodes ≤ 100000 → TmAt (· < w.heap.size) w x v → PowTab w → Calls Tryd.prog 60 #[v] w (RTextP (txt x) w) := by
  induction x using Tm.ind with
  | h k n s t l ih =>
    intro v w hx hv hnn hT hp
    have hN : (Tm.pres l).length ≤ 100000 := by unfold Tm.nodes Tm.pre at hnn; simp at hnn; omega
    have hV : ∀ y ∈ l, Valid y := fun y hy => hv.part hy
    obtain ⟨A, cap, rfl, hR, -, hn, -, -⟩ := hT.parts
    rcases hx (.mk k n s t l) (by rw [Tm.pre]; simp) with (h : k = 0) | (h : k = 5)
    · subst h
      rw [show txt (.mk 0 n s t l) = itoa n by rw [txt_mk]; rfl]
      exact rtext_int n hn.1 hn.2 s t A _ cap w hp
    · subst h
      rw [show txt (.mk 5 n s t l) = [123] ++ joinC (l.map txt) ++ [125] by rw [txt_mk, ← map_tx]; rfl]
      refine rtext_tuple _ n s t A _ cap (by have := row_len l hV; omega) w (fun V hBV => ?_)
      exact rrow_any A _ cap l V (hR.later hBV) hV hN (fun y hy v W hW hTy => ih y hy v W (fun z hz => hx z (by rw [Tm.pre]; exact List.mem_cons_of_mem _ (Tm.pre_sub hy z hz))) (hV y hy) (by have := pres_mem_le hy; omega) hTy (Go.Lib.tabBelow_of_tabIs hp _ (hBV.trans (hW.mono hBV.size))))

set_option maxHeartbeats 2000000 in
set_option maxRecDepth 100000 in
theorem rText_any (x : Tm) (v : Value) (w : World) (hx : Plain x) (hc : checkN x = 0) (hT : TmAt (· < w.heap.size) w x v) (hp : PowTab w) : Calls Tryd.prog 41 #[v] w (RTextP (txt x) w) := by
  obtain ⟨k, n, s, t, l⟩ := x
  obtain ⟨A, cap, rfl, -⟩ := hT.parts
  obtain ⟨w1, hw1⟩ : ∃ w1, w1 = w.alloc (.cells #[.int .i8 k, .int .i64 n, .string s, .string t, .slice A l.length cap] 25) := ⟨_, rfl⟩
  have hB1 : Below w.heap.size w w1 := by rw [hw1]; exact (Below.refl _ w).alloc (Nat.le_refl _) _
  have hbox : w1.heap[w.heap.size]? = some (.cells #[.int .i8 k, .int .i64 n, .string s, .string t, .slice A l.length cap] 25 (0, 0)) := by rw [hw1]; exact block_alloc _ _
  have hT1 := hT.later hB1
  have HT : Hid (∀ V, Below w1.heap.size w1 V → Calls Tryd.prog 60 #[.agg #[.int .i8 k, .int .i64 n, .string s, .string t, .slice A l.length cap]] V (RTextP (txt (.mk k n s t l)) V)) := fun V hV => rtext_any _ _ V hx (check_valid hc).1 (by have := (check_valid hc).2; omega) (hT1.later hV) (Go.Lib.tabBelow_of_tabIs hp _ (hB1.trans (hV.mono hB1.size)))
  have HC := Lib.hid (rCheck_any _ _ w1 hT1)
  rw [hc] at HC
  have HB1 := Lib.hid hB1
  have HX := Lib.hid hbox
  clear hT hB1 hbox hT1 hx hc hp
  generalize txt (.mk k n s t l) = T at HT
  go_enter Tryd.func41, Tryd.ntmps41
  go_wp2_with fail
  rw [← hw1]
  clear hw1
  refine HC.out.mono ?_
  rintro e w2 ⟨rfl, b2⟩
  have g2 := (b2.block _ (heap_lt HX.out)).trans HX.out
  have x0 := cell_of_row (i := 0) g2 rfl
  have x1 := cell_of_row (i := 1) g2 rfl
  have x2 := cell_of_row (i := 2) g2 rfl
  have x3 := cell_of_row (i := 3) g2 rfl
  have x4 := cell_of_row (i := 4) g2 rfl
  have HT2 := Lib.hid (HT.out w2 b2)
  have HB2 := Lib.hid (HB1.out.trans (b2.mono HB1.out.size))
  clear b2 g2
  go_wp2_with fail
  refine HT2.out.mono ?_
  rintro e w3 ⟨rfl, b3⟩
  go_wp2_with fail
  go_ret
  exact ⟨rfl, HB2.out.trans (b3.mono HB2.out.size)⟩
end Go.Proofs.YtphfekcacaaabaaDoor
