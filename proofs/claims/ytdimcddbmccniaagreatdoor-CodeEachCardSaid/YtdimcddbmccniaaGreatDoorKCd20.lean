/- Layer 13: the text of a code: all lines (written by gen_cd20.py). -/
import Derived.Test.YtdimcddbmccniaaGreatDoorKElT
import Derived.Test.YtdimcddbmccniaaGreatDoorKUnroll
import Derived.Test.YtdimcddbmccniaaGreatDoorKTextT
import Derived.Lib.Builder
import Derived.Lib.Join
import Derived.Laws.AppendOwn
import Derived.Deep.Onto
section
set_option linter.unusedVariables false
set_option linter.unusedSimpArgs false
namespace Go.Proofs.YtdimcddbmccniaaGreatDoor
open Go.RowKit Go.Lib

def lineL (ws : List ByteArray) : List UInt8 := Lib.join (ws.map (·.data.toList)) [32] ++ [10]
set_option maxHeartbeats 4000000 in
theorem line13_any (B WB rb c : Nat) (ws : List ByteArray) (l : List UInt8) (V : World) (hrow : ∀ (j : Nat) x, ws[j]? = some x → V.cell? ⟨rb, 0 + j, none⟩ = some (.string x)) (hrb : rb < V.heap.size) (hI : BSt B WB l V) (hn : ws.length ≤ 100) (hc : ws.length ≤ c) (hlen : l.length + (lineL ws).length ≤ 1000000) :
    Calls Tryz.prog 106 #[.slice (some ⟨rb, 0, none⟩) ws.length c, .pointer (some ⟨WB, 0, none⟩)] V fun e w' => e = .returned (.tuple #[]) ∧ BSt B WB (l ++ lineL ws) w' ∧ BK B WB V w' := by
  have hl2 : (lineL ws).length = (Lib.join (ws.map (·.data.toList)) [32]).length + 1 := by unfold lineL; simp
  have HJ : Hid (Calls Tryz.prog 108 #[.slice (some ⟨rb, 0, none⟩) ws.length c, .string ⟨#[32]⟩] V fun e w' => e = .returned (.string ⟨(Lib.join (ws.map (·.data.toList)) [32]).toArray⟩) ∧ Below V.heap.size V w') := Lib.hid (Tryz.strings_Join rb 0 c ws ⟨#[32]⟩ V hrow hrb (by omega) hc (by show (Lib.join (ws.map (·.data.toList)) [32]).length ≤ _; omega))
  obtain ⟨s, hs⟩ : ∃ s : ByteArray, s = ⟨(Lib.join (ws.map (·.data.toList)) [32]).toArray⟩ := ⟨_, rfl⟩
  rw [← hs] at HJ
  have hsd : s.data.toList = Lib.join (ws.map (·.data.toList)) [32] := by rw [hs]
  have hsz : s.size = (Lib.join (ws.map (·.data.toList)) [32]).length := by rw [← hsd, Array.length_toList]; rfl
  have HSD := Lib.hid hsd
  have HI := Lib.hid hI
  have HLN : Hid (l.length + s.size + 1 ≤ 1000000) := Lib.hid (by omega)
  clear hs hsd hsz hrow hI hlen hl2 hrb hc hn
  go_enter Tryz.func106, Tryz.ntmps106
  go_wp2_with fail
  refine HJ.out.mono ?_
  rintro e V2 ⟨rfl, b2⟩
  have HB2 := Lib.hid b2
  have HC2 := Lib.hid (writeString2_any s (HI.out.under b2) (by have := HLN.out; omega))
  clear b2
  go_wp2_with fail
  refine HC2.out.mono ?_
  rintro e V3 ⟨rfl, h3, b3⟩
  have HB3 := Lib.hid b3
  have HC3 := Lib.hid (writeByte2_any 10 10 rfl h3 (by rw [List.length_append, Array.length_toList]; exact HLN.out))
  clear h3 b3
  go_wp2_with fail
  refine HC3.out.mono ?_
  rintro e V4 ⟨rfl, h4, b4⟩
  have HH4 := Lib.hid h4
  have HB4 := Lib.hid b4
  clear h4 b4
  go_wp2_with fail
  go_end0
  refine ⟨rfl, ?_, ((BK.of_below HB2.out).trans HB3.out).trans HB4.out⟩
  have h9 := HH4.out
  rw [HSD.out, List.append_assoc] at h9
  exact h9

def numB (n : Int) : ByteArray := ⟨(itoa n).toArray⟩
theorem numB_size (n : Int) (h0 : -9223372036854775808 ≤ n) (h1 : n ≤ 9223372036854775807) : (numB n).size ≤ 21 := by
  have h2 : (numB n).data.toList.length = (numB n).size := by rw [Array.length_toList]; rfl
  have h3 := itoa_length_le n h0 h1
  have h4 : (numB n).data.toList = itoa n := rfl
  rw [h4] at h2
  omega
def fnW (f : Fn13) : List ByteArray := [⟨#[102, 110]⟩, f.s ++ ⟨#[58]⟩ ++ f.t ++ ⟨#[47]⟩ ++ numB f.n, numB f.at_, numB f.slots]
def opW (told : Cd → ByteArray) (i : Nat) (c : Cd) : List ByteArray := [numB i, numB c.op, numB c.a, numB c.b, told c]
def linesF (l : List Fn13) : List UInt8 := l.flatMap fun f => lineL (fnW f)
def linesO (told : Cd → ByteArray) (l : List Cd) : List UInt8 := (l.zipIdx.flatMap fun p => lineL (opW told p.2 p.1))
theorem linesF_take {l : List Fn13} {j : Nat} {f : Fn13} (h : l[j]? = some f) : linesF (l.take (j + 1)) = linesF (l.take j) ++ lineL (fnW f) := by
  unfold linesF; rw [List.take_add_one, h, List.flatMap_append]; simp
theorem linesO_take (told : Cd → ByteArray) {l : List Cd} {j : Nat} {c : Cd} (h : l[j]? = some c) : linesO told (l.take (j + 1)) = linesO told (l.take j) ++ lineL (opW told j c) := by
  unfold linesO
  rw [List.take_add_one, h, Option.toList, List.zipIdx_append, List.flatMap_append]
  have hj := (List.getElem?_eq_some_iff.1 h).1
  simp [Nat.min_eq_left (Nat.le_of_lt hj)]
end Go.Proofs.YtdimcddbmccniaaGreatDoor
end
section
set_option linter.unusedVariables false
set_option linter.unusedSimpArgs false
namespace Go.Proofs.YtdimcddbmccniaaGreatDoor
open Go.RowKit Go.Lib

theorem linesF_le (l : List Fn13) (j : Nat) : (linesF (l.take j)).length ≤ (linesF l).length := by
  have h : linesF l = linesF (l.take j) ++ linesF (l.drop j) := by
    unfold linesF
    rw [← List.flatMap_append, List.take_append_drop]
  rw [h, List.length_append]; omega
theorem linesO_le (told : Cd → ByteArray) (l : List Cd) (j : Nat) : (linesO told (l.take j)).length ≤ (linesO told l).length := by
  have h : linesO told l = linesO told (l.take j) ++ (((l.drop j).zipIdx (0 + (l.take j).length)).flatMap fun p => lineL (opW told p.2 p.1)) := by
    unfold linesO
    rw [← List.flatMap_append, ← List.zipIdx_append, List.take_append_drop]
  rw [h, List.length_append]; omega
theorem itoa_any (n : Int) (h0 : -9223372036854775808 ≤ n) (h1 : n ≤ 9223372036854775807) (w : World) (hp : PowTab7 w) :
    Calls Tryz.prog 73 #[.int .i64 n] w fun e w' => e = .returned (.string (numB n)) ∧ Below w.heap.size w w' := by
  refine (Tryz.strconv_Itoa n h0 h1 w (pow7_tab hp)).mono ?_
  rintro e Y ⟨rfl, k9, os9, hY⟩
  exact ⟨rfl, by rw [hY]; exact Go.Lib.below_grow _ _ (Nat.le_refl _) _ _⟩
theorem row_strs {V : World} {rb : Nat} {ws : List ByteArray} {T : TypeId} {cs : Array Value} {fz : Nat × Nat} (h : V.heap[rb]? = some (.cells cs T fz)) {i : Nat} {y : ByteArray} (hy : ws[i]? = some y) (hc : cs = (ws.map Value.string).toArray) : V.cell? ⟨rb, 0 + i, none⟩ = some (.string y) := by
  subst hc
  rw [Nat.zero_add]
  exact cell_of_row h (by simp [hy])
theorem bst_is {WB : Nat} {l : List UInt8} {V : World} (h : BSt (WB + 1) WB l V) : IsBuilder 173 5 WB WB (byteCells l) V := by
  obtain ⟨v, p, h1, h2, h3⟩ := h.at_
  have hv : v.ownBlock ≠ some WB := fun e => by have := (h2.lt _ e).1; omega
  have h4 : V.ownsRow WB 5 1 v (byteCells l).length (byteCells l) := by rw [byteCells_length]; exact h2.mono (Nat.le_succ _)
  rcases h3 with rfl | rfl
  · exact .inl ⟨Nat.le_refl _, v, h1, h4, hv⟩
  · exact .inr ⟨Nat.le_refl _, v, h1, h4, hv⟩
structure WrS (B WB : Nat) (l : List UInt8) (W1 V : World) : Prop where
  st : BSt B WB l V
  bk : BK B WB W1 V
theorem WrS.under {B WB : Nat} {l : List UInt8} {W1 V V2 : World} (h : WrS B WB l W1 V) (b : Below V.heap.size V V2) : WrS B WB l W1 V2 := ⟨h.st.under b, h.bk.trans (BK.of_below b)⟩
set_option maxHeartbeats 16000000 in
set_option maxRecDepth 100000 in
theorem written13_any (x : Pg) (A : Option Addr) (ca : Nat) (B : Option Addr) (cb : Nat) (C : Option Addr) (cc : Nat) (W : World) (hX : PgAt (· < W.heap.size) W x A ca B cb C cc) (hE : Env13 W) (told0 : Cd → ByteArray)
    (hT : ∀ c v V, c ∈ x.ops → Below W.heap.size W V → CdAt (· < W.heap.size) V c v → Calls Tryz.prog 110 #[v] V fun e w' => e = .returned (.string (told0 c)) ∧ Below V.heap.size V w')
    (hFS : ∀ f ∈ x.fns, f.s.size ≤ 1000 ∧ f.t.size ≤ 1000) (hlen : (linesF x.fns).length + (linesO told0 x.ops).length ≤ 900000) (hne : linesF x.fns ++ linesO told0 x.ops ≠ []) :
    Calls Tryz.prog 72 #[.agg #[.slice A x.fns.length ca, .slice B x.ops.length cb, .slice C x.tab.length cc]] W fun e w' => e = .returned (.string ⟨(linesF x.fns ++ linesO told0 x.ops).toArray⟩) ∧ Below W.heap.size W w' := by
  obtain ⟨W1, hW1⟩ : ∃ W1, W1 = (W.alloc (.cells #[.slice A x.fns.length ca, .slice B x.ops.length cb, .slice C x.tab.length cc] 45)).alloc (.cells #[.pointer none, .slice none 0 0] 173) := ⟨_, rfl⟩
  obtain ⟨g0, g1, b1, z1⟩ := two13 W _ _ W1 hW1
  obtain ⟨p0, p1, p2⟩ := c3 g0
  obtain ⟨WB, hWB⟩ : ∃ WB, WB = W.heap.size + 1 := ⟨_, rfl⟩
  rw [← hWB] at g1
  have hst : WrS (WB + 1) WB [] W1 W1 := ⟨⟨by omega, by omega, ⟨_, _, g1, World.ownsRow_nil _ _ _ _, .inl rfl⟩⟩, BK.of_below (Below.refl _ _)⟩
  have HI0 := Lib.hid hst
  have HX := Lib.hid hX
  have HE := Lib.hid (EnvB.of hE)
  have HT := Lib.hid hT
  have HFS := Lib.hid hFS
  have HLEN := Lib.hid hlen
  have HNE := Lib.hid hne
  have HB1 := Lib.hid b1
  have HG0 := Lib.hid g0
  have HWB := Lib.hid (And.intro hWB z1)
  have hmf := hX.fns.max
  have hmo := hX.ops.max
  unfold maxLen at hmf hmo
  clear hst hX hE hT hFS hlen hne b1 g0 g1 z1
  go_enter Tryz.func72, Tryz.ntmps72
  go_upto_region 2 with fail
  rw [← hW1, ← hWB]
  clear hW1 hWB
  go_upto_region 3 with fail
  go_wp2_with fail
  clear p0 p1 p2
  go_loopw [13] (fun i wr => ∃ j : Nat, j ≤ x.fns.length ∧ i = .int .i64 j ∧ Hid (WrS (WB + 1) WB (linesF (x.fns.take j)) W1 wr)) (fun i _ => x.fns.length - (RowKit.intOf i).toNat)
  case atStart => exact ⟨0, Nat.zero_le _, rfl, HI0⟩
  case round =>
    clear HI0
    obtain ⟨j, hj, rfl, HI⟩ := hrel
    have hbw : Below W.heap.size W wr := HB1.out.trans (HI.out.bk.mod.below HB1.out.size (fun i hi => by have := HWB.out.1; omega))
    have HBW := Lib.hid hbw
    by_cases hlt : j < x.fns.length
    case neg =>
      have hjn : j = x.fns.length := by omega
      subst hjn
      have HF0 : Hid (WrS (WB + 1) WB (linesF x.fns ++ linesO told0 (x.ops.take 0)) W1 wr) := Lib.hid (by have h9 := HI.out; rw [List.take_length] at h9; simpa [linesO] using h9)
      have hz := HI.out.bk.block HG0.out (by have := HWB.out.1; omega) (by decide)
      have p1 : wr.cell? ⟨W.heap.size, 1, none⟩ = some (.slice B x.ops.length cb) := cell_of_row (i := 1) hz rfl
      clear HI hbw HBW hz hlt
      go_wp2_with fail
      clear p1
      go_loopw [41] (fun i wr2 => ∃ j : Nat, j ≤ x.ops.length ∧ i = .int .i64 j ∧ Hid (WrS (WB + 1) WB (linesF x.fns ++ linesO told0 (x.ops.take j)) W1 wr2)) (fun i _ => x.ops.length - (RowKit.intOf i).toNat)
      case atStart => exact ⟨0, Nat.zero_le _, rfl, HF0⟩
      case round =>
        clear HF0
        obtain ⟨j, hj, rfl, HI⟩ := hrel
        have hbw : Below W.heap.size W wr := HB1.out.trans (HI.out.bk.mod.below HB1.out.size (fun i hi => by have := HWB.out.1; omega))
        have HBW := Lib.hid hbw
        by_cases hlt : j < x.ops.length
        case neg =>
          have hjn : j = x.ops.length := by omega
          subst hjn
          have HC := Lib.hid (Tryz.Builder_String WB WB (linesF x.fns ++ linesO told0 x.ops) wr (bst_is (by have h9 := HI.out.st; rwa [List.take_length] at h9)) HNE.out)
          clear hbw HI hlt
          go_wp2_with fail
          refine HC.out.mono ?_
          rintro e Y ⟨rfl, bY⟩
          have HBY := Lib.hid bY
          clear bY
          go_wp2_with fail
          go_ret
          exact ⟨rfl, HBW.out.trans (HBY.out.mono (by have := HWB.out.1; omega))⟩
        obtain ⟨y, hy⟩ : ∃ y, x.ops[j]? = some y := ⟨x.ops[j], List.getElem?_eq_getElem hlt⟩
        obtain ⟨ad, u, hA, had, hEl, hTy⟩ := HX.out.ops.at_ j y hy
        subst hA
        have hEr := hEl.keep (hbw.block _ had)
        have hTw := hTy.keep (fun b hb => hbw.block b hb) (fun b hb => hb)
        have HEN := Lib.hid (HE.out.under hbw)
        have HYJ := Lib.hid hy
        have HYM := Lib.hid (List.mem_of_getElem? hy)
        obtain ⟨op, a, b, ⟨tk, tn, ts, tt, tl⟩, ⟨pk, pn, ps, pt, pl⟩, yl⟩ := y
        obtain ⟨TA, tcap, PA, pcap, LA, lcap, rfl, -, -, -, hbo, hba, hbb⟩ := hTy.parts
        obtain ⟨c0, c1, c2, c3, c4, c5, c6, c7, c8, c9, c10, c11, c12, c13, hcc, e0, e1, e2, e3, e4, e5, e6, e7, e8, e9, e10, e11, e12, e13⟩ := hEr
        simp only [Value.agg.injEq, Array.mk.injEq, List.cons.injEq, and_true] at hcc
        obtain ⟨rfl, rfl, rfl, rfl, rfl, rfl, rfl, rfl, rfl, rfl, rfl, rfl, rfl, rfl⟩ := hcc
        have HTW := Lib.hid hTw
        clear hy hEl had hTy hTw hbw
        go_upto_region 11 with fail
        clear e0 e1 e2 e3 e4 e5 e6 e7 e8 e9 e10 e11 e12 e13
        obtain ⟨V1, hV1⟩ : ∃ V1, V1 = wr.alloc (.cells #[.int .i8 op, .int .i64 a, .int .i64 b, .int .i8 tk, .int .i64 tn, .string ts, .string tt, .slice TA tl.length tcap, .int .i8 pk, .int .i64 pn, .string ps, .string pt, .slice PA pl.length pcap, .slice LA yl.length lcap] 50) := ⟨_, rfl⟩
        rw [← hV1]
        have bv : Below wr.heap.size wr V1 := by rw [hV1]; exact (Below.refl _ _).alloc (Nat.le_refl _) _
        have gx : V1.heap[wr.heap.size]? = some (.cells #[.int .i8 op, .int .i64 a, .int .i64 b, .int .i8 tk, .int .i64 tn, .string ts, .string tt, .slice TA tl.length tcap, .int .i8 pk, .int .i64 pn, .string ps, .string pt, .slice PA pl.length pcap, .slice LA yl.length lcap] 50 (0, 0)) := by rw [hV1]; exact block_alloc _ _
        clear hV1
        obtain ⟨fb, hfb⟩ : ∃ fb, fb = wr.heap.size := ⟨_, rfl⟩
        rw [← hfb] at gx ⊢
        have HFW : Hid (fb ≠ WB) := Lib.hid (by have := HI.out.st.base; have := HI.out.st.wb; omega)
        obtain ⟨yy, hyy⟩ : ∃ yy : Cd, yy = ⟨op, a, b, .mk tk tn ts tt tl, .mk pk pn ps pt pl, yl⟩ := ⟨_, rfl⟩
        have HYY : Hid (opW told0 j yy = [numB (j : Int), numB op, numB a, numB b, told0 yy]) := Lib.hid (by rw [hyy]; rfl)
        rw [← hyy] at HYJ HYM HTW
        clear hyy
        have hwo : IntKind.i64.wrap op = op := by rw [IntKind.wrap_i64]; omega
        refine wp_region_held (S := fun V => V.heap[fb]? = some (.cells #[.int .i8 op, .int .i64 a, .int .i64 b, .int .i8 tk, .int .i64 tn, .string ts, .string tt, .slice TA tl.length tcap, .int .i8 pk, .int .i64 pn, .string ps, .string pt, .slice PA pl.length pcap, .slice LA yl.length lcap] 50 (0, 0))) (by kernel_rfl) ?_
        show wpAnyH _ _ _ _ _ _ _ _ V1.drew
        have hdr : Below V1.heap.size V1 V1.drew := ⟨rfl, rfl, rfl, Nat.le_refl _, fun _ _ => rfl⟩
        have hS0 : V1.drew.heap[fb]? = some (.cells #[.int .i8 op, .int .i64 a, .int .i64 b, .int .i8 tk, .int .i64 tn, .string ts, .string tt, .slice TA tl.length tcap, .int .i8 pk, .int .i64 pn, .string ps, .string pt, .slice PA pl.length pcap, .slice LA yl.length lcap] 50 (0, 0)) := gx
        have HS0 := Lib.hid ((HI.out.under bv).under hdr)
        have HE0 := Lib.hid ((HEN.out.under (bv.mono HEN.out.le)).under (hdr.mono (Nat.le_trans HEN.out.le bv.size)))
        have HB0 := Lib.hid (bv.trans (hdr.mono bv.size))
        have HLE := Lib.hid HEN.out.le
        clear hdr gx bv hfb HI HEN
        generalize V1.drew = D at hS0 HS0 HE0 HB0 ⊢
        refine wpAnyH_take (i := 0) (oi := ⟨some 46, _, _, _, _, _⟩) (v := ?_) rfl (by kernel_rfl) (by kernel_rfl) (by kernel_rfl) (fun _ _ _ h => h) (Or.inl ⟨by kernel_rfl, ?_⟩) (by assumption) ?_; rotate_left; (intro V hV; (try dsimp only at hV); go_simp; first | done | with_reducible rfl); (try simp only [Act.put, sI, sZ, sS])
        refine wpAnyH_take (i := 1) (oi := ⟨some 47, _, _, _, _, _⟩) (v := ?_) rfl (by kernel_rfl) (by kernel_rfl) (by kernel_rfl) (fun _ _ _ h => h) (Or.inl ⟨by kernel_rfl, ?_⟩) (by assumption) ?_; rotate_left; (intro V hV; (try dsimp only at hV); go_simp; first | done | with_reducible rfl); (try simp only [Act.put, sI, sZ, sS])
        refine wpAnyH_take (i := 3) (oi := ⟨some 49, _, _, _, _, _⟩) (v := ?_) rfl (by kernel_rfl) (by kernel_rfl) (by kernel_rfl) (fun _ _ _ h => h) (Or.inl ⟨by kernel_rfl, ?_⟩) (by assumption) ?_; rotate_left; (intro V hV; (try dsimp only at hV); go_simp; first | done | with_reducible rfl); (try simp only [Act.put, sI, sZ, sS])
        refine wpAnyH_take (i := 4) (oi := ⟨some 50, _, _, _, _, _⟩) (v := ?_) rfl (by kernel_rfl) (by kernel_rfl) (by kernel_rfl) (fun _ _ _ h => h) (Or.inl ⟨by kernel_rfl, ?_⟩) (by assumption) ?_; rotate_left; (intro V hV; (try dsimp only at hV); have f0 := cell_of_row (i := 0) hV rfl; go_simp; first | done | with_reducible rfl); (try simp only [Act.put, sI, sZ, sS])
        refine wpAnyH_take (i := 5) (oi := ⟨some 51, _, _, _, _, _⟩) (v := ?_) rfl (by kernel_rfl) (by kernel_rfl) (by kernel_rfl) (fun _ _ _ h => h) (Or.inl ⟨by kernel_rfl, ?_⟩) (by assumption) ?_; rotate_left; (intro V hV; (try dsimp only at hV); go_simp; first | done | with_reducible rfl); (try simp only [Act.put, sI, sZ, sS])
        refine wpAnyH_take (i := 7) (oi := ⟨some 53, _, _, _, _, _⟩) (v := ?_) rfl (by kernel_rfl) (by kernel_rfl) (by kernel_rfl) (fun _ _ _ h => h) (Or.inl ⟨by kernel_rfl, ?_⟩) (by assumption) ?_; rotate_left; (intro V hV; (try dsimp only at hV); go_simp; first | done | with_reducible rfl); (try simp only [Act.put, sI, sZ, sS])
        refine wpAnyH_take (i := 8) (oi := ⟨some 54, _, _, _, _, _⟩) (v := ?_) rfl (by kernel_rfl) (by kernel_rfl) (by kernel_rfl) (fun _ _ _ h => h) (Or.inl ⟨by kernel_rfl, ?_⟩) (by assumption) ?_; rotate_left; (intro V hV; (try dsimp only at hV); have f0 := cell_of_row (i := 1) hV rfl; go_simp; first | done | with_reducible rfl); (try simp only [Act.put, sI, sZ, sS])
        refine wpAnyH_take (i := 10) (oi := ⟨some 56, _, _, _, _, _⟩) (v := ?_) rfl (by kernel_rfl) (by kernel_rfl) (by kernel_rfl) (fun _ _ _ h => h) (Or.inl ⟨by kernel_rfl, ?_⟩) (by assumption) ?_; rotate_left; (intro V hV; (try dsimp only at hV); go_simp; first | done | with_reducible rfl); (try simp only [Act.put, sI, sZ, sS])
        refine wpAnyH_take (i := 11) (oi := ⟨some 57, _, _, _, _, _⟩) (v := ?_) rfl (by kernel_rfl) (by kernel_rfl) (by kernel_rfl) (fun _ _ _ h => h) (Or.inl ⟨by kernel_rfl, ?_⟩) (by assumption) ?_; rotate_left; (intro V hV; (try dsimp only at hV); have f0 := cell_of_row (i := 2) hV rfl; go_simp; first | done | with_reducible rfl); (try simp only [Act.put, sI, sZ, sS])
        refine wpAnyH_take (i := 13) (oi := ⟨some 59, _, _, _, _, _⟩) (v := ?_) rfl (by kernel_rfl) (by kernel_rfl) (by kernel_rfl) (fun _ _ _ h => h) (Or.inl ⟨by kernel_rfl, ?_⟩) (by assumption) ?_; rotate_left; (intro V hV; (try dsimp only at hV); obtain ⟨f0, f1, f2, f3, f4, f5, f6, f7, f8, f9, f10, f11, f12, f13⟩ := c14 hV; go_simp; first | done | with_reducible rfl); (try simp only [Act.put, sI, sZ, sS])
        refine wpAnyH_ready (rs := [2]) (by kernel_rfl) (by simp) ?_
        refine AllReadyH.cons (o := ⟨some 48, _, _, _, _, _⟩) rfl (fun K hK => ?_) AllReadyH.nil
        rw [if_pos (by rfl)]
        go_simp
        refine (itoa_any (j : Int) (by omega)  (by omega) D HE0.out.env.env.pow).mono ?_
        rintro e Y1 ⟨rfl, bY⟩
        have hS1 := (bY.block _ (heap_lt hS0)).trans hS0
        have HS1 := Lib.hid (HS0.out.under bY)
        have HB1 := Lib.hid (HB0.out.trans (bY.mono HB0.out.size))
        have HE1 := Lib.hid (HE0.out.under (bY.mono HE0.out.le))
        clear bY
        refine hK.out _ _ hS1 (fun hSn => ?_)
        clear hK K hSn; (try simp only [Act.put, sI, sZ, sS])
        clear hS0 HS0 HE0 HB0
        refine wpAnyH_ready (rs := [6]) (by kernel_rfl) (by simp) ?_
        refine AllReadyH.cons (o := ⟨some 52, _, _, _, _, _⟩) rfl (fun K hK => ?_) AllReadyH.nil
        rw [if_pos (by rfl)]
        go_simp
        refine (itoa_any op (by omega)  (by omega) Y1 HE1.out.env.env.pow).mono ?_
        rintro e Y2 ⟨rfl, bY⟩
        have hS2 := (bY.block _ (heap_lt hS1)).trans hS1
        have HS2 := Lib.hid (HS1.out.under bY)
        have HB2 := Lib.hid (HB1.out.trans (bY.mono HB1.out.size))
        have HE2 := Lib.hid (HE1.out.under (bY.mono HE1.out.le))
        clear bY
        refine hK.out _ _ hS2 (fun hSn => ?_)
        clear hK K hSn; (try simp only [Act.put, sI, sZ, sS])
        clear hS1 HS1 HE1 HB1
        refine wpAnyH_ready (rs := [9]) (by kernel_rfl) (by simp) ?_
        refine AllReadyH.cons (o := ⟨some 55, _, _, _, _, _⟩) rfl (fun K hK => ?_) AllReadyH.nil
        rw [if_pos (by rfl)]
        go_simp
        refine (itoa_any a (by omega)  (by omega) Y2 HE2.out.env.env.pow).mono ?_
        rintro e Y3 ⟨rfl, bY⟩
        have hS3 := (bY.block _ (heap_lt hS2)).trans hS2
        have HS3 := Lib.hid (HS2.out.under bY)
        have HB3 := Lib.hid (HB2.out.trans (bY.mono HB2.out.size))
        have HE3 := Lib.hid (HE2.out.under (bY.mono HE2.out.le))
        clear bY
        refine hK.out _ _ hS3 (fun hSn => ?_)
        clear hK K hSn; (try simp only [Act.put, sI, sZ, sS])
        clear hS2 HS2 HE2 HB2
        refine wpAnyH_ready (rs := [12]) (by kernel_rfl) (by simp) ?_
        refine AllReadyH.cons (o := ⟨some 58, _, _, _, _, _⟩) rfl (fun K hK => ?_) AllReadyH.nil
        rw [if_pos (by rfl)]
        go_simp
        refine (itoa_any b (by omega)  (by omega) Y3 HE3.out.env.env.pow).mono ?_
        rintro e Y4 ⟨rfl, bY⟩
        have hS4 := (bY.block _ (heap_lt hS3)).trans hS3
        have HS4 := Lib.hid (HS3.out.under bY)
        have HB4 := Lib.hid (HB3.out.trans (bY.mono HB3.out.size))
        have HE4 := Lib.hid (HE3.out.under (bY.mono HE3.out.le))
        clear bY
        refine hK.out _ _ hS4 (fun hSn => ?_)
        clear hK K hSn; (try simp only [Act.put, sI, sZ, sS])
        clear hS3 HS3 HE3 HB3
        refine wpAnyH_ready (rs := [14]) (by kernel_rfl) (by simp) ?_
        refine AllReadyH.cons (o := ⟨some 60, _, _, _, _, _⟩) rfl (fun K hK => ?_) AllReadyH.nil
        rw [if_pos (by rfl)]
        go_simp
        refine (HT.out yy _ Y4 HYM.out (HBW.out.trans (HB4.out.mono HLE.out)) (HTW.out.keep (fun b hb => HB4.out.block b (Nat.lt_of_lt_of_le hb HLE.out)) (fun b hb => hb))).mono ?_
        rintro e Y5 ⟨rfl, bY⟩
        have hS5 := (bY.block _ (heap_lt hS4)).trans hS4
        have HS5 := Lib.hid (HS4.out.under bY)
        clear bY
        refine hK.out _ _ hS5 (fun hSn => ?_)
        clear hK K hSn; (try simp only [Act.put, sI, sZ, sS])
        clear hS4 HS4 HE4 HB4
        refine wpAnyH_ready (rs := [15]) (by kernel_rfl) (by simp) ?_
        refine AllReadyH.cons (o := ⟨some 61, _, _, _, _, _⟩) rfl (fun K hK => ?_) AllReadyH.nil
        rw [if_pos (by rfl)]
        go_simp
        have gD := block_alloc Y5 (.cells #[.string (numB (j : Int)), .string (numB op), .string (numB a), .string (numB b), .string (told0 yy)] 9)
        have bD : Below Y5.heap.size Y5 (Y5.alloc (.cells #[.string (numB (j : Int)), .string (numB op), .string (numB a), .string (numB b), .string (told0 yy)] 9)) := (Below.refl _ _).alloc (Nat.le_refl _) _
        generalize Y5.alloc (.cells #[.string (numB (j : Int)), .string (numB op), .string (numB a), .string (numB b), .string (told0 yy)] 9) = Y6 at gD bD ⊢
        have hS6 := (bD.block _ (heap_lt hS5)).trans hS5
        have HS6 := Lib.hid (HS5.out.under bD)
        obtain ⟨rb, hrb⟩ : ∃ rb, rb = Y5.heap.size := ⟨_, rfl⟩
        rw [← hrb] at gD ⊢
        have HGD := Lib.hid gD
        clear hrb gD bD
        refine hK.out _ _ hS6 (fun hSn => ?_)
        clear hK K hSn; (try simp only [Act.put, sI, sZ, sS])
        clear hS5 HS5
        refine wpAnyH_ready (rs := [16]) (by kernel_rfl) (by simp) ?_
        refine AllReadyH.cons (o := ⟨some 62, _, _, _, _, _⟩) rfl (fun K hK => ?_) AllReadyH.nil
        rw [if_pos (by rfl)]
        go_simp
        refine (line13_any (WB + 1) WB rb 5 (opW told0 j yy) (linesF x.fns ++ linesO told0 (x.ops.take j)) Y6 ?_ (heap_lt HGD.out) HS6.out.st (by simp [opW]) (by simp [opW]) ?_).mono ?_
        · intro i y hy
          exact row_strs HGD.out hy (by rw [HYY.out]; rfl)
        · rw [List.length_append, Nat.add_assoc, ← List.length_append, ← linesO_take told0 HYJ.out]
          have := linesO_le told0 x.ops (j + 1); have := HLEN.out; omega
        rintro e Y7 ⟨rfl, h5, k5⟩
        rw [List.append_assoc, ← linesO_take told0 HYJ.out] at h5
        have hS7 := k5.block hS6 HFW.out (by decide)
        have HS7 := Lib.hid (WrS.mk h5 (HS6.out.bk.trans k5))
        clear h5 k5
        refine hK.out _ _ hS7 (fun hSn => ?_)
        clear hK K hSn; (try simp only [Act.put, sI, sZ, sS])
        clear hS6 HS6 HGD
        refine wpAnyH_done (by kernel_rfl) ?_ _
        clear hS7
        go_wp2_with fail
        go_roundw
        case rel => exact ⟨j + 1, by omega, by go_num, HS7⟩
        case measure => simp [RowKit.intOf]; omega
    obtain ⟨f, hf⟩ : ∃ f, x.fns[j]? = some f := ⟨x.fns[j], List.getElem?_eq_getElem hlt⟩
    obtain ⟨ad, hA, had, hEl, hFB⟩ := HX.out.fns.at_ j f hf
    subst hA
    have hEw := hEl.keep (hbw.block _ had)
    have HFJ := Lib.hid hf
    have HFB := Lib.hid hFB
    have HEN := Lib.hid (HE.out.under hbw)
    obtain ⟨d0, d1, d2, d3, d4, hcc, e0, e1, e2, e3, e4⟩ := hEw
    simp only [fn13V, Value.agg.injEq, Array.mk.injEq, List.cons.injEq, and_true] at hcc
    obtain ⟨rfl, rfl, rfl, rfl, rfl⟩ := hcc
    have hs1 := (HFS.out f (List.mem_of_getElem? hf)).1
    have hs2 := (HFS.out f (List.mem_of_getElem? hf)).2
    clear hf hEl had hFB hbw
    have q1 : (⟨#[58]⟩ : ByteArray).size = 1 := rfl
    have q2 : (⟨#[47]⟩ : ByteArray).size = 1 := rfl
    go_upto_region 6 with fail
    clear e0 e1 e2 e3 e4
    obtain ⟨V1, hV1⟩ : ∃ V1, V1 = wr.alloc (.cells #[.string f.s, .string f.t, .int .i64 f.n, .int .i64 f.at_, .int .i64 f.slots] 77) := ⟨_, rfl⟩
    rw [← hV1]
    have bv : Below wr.heap.size wr V1 := by rw [hV1]; exact (Below.refl _ _).alloc (Nat.le_refl _) _
    have gx : V1.heap[wr.heap.size]? = some (.cells #[.string f.s, .string f.t, .int .i64 f.n, .int .i64 f.at_, .int .i64 f.slots] 77 (0, 0)) := by rw [hV1]; exact block_alloc _ _
    clear hV1
    obtain ⟨fb, hfb⟩ : ∃ fb, fb = wr.heap.size := ⟨_, rfl⟩
    rw [← hfb] at gx ⊢
    have hfw : fb ≠ WB := by have := HI.out.st.base; have := HI.out.st.wb; omega
    have HFW := Lib.hid hfw
    refine wp_region_held (S := fun V => V.heap[fb]? = some (.cells #[.string f.s, .string f.t, .int .i64 f.n, .int .i64 f.at_, .int .i64 f.slots] 77 (0, 0))) (by kernel_rfl) ?_
    show wpAnyH _ _ _ _ _ _ _ _ V1.drew
    have hdr : Below V1.heap.size V1 V1.drew := ⟨rfl, rfl, rfl, Nat.le_refl _, fun _ _ => rfl⟩
    have hS0 : V1.drew.heap[fb]? = some (.cells #[.string f.s, .string f.t, .int .i64 f.n, .int .i64 f.at_, .int .i64 f.slots] 77 (0, 0)) := gx
    have HS0 := Lib.hid ((HI.out.under bv).under hdr)
    have HE0 := Lib.hid ((HEN.out.under (bv.mono HEN.out.le)).under (hdr.mono (Nat.le_trans HEN.out.le bv.size)))
    clear hdr gx bv hfb hfw HI HEN
    generalize V1.drew = D at hS0 HS0 HE0 ⊢
    refine wpAnyH_take (i := 0) (oi := ⟨some 17, _, _, _, _, _⟩) (v := ?_) rfl (by kernel_rfl) (by kernel_rfl) (by kernel_rfl) (fun _ _ _ h => h) (Or.inl ⟨by kernel_rfl, ?_⟩) (by assumption) ?_; rotate_left; (intro V hV; (try dsimp only at hV); go_simp; first | done | with_reducible rfl); (try simp only [Act.put, sI, sZ, sS])
    refine wpAnyH_take (i := 1) (oi := ⟨some 18, _, _, _, _, _⟩) (v := ?_) rfl (by kernel_rfl) (by kernel_rfl) (by kernel_rfl) (fun _ _ _ h => h) (Or.inl ⟨by kernel_rfl, ?_⟩) (by assumption) ?_; rotate_left; (intro V hV; (try dsimp only at hV); go_simp; first | done | with_reducible rfl); (try simp only [Act.put, sI, sZ, sS])
    refine wpAnyH_take (i := 2) (oi := ⟨some 19, _, _, _, _, _⟩) (v := ?_) rfl (by kernel_rfl) (by kernel_rfl) (by kernel_rfl) (fun _ _ _ h => h) (Or.inl ⟨by kernel_rfl, ?_⟩) (by assumption) ?_; rotate_left; (intro V hV; (try dsimp only at hV); have f0 := cell_of_row (i := 0) hV rfl; go_simp; first | done | with_reducible rfl); (try simp only [Act.put, sI, sZ, sS])
    refine wpAnyH_take (i := 3) (oi := ⟨some 20, _, _, _, _, _⟩) (v := ?_) rfl (by kernel_rfl) (by kernel_rfl) (by kernel_rfl) (fun _ _ _ h => h) (Or.inl ⟨by kernel_rfl, ?_⟩) (by assumption) ?_; rotate_left; (intro V hV; (try dsimp only at hV); go_simp; first | done | with_reducible rfl | (rw [if_neg]; (try simp only [ByteArray.size_append, q1, q2]); omega)); (try simp only [Act.put, sI, sZ, sS])
    refine wpAnyH_take (i := 4) (oi := ⟨some 21, _, _, _, _, _⟩) (v := ?_) rfl (by kernel_rfl) (by kernel_rfl) (by kernel_rfl) (fun _ _ _ h => h) (Or.inl ⟨by kernel_rfl, ?_⟩) (by assumption) ?_; rotate_left; (intro V hV; (try dsimp only at hV); go_simp; first | done | with_reducible rfl); (try simp only [Act.put, sI, sZ, sS])
    refine wpAnyH_take (i := 5) (oi := ⟨some 22, _, _, _, _, _⟩) (v := ?_) rfl (by kernel_rfl) (by kernel_rfl) (by kernel_rfl) (fun _ _ _ h => h) (Or.inl ⟨by kernel_rfl, ?_⟩) (by assumption) ?_; rotate_left; (intro V hV; (try dsimp only at hV); have f0 := cell_of_row (i := 1) hV rfl; go_simp; first | done | with_reducible rfl); (try simp only [Act.put, sI, sZ, sS])
    refine wpAnyH_take (i := 6) (oi := ⟨some 23, _, _, _, _, _⟩) (v := ?_) rfl (by kernel_rfl) (by kernel_rfl) (by kernel_rfl) (fun _ _ _ h => h) (Or.inl ⟨by kernel_rfl, ?_⟩) (by assumption) ?_; rotate_left; (intro V hV; (try dsimp only at hV); go_simp; first | done | with_reducible rfl | (rw [if_neg]; (try simp only [ByteArray.size_append, q1, q2]); omega)); (try simp only [Act.put, sI, sZ, sS])
    refine wpAnyH_take (i := 7) (oi := ⟨some 24, _, _, _, _, _⟩) (v := ?_) rfl (by kernel_rfl) (by kernel_rfl) (by kernel_rfl) (fun _ _ _ h => h) (Or.inl ⟨by kernel_rfl, ?_⟩) (by assumption) ?_; rotate_left; (intro V hV; (try dsimp only at hV); go_simp; first | done | with_reducible rfl | (rw [if_neg]; (try simp only [ByteArray.size_append, q1, q2]); omega)); (try simp only [Act.put, sI, sZ, sS])
    refine wpAnyH_take (i := 8) (oi := ⟨some 25, _, _, _, _, _⟩) (v := ?_) rfl (by kernel_rfl) (by kernel_rfl) (by kernel_rfl) (fun _ _ _ h => h) (Or.inl ⟨by kernel_rfl, ?_⟩) (by assumption) ?_; rotate_left; (intro V hV; (try dsimp only at hV); go_simp; first | done | with_reducible rfl); (try simp only [Act.put, sI, sZ, sS])
    refine wpAnyH_take (i := 9) (oi := ⟨some 26, _, _, _, _, _⟩) (v := ?_) rfl (by kernel_rfl) (by kernel_rfl) (by kernel_rfl) (fun _ _ _ h => h) (Or.inl ⟨by kernel_rfl, ?_⟩) (by assumption) ?_; rotate_left; (intro V hV; (try dsimp only at hV); have f0 := cell_of_row (i := 2) hV rfl; go_simp; first | done | with_reducible rfl); (try simp only [Act.put, sI, sZ, sS])
    refine wpAnyH_take (i := 12) (oi := ⟨some 29, _, _, _, _, _⟩) (v := ?_) rfl (by kernel_rfl) (by kernel_rfl) (by kernel_rfl) (fun _ _ _ h => h) (Or.inl ⟨by kernel_rfl, ?_⟩) (by assumption) ?_; rotate_left; (intro V hV; (try dsimp only at hV); go_simp; first | done | with_reducible rfl); (try simp only [Act.put, sI, sZ, sS])
    refine wpAnyH_take (i := 13) (oi := ⟨some 30, _, _, _, _, _⟩) (v := ?_) rfl (by kernel_rfl) (by kernel_rfl) (by kernel_rfl) (fun _ _ _ h => h) (Or.inl ⟨by kernel_rfl, ?_⟩) (by assumption) ?_; rotate_left; (intro V hV; (try dsimp only at hV); have f0 := cell_of_row (i := 3) hV rfl; go_simp; first | done | with_reducible rfl); (try simp only [Act.put, sI, sZ, sS])
    refine wpAnyH_take (i := 15) (oi := ⟨some 32, _, _, _, _, _⟩) (v := ?_) rfl (by kernel_rfl) (by kernel_rfl) (by kernel_rfl) (fun _ _ _ h => h) (Or.inl ⟨by kernel_rfl, ?_⟩) (by assumption) ?_; rotate_left; (intro V hV; (try dsimp only at hV); go_simp; first | done | with_reducible rfl); (try simp only [Act.put, sI, sZ, sS])
    refine wpAnyH_take (i := 16) (oi := ⟨some 33, _, _, _, _, _⟩) (v := ?_) rfl (by kernel_rfl) (by kernel_rfl) (by kernel_rfl) (fun _ _ _ h => h) (Or.inl ⟨by kernel_rfl, ?_⟩) (by assumption) ?_; rotate_left; (intro V hV; (try dsimp only at hV); have f0 := cell_of_row (i := 4) hV rfl; go_simp; first | done | with_reducible rfl); (try simp only [Act.put, sI, sZ, sS])
    refine wpAnyH_ready (rs := [10]) (by kernel_rfl) (by simp) ?_
    refine AllReadyH.cons (o := ⟨some 27, _, _, _, _, _⟩) rfl (fun K hK => ?_) AllReadyH.nil
    rw [if_pos (by rfl)]
    go_simp
    refine (itoa_any f.n HFB.out.n.1 HFB.out.n.2 D HE0.out.env.env.pow).mono ?_
    rintro e Y1 ⟨rfl, bY⟩
    have hS1 := (bY.block _ (heap_lt hS0)).trans hS0
    have HS1 := Lib.hid (HS0.out.under bY)
    have HE1 := Lib.hid (HE0.out.under (bY.mono HE0.out.le))
    clear bY
    refine hK.out _ _ hS1 (fun hSn => ?_)
    clear hK K hSn; (try simp only [Act.put, sI, sZ, sS])
    clear hS0 HS0 HE0
    have q3 := numB_size f.n HFB.out.n.1 HFB.out.n.2
    refine wpAnyH_take (i := 11) (oi := ⟨some 28, _, _, _, _, _⟩) (v := ?_) rfl (by kernel_rfl) (by kernel_rfl) (by kernel_rfl) (fun _ _ _ h => h) (Or.inl ⟨by kernel_rfl, ?_⟩) (by assumption) ?_; rotate_left; (intro V hV; (try dsimp only at hV); go_simp; first | done | with_reducible rfl | (rw [if_neg]; (try simp only [ByteArray.size_append, q1, q2]); omega)); (try simp only [Act.put, sI, sZ, sS])
    refine wpAnyH_ready (rs := [14]) (by kernel_rfl) (by simp) ?_
    refine AllReadyH.cons (o := ⟨some 31, _, _, _, _, _⟩) rfl (fun K hK => ?_) AllReadyH.nil
    rw [if_pos (by rfl)]
    go_simp
    refine (itoa_any f.at_ HFB.out.at_.1 HFB.out.at_.2 Y1 HE1.out.env.env.pow).mono ?_
    rintro e Y2 ⟨rfl, bY⟩
    have hS2 := (bY.block _ (heap_lt hS1)).trans hS1
    have HS2 := Lib.hid (HS1.out.under bY)
    have HE2 := Lib.hid (HE1.out.under (bY.mono HE1.out.le))
    clear bY
    refine hK.out _ _ hS2 (fun hSn => ?_)
    clear hK K hSn; (try simp only [Act.put, sI, sZ, sS])
    clear hS1 HS1 HE1
    refine wpAnyH_ready (rs := [17]) (by kernel_rfl) (by simp) ?_
    refine AllReadyH.cons (o := ⟨some 34, _, _, _, _, _⟩) rfl (fun K hK => ?_) AllReadyH.nil
    rw [if_pos (by rfl)]
    go_simp
    refine (itoa_any f.slots HFB.out.slots.1 HFB.out.slots.2 Y2 HE2.out.env.env.pow).mono ?_
    rintro e Y3 ⟨rfl, bY⟩
    have hS3 := (bY.block _ (heap_lt hS2)).trans hS2
    have HS3 := Lib.hid (HS2.out.under bY)
    have HE3 := Lib.hid (HE2.out.under (bY.mono HE2.out.le))
    clear bY
    refine hK.out _ _ hS3 (fun hSn => ?_)
    clear hK K hSn; (try simp only [Act.put, sI, sZ, sS])
    clear hS2 HS2 HE2
    refine wpAnyH_ready (rs := [18]) (by kernel_rfl) (by simp) ?_
    refine AllReadyH.cons (o := ⟨some 35, _, _, _, _, _⟩) rfl (fun K hK => ?_) AllReadyH.nil
    rw [if_pos (by rfl)]
    go_simp
    have gD := block_alloc Y3 (.cells #[.string ⟨#[102, 110]⟩, .string (f.s ++ ⟨#[58]⟩ ++ f.t ++ ⟨#[47]⟩ ++ numB f.n), .string (numB f.at_), .string (numB f.slots)] 9)
    have bD : Below Y3.heap.size Y3 (Y3.alloc (.cells #[.string ⟨#[102, 110]⟩, .string (f.s ++ ⟨#[58]⟩ ++ f.t ++ ⟨#[47]⟩ ++ numB f.n), .string (numB f.at_), .string (numB f.slots)] 9)) := (Below.refl _ _).alloc (Nat.le_refl _) _
    generalize Y3.alloc (.cells #[.string ⟨#[102, 110]⟩, .string (f.s ++ ⟨#[58]⟩ ++ f.t ++ ⟨#[47]⟩ ++ numB f.n), .string (numB f.at_), .string (numB f.slots)] 9) = Y4 at gD bD ⊢
    have hS4 := (bD.block _ (heap_lt hS3)).trans hS3
    have HS4 := Lib.hid (HS3.out.under bD)
    obtain ⟨rb, hrb⟩ : ∃ rb, rb = Y3.heap.size := ⟨_, rfl⟩
    rw [← hrb] at gD ⊢
    have HGD := Lib.hid gD
    clear hrb gD bD
    refine hK.out _ _ hS4 (fun hSn => ?_)
    clear hK K hSn; (try simp only [Act.put, sI, sZ, sS])
    clear hS3 HS3 HE3
    skip
    refine wpAnyH_ready (rs := [19]) (by kernel_rfl) (by simp) ?_
    refine AllReadyH.cons (o := ⟨some 36, _, _, _, _, _⟩) rfl (fun K hK => ?_) AllReadyH.nil
    rw [if_pos (by rfl)]
    go_simp
    refine (line13_any (WB + 1) WB rb 4 (fnW f) (linesF (x.fns.take j)) Y4 ?_ (heap_lt HGD.out) HS4.out.st (by simp [fnW]) (by simp [fnW]) ?_).mono ?_
    · intro i y hy
      exact row_strs HGD.out hy rfl
    · rw [← List.length_append, ← linesF_take HFJ.out]
      have := linesF_le x.fns (j + 1); have := HLEN.out; omega
    rintro e Y5 ⟨rfl, h5, k5⟩
    rw [← linesF_take HFJ.out] at h5
    have hS5 := k5.block hS4 HFW.out (by decide)
    have HS5 := Lib.hid (WrS.mk h5 (HS4.out.bk.trans k5))
    clear h5 k5
    refine hK.out _ _ hS5 (fun hSn => ?_)
    clear hK K hSn; (try simp only [Act.put, sI, sZ, sS])
    clear hS4 HS4 HGD hs1 hs2 q1 q2 q3
    refine wpAnyH_done (by kernel_rfl) ?_ _
    clear hS5
    go_wp2_with fail
    go_roundw
    case rel => exact ⟨j + 1, by omega, by go_num, HS5⟩
    case measure => simp [RowKit.intOf]; omega
end Go.Proofs.YtdimcddbmccniaaGreatDoor
end
