/- Layer 13: what the laws ask first (written by gen_cd22.py). -/
import Derived.Test.YtdimcddbmccniaaGreatDoorKCd20
section
set_option linter.unusedVariables false
set_option linter.unusedSimpArgs false
namespace Go.Proofs.YtdimcddbmccniaaGreatDoor
open Go.RowKit

def noTm : Tm := .mk 0 0 ⟨#[]⟩ ⟨#[]⟩ []
def oneTm : Tm := .mk 0 1 ⟨#[]⟩ ⟨#[]⟩ []
def constC : Cd := ⟨0, 0, 0, oneTm, noTm, []⟩
def retC : Cd := ⟨11, 0, 0, noTm, noTm, []⟩
def jumpC : Cd := ⟨12, 7, 0, noTm, noTm, []⟩
def shortF : Fn13 := ⟨⟨#[109]⟩, ⟨#[102]⟩, 0, 0, 0⟩
def shortP (c : Cd) : Pg := ⟨[shortF], [constC, c], []⟩
def shortT (c : Cd) : ByteArray := if c.op = 0 then ⟨#[49]⟩ else ⟨#[]⟩
theorem check_ret : checkP (shortP retC) = 0 := by kernel_rfl
theorem check_jump : checkP (shortP jumpC) = 130 := by kernel_rfl
theorem num0 : numB 0 = ⟨#[48]⟩ := by unfold numB Go.Lib.itoa; rw [if_neg (by decide), Go.Lib.decDigits_one (by decide)]; rfl
theorem num1 : numB 1 = ⟨#[49]⟩ := by unfold numB Go.Lib.itoa; rw [if_neg (by decide), Go.Lib.decDigits_one (by decide)]; rfl
theorem num11 : numB 11 = ⟨#[49, 49]⟩ := by unfold numB Go.Lib.itoa; rw [if_neg (by decide), Go.Lib.decDigits_two (by decide) (by decide)]; rfl
def shortL : List UInt8 := [102, 110, 32, 109, 58, 102, 47, 48, 32, 48, 32, 48, 10, 48, 32, 48, 32, 48, 32, 48, 32, 49, 10, 49, 32, 49, 49, 32, 48, 32, 48, 32, 10]
theorem short_lines : linesF (shortP retC).fns ++ linesO shortT (shortP retC).ops = shortL := by
  have h1 : fnW shortF = [⟨#[102, 110]⟩, ⟨#[109]⟩ ++ ⟨#[58]⟩ ++ ⟨#[102]⟩ ++ ⟨#[47]⟩ ++ ⟨#[48]⟩, ⟨#[48]⟩, ⟨#[48]⟩] := by
    show [⟨#[102, 110]⟩, ⟨#[109]⟩ ++ ⟨#[58]⟩ ++ ⟨#[102]⟩ ++ ⟨#[47]⟩ ++ numB 0, numB 0, numB 0] = _
    rw [num0]
  have h2 : opW shortT 0 constC = [⟨#[48]⟩, ⟨#[48]⟩, ⟨#[48]⟩, ⟨#[48]⟩, ⟨#[49]⟩] := by
    show [numB 0, numB 0, numB 0, numB 0, _] = _
    rw [num0]; rfl
  have h3 : opW shortT 1 retC = [⟨#[49]⟩, ⟨#[49, 49]⟩, ⟨#[48]⟩, ⟨#[48]⟩, ⟨#[]⟩] := by
    show [numB 1, numB 11, numB 0, numB 0, _] = _
    rw [num0, num1, num11]; rfl
  have e1 : linesF (shortP retC).fns = lineL (fnW shortF) := by show lineL (fnW shortF) ++ [] = _; simp
  have e2 : linesO shortT (shortP retC).ops = lineL (opW shortT 0 constC) ++ lineL (opW shortT 1 retC) := by show lineL (opW shortT 0 constC) ++ (lineL (opW shortT 1 retC) ++ []) = _; simp
  rw [e1, e2, h1, h2, h3]
  show (_ : List UInt8) = _
  kernel_rfl
theorem text_one : textN oneTm = [49] := by
  unfold textN
  rw [if_pos (by kernel_rfl)]
  show Go.Lib.itoa 1 = _
  unfold Go.Lib.itoa; rw [if_neg (by decide), Go.Lib.decDigits_one (by decide)]; rfl
set_option maxHeartbeats 4000000 in
set_option maxRecDepth 100000 in
theorem told_ret (v : Value) (W : World) (P : Nat → Prop) (hC : CdAt (· < W.heap.size) W retC v) (hE : Env13 W) :
    Calls Tryz.prog 110 #[v] W fun e w' => e = .returned (.string (shortT retC)) ∧ Below W.heap.size W w' := by
  obtain ⟨TA, tcap, PA, pcap, LA, lcap, rfl, hTm, -⟩ := CdAt.parts (op := 11) (a := 0) (b := 0) (tk := 0) (tn := 0) (ts := ⟨#[]⟩) (tt := ⟨#[]⟩) (tl := []) (pk := 0) (pn := 0) (ps := ⟨#[]⟩) (pt := ⟨#[]⟩) (pl := []) (l := []) hC
  obtain ⟨W1, hW1⟩ : ∃ W1, W1 = W.alloc (.cells #[.int .i8 11, .int .i64 0, .int .i64 0, .int .i8 0, .int .i64 0, .string ⟨#[]⟩, .string ⟨#[]⟩, .slice TA 0 tcap, .int .i8 0, .int .i64 0, .string ⟨#[]⟩, .string ⟨#[]⟩, .slice PA 0 pcap, .slice LA 0 lcap] 50) := ⟨_, rfl⟩
  have b1 : Below W.heap.size W W1 := by rw [hW1]; exact (Below.refl _ W).alloc (Nat.le_refl _) _
  have g1 : W1.heap[W.heap.size]? = some (.cells #[.int .i8 11, .int .i64 0, .int .i64 0, .int .i8 0, .int .i64 0, .string ⟨#[]⟩, .string ⟨#[]⟩, .slice TA 0 tcap, .int .i8 0, .int .i64 0, .string ⟨#[]⟩, .string ⟨#[]⟩, .slice PA 0 pcap, .slice LA 0 lcap] 50 (0, 0)) := by rw [hW1]; exact block_alloc _ _
  obtain ⟨f0, f1, f2, f3, f4, f5, f6, f7, f8, f9, f10, f11, f12, f13⟩ := c14 g1
  obtain ⟨ft, fz, hft⟩ := (hE.under b1).fld
  have q0 : W1.cell? ⟨1, 11, none⟩ = some (.int .u8 0) := cell_of_row (i := 11) hft rfl
  have HT := Lib.hid (Text_any oneTm (.agg #[.int .i8 0, .int .i64 1, .string ⟨#[]⟩, .string ⟨#[]⟩, .slice TA 0 tcap]) W1)
  have HB1 := Lib.hid b1
  have HE1 := Lib.hid (hE.under b1)
  have HTM := Lib.hid hTm
  clear hE g1 hft hTm hC
  go_enter Tryz.func110, Tryz.ntmps110
  go_upto_region 1 with fail
  rw [← hW1]
  clear hW1
  go_wp2_with fail
  go_ret
  exact ⟨rfl, HB1.out⟩
set_option maxHeartbeats 4000000 in
set_option maxRecDepth 100000 in
theorem told_one (v : Value) (W : World) (P : Nat → Prop) (hC : CdAt (· < W.heap.size) W constC v) (hE : Env13 W) :
    Calls Tryz.prog 110 #[v] W fun e w' => e = .returned (.string (shortT constC)) ∧ Below W.heap.size W w' := by
  obtain ⟨TA, tcap, PA, pcap, LA, lcap, rfl, hTm, -⟩ := CdAt.parts (op := 0) (a := 0) (b := 0) (tk := 0) (tn := 1) (ts := ⟨#[]⟩) (tt := ⟨#[]⟩) (tl := []) (pk := 0) (pn := 0) (ps := ⟨#[]⟩) (pt := ⟨#[]⟩) (pl := []) (l := []) hC
  obtain ⟨W1, hW1⟩ : ∃ W1, W1 = W.alloc (.cells #[.int .i8 0, .int .i64 0, .int .i64 0, .int .i8 0, .int .i64 1, .string ⟨#[]⟩, .string ⟨#[]⟩, .slice TA 0 tcap, .int .i8 0, .int .i64 0, .string ⟨#[]⟩, .string ⟨#[]⟩, .slice PA 0 pcap, .slice LA 0 lcap] 50) := ⟨_, rfl⟩
  have b1 : Below W.heap.size W W1 := by rw [hW1]; exact (Below.refl _ W).alloc (Nat.le_refl _) _
  have g1 : W1.heap[W.heap.size]? = some (.cells #[.int .i8 0, .int .i64 0, .int .i64 0, .int .i8 0, .int .i64 1, .string ⟨#[]⟩, .string ⟨#[]⟩, .slice TA 0 tcap, .int .i8 0, .int .i64 0, .string ⟨#[]⟩, .string ⟨#[]⟩, .slice PA 0 pcap, .slice LA 0 lcap] 50 (0, 0)) := by rw [hW1]; exact block_alloc _ _
  obtain ⟨f0, f1, f2, f3, f4, f5, f6, f7, f8, f9, f10, f11, f12, f13⟩ := c14 g1
  obtain ⟨ft, fz, hft⟩ := (hE.under b1).fld
  have q0 : W1.cell? ⟨1, 0, none⟩ = some (.int .u8 4) := cell_of_row (i := 0) hft rfl
  have HT := Lib.hid (Text_any oneTm (.agg #[.int .i8 0, .int .i64 1, .string ⟨#[]⟩, .string ⟨#[]⟩, .slice TA 0 tcap]) W1)
  have HB1 := Lib.hid b1
  have HE1 := Lib.hid (hE.under b1)
  have HTM := Lib.hid hTm
  clear hE g1 hft hTm hC
  go_enter Tryz.func110, Tryz.ntmps110
  go_upto_region 1 with fail
  rw [← hW1]
  clear hW1
  go_wp2_with fail
  have HC := HT.out (HTM.out.laterN HB1.out) HE1.out.env.spans (pow7_tab HE1.out.env.pow)
  rw [text_one] at HC
  refine HC.mono ?_
  rintro e Y ⟨rfl, bY⟩
  have HBY := Lib.hid bY
  clear bY HC
  go_wp2_with fail
  go_ret
  exact ⟨rfl, HB1.out.trans (HBY.out.mono HB1.out.size)⟩
set_option maxHeartbeats 4000000 in
set_option maxRecDepth 100000 in
theorem text13_any (x : Pg) (A : Option Addr) (ca : Nat) (B : Option Addr) (cb : Nat) (C : Option Addr) (cc : Nat) (W : World) (hX : PgAt (· < W.heap.size) W x A ca B cb C cc) (hB : PgB x) (hE : Env13 W) (told0 : Cd → ByteArray)
    (hT : ∀ c v V, c ∈ x.ops → Env13 V → CdAt (· < V.heap.size) V c v → Calls Tryz.prog 110 #[v] V fun e w' => e = .returned (.string (told0 c)) ∧ Below V.heap.size V w')
    (hFS : ∀ f ∈ x.fns, f.s.size ≤ 1000 ∧ f.t.size ≤ 1000) (hlen : (linesF x.fns).length + (linesO told0 x.ops).length ≤ 900000) (hne : linesF x.fns ++ linesO told0 x.ops ≠ []) (hc : checkP x = 0) :
    Calls Tryz.prog 44 #[.agg #[.slice A x.fns.length ca, .slice B x.ops.length cb, .slice C x.tab.length cc]] W fun e w' => e = .returned (.string ⟨(linesF x.fns ++ linesO told0 x.ops).toArray⟩) ∧ Below W.heap.size W w' := by
  obtain ⟨W1, hW1⟩ : ∃ W1, W1 = W.alloc (.cells #[.slice A x.fns.length ca, .slice B x.ops.length cb, .slice C x.tab.length cc] 45) := ⟨_, rfl⟩
  have b1 : Below W.heap.size W W1 := by rw [hW1]; exact (Below.refl _ W).alloc (Nat.le_refl _) _
  have g1 : W1.heap[W.heap.size]? = some (.cells #[.slice A x.fns.length ca, .slice B x.ops.length cb, .slice C x.tab.length cc] 45 (0, 0)) := by rw [hW1]; exact block_alloc _ _
  obtain ⟨p0, p1, p2⟩ := c3 g1
  have HC1 := Lib.hid (Check13_any x A ca B cb C cc W1 (hX.later b1) hB (hE.under b1))
  rw [hc] at HC1
  have HC2 : Hid (∀ Y, Below W1.heap.size W1 Y → Calls Tryz.prog 72 #[.agg #[.slice A x.fns.length ca, .slice B x.ops.length cb, .slice C x.tab.length cc]] Y fun e w' => e = .returned (.string ⟨(linesF x.fns ++ linesO told0 x.ops).toArray⟩) ∧ Below Y.heap.size Y w') := Lib.hid (fun Y bY =>
    written13_any x A ca B cb C cc Y (hX.later (b1.trans (bY.mono b1.size))) (hE.under (b1.trans (bY.mono b1.size))) told0 (fun c v V hm hb hC => hT c v V hm ((hE.under (b1.trans (bY.mono b1.size))).under hb) (hC.mono (fun q hq => Nat.lt_of_lt_of_le hq hb.size))) hFS hlen hne)
  have HB1 := Lib.hid b1
  have HG1 := Lib.hid g1
  obtain ⟨R, hR⟩ : ∃ R : ByteArray, R = ⟨(linesF x.fns ++ linesO told0 x.ops).toArray⟩ := ⟨_, rfl⟩
  rw [← hR] at HC2 ⊢
  clear hX hB hE b1 g1 hT hFS hlen hne hc hR
  go_enter Tryz.func44, Tryz.ntmps44
  go_upto_region 1 with fail
  rw [← hW1]
  clear hW1
  go_wp2_with fail
  refine HC1.out.mono ?_
  rintro e Y ⟨rfl, bY⟩
  have gY := (bY.block _ (heap_lt HG1.out)).trans HG1.out
  have HBY := Lib.hid bY
  clear bY p0 p1 p2
  obtain ⟨p0, p1, p2⟩ := c3 gY
  clear gY
  go_wp2_with fail
  refine (HC2.out Y HBY.out).mono ?_
  rintro e Z ⟨rfl, bZ⟩
  have HBZ := Lib.hid bZ
  clear bZ p0 p1 p2
  go_wp2_with fail
  go_ret
  exact ⟨rfl, HB1.out.trans ((HBY.out.trans (HBZ.out.mono HBY.out.size)).mono HB1.out.size)⟩
end Go.Proofs.YtdimcddbmccniaaGreatDoor
end
section
set_option linter.unusedVariables false
set_option linter.unusedSimpArgs false
namespace Go.Proofs.YtdimcddbmccniaaGreatDoor
open Go.RowKit

theorem ad_at (b k : Nat) : (⟨b, 0, none⟩ : Addr).add k = ⟨b, k, none⟩ := by unfold Addr.add; split <;> simp_all
theorem tm_leaf (P : Nat → Prop) (w : World) (n : Int) (hn : -9223372036854775808 ≤ n ∧ n ≤ 9223372036854775807) : TmAt P w (.mk 0 n ⟨#[]⟩ ⟨#[]⟩ []) (.agg #[.int .i8 0, .int .i64 n, .string ⟨#[]⟩, .string ⟨#[]⟩, .slice none 0 0]) :=
  TmAt.of_row (l := []) (TRow.nil _ _ _ _) (by decide) hn (Nat.zero_le _) (Nat.zero_le _)
theorem cd_leaf (P : Nat → Prop) (w : World) (op a n : Int) (hop : -128 ≤ op ∧ op ≤ 127) (ha : -9223372036854775808 ≤ a ∧ a ≤ 9223372036854775807) (hn : -9223372036854775808 ≤ n ∧ n ≤ 9223372036854775807) : CdAt P w ⟨op, a, 0, .mk 0 n ⟨#[]⟩ ⟨#[]⟩ [], noTm, []⟩ (.agg #[.int .i8 op, .int .i64 a, .int .i64 0, .int .i8 0, .int .i64 n, .string ⟨#[]⟩, .string ⟨#[]⟩, .slice none 0 0, .int .i8 0, .int .i64 0, .string ⟨#[]⟩, .string ⟨#[]⟩, .slice none 0 0, .slice none 0 0]) :=
  CdAt.mk (l := []) hop ha (by decide) (tm_leaf P w n hn) (tm_leaf P w 0 (by decide)) (TRow.nil _ _ _ _)
theorem short_at (W V : World) (f g : Nat) (op a : Int) (hop : -128 ≤ op ∧ op ≤ 127) (ha : -9223372036854775808 ≤ a ∧ a ≤ 9223372036854775807) (hf : V.heap[f]? = some (.cells #[.string ⟨#[109]⟩, .string ⟨#[102]⟩, .int .i64 0, .int .i64 0, .int .i64 0] 77 (0, 0))) (hg : V.heap[g]? = some (.cells #[.int .i8 0, .int .i64 0, .int .i64 0, .int .i8 0, .int .i64 1, .string ⟨#[]⟩, .string ⟨#[]⟩, .slice none 0 0, .int .i8 0, .int .i64 0, .string ⟨#[]⟩, .string ⟨#[]⟩, .slice none 0 0, .slice none 0 0, .int .i8 op, .int .i64 a, .int .i64 0, .int .i8 0, .int .i64 0, .string ⟨#[]⟩, .string ⟨#[]⟩, .slice none 0 0, .int .i8 0, .int .i64 0, .string ⟨#[]⟩, .string ⟨#[]⟩, .slice none 0 0, .slice none 0 0] 50 (0, 0))) :
    PgAt (· < V.heap.size) V (shortP ⟨op, a, 0, noTm, noTm, []⟩) (some ⟨f, 0, none⟩) 1 (some ⟨g, 0, none⟩) 2 none 0 := by
  refine ⟨⟨rfl, (by decide : 1 ≤ maxLen), Nat.le_refl _, ?_⟩, ⟨rfl, (by decide : 2 ≤ maxLen), Nat.le_refl _, ?_⟩, NsRow.nil _ _ _ _⟩
  · intro j x hj
    match j, hj with
    | 0, hj =>
      cases hj
      refine ⟨_, rfl, heap_lt hf, ⟨_, _, _, _, _, rfl, ?_, ?_, ?_, ?_, ?_⟩, ⟨by decide, by decide, by decide, by decide, by decide⟩⟩
      · rw [ad_at]; exact cell_of_row (i := 0) hf rfl
      · rw [ad_at]; exact cell_of_row (i := 1) hf rfl
      · rw [ad_at]; exact cell_of_row (i := 2) hf rfl
      · rw [ad_at]; exact cell_of_row (i := 3) hf rfl
      · rw [ad_at]; exact cell_of_row (i := 4) hf rfl
    | j + 1, hj => simp [shortP] at hj
  · intro j x hj
    match j, hj with
    | 0, hj =>
      cases hj
      refine ⟨_, _, rfl, heap_lt hg, ⟨_, _, _, _, _, _, _, _, _, _, _, _, _, _, rfl, ?_, ?_, ?_, ?_, ?_, ?_, ?_, ?_, ?_, ?_, ?_, ?_, ?_, ?_⟩, cd_leaf _ _ 0 0 1 (by decide) (by decide) (by decide)⟩
      · rw [ad_at]; exact cell_of_row (i := 0) hg rfl
      · rw [ad_at]; exact cell_of_row (i := 1) hg rfl
      · rw [ad_at]; exact cell_of_row (i := 2) hg rfl
      · rw [ad_at]; exact cell_of_row (i := 3) hg rfl
      · rw [ad_at]; exact cell_of_row (i := 4) hg rfl
      · rw [ad_at]; exact cell_of_row (i := 5) hg rfl
      · rw [ad_at]; exact cell_of_row (i := 6) hg rfl
      · rw [ad_at]; exact cell_of_row (i := 7) hg rfl
      · rw [ad_at]; exact cell_of_row (i := 8) hg rfl
      · rw [ad_at]; exact cell_of_row (i := 9) hg rfl
      · rw [ad_at]; exact cell_of_row (i := 10) hg rfl
      · rw [ad_at]; exact cell_of_row (i := 11) hg rfl
      · rw [ad_at]; exact cell_of_row (i := 12) hg rfl
      · rw [ad_at]; exact cell_of_row (i := 13) hg rfl
    | 1, hj =>
      cases hj
      refine ⟨_, _, rfl, heap_lt hg, ⟨_, _, _, _, _, _, _, _, _, _, _, _, _, _, rfl, ?_, ?_, ?_, ?_, ?_, ?_, ?_, ?_, ?_, ?_, ?_, ?_, ?_, ?_⟩, cd_leaf _ _ op a 0 hop ha (by decide)⟩
      · rw [ad_at]; exact cell_of_row (i := 14) hg rfl
      · rw [ad_at]; exact cell_of_row (i := 15) hg rfl
      · rw [ad_at]; exact cell_of_row (i := 16) hg rfl
      · rw [ad_at]; exact cell_of_row (i := 17) hg rfl
      · rw [ad_at]; exact cell_of_row (i := 18) hg rfl
      · rw [ad_at]; exact cell_of_row (i := 19) hg rfl
      · rw [ad_at]; exact cell_of_row (i := 20) hg rfl
      · rw [ad_at]; exact cell_of_row (i := 21) hg rfl
      · rw [ad_at]; exact cell_of_row (i := 22) hg rfl
      · rw [ad_at]; exact cell_of_row (i := 23) hg rfl
      · rw [ad_at]; exact cell_of_row (i := 24) hg rfl
      · rw [ad_at]; exact cell_of_row (i := 25) hg rfl
      · rw [ad_at]; exact cell_of_row (i := 26) hg rfl
      · rw [ad_at]; exact cell_of_row (i := 27) hg rfl
    | j + 2, hj => simp [shortP] at hj
set_option maxHeartbeats 8000000 in
set_option maxRecDepth 100000 in
theorem short_any (W : World) (op a : Int) (hop : -128 ≤ op ∧ op ≤ 127) (ha : -9223372036854775808 ≤ a ∧ a ≤ 9223372036854775807) :
    Calls Tryz.prog 43 #[.agg #[.int .i8 op, .int .i64 a, .int .i64 0, .int .i8 0, .int .i64 0, .string ⟨#[]⟩, .string ⟨#[]⟩, .slice none 0 0, .int .i8 0, .int .i64 0, .string ⟨#[]⟩, .string ⟨#[]⟩, .slice none 0 0, .slice none 0 0]] W fun e w' => ∃ f g, e = .returned (.agg #[.slice (some ⟨f, 0, none⟩) 1 1, .slice (some ⟨g, 0, none⟩) 2 2, .slice none 0 0]) ∧ PgAt (· < w'.heap.size) w' (shortP ⟨op, a, 0, noTm, noTm, []⟩) (some ⟨f, 0, none⟩) 1 (some ⟨g, 0, none⟩) 2 none 0 ∧ Below W.heap.size W w' := by
  obtain ⟨W1, hW1⟩ : ∃ W1, W1 = (W.alloc (.cells #[.int .i8 op, .int .i64 a, .int .i64 0, .int .i8 0, .int .i64 0, .string ⟨#[]⟩, .string ⟨#[]⟩, .slice none 0 0, .int .i8 0, .int .i64 0, .string ⟨#[]⟩, .string ⟨#[]⟩, .slice none 0 0, .slice none 0 0] 50)).alloc (.cells #[.slice none 0 0, .slice none 0 0, .slice none 0 0] 45) := ⟨_, rfl⟩
  obtain ⟨g0, g1, b1, z1⟩ := two13 W _ _ W1 hW1
  obtain ⟨W2, hW2⟩ : ∃ W2, W2 = W1.alloc (.cells #[.string ⟨#[109]⟩, .string ⟨#[102]⟩, .int .i64 0, .int .i64 0, .int .i64 0] 77) := ⟨_, rfl⟩
  obtain ⟨W3, hW3⟩ : ∃ W3, W3 = W2.alloc (.cells #[.int .i8 0, .int .i64 0, .int .i64 0, .int .i8 0, .int .i64 1, .string ⟨#[]⟩, .string ⟨#[]⟩, .slice none 0 0, .int .i8 0, .int .i64 0, .string ⟨#[]⟩, .string ⟨#[]⟩, .slice none 0 0, .slice none 0 0, .int .i8 op, .int .i64 a, .int .i64 0, .int .i8 0, .int .i64 0, .string ⟨#[]⟩, .string ⟨#[]⟩, .slice none 0 0, .int .i8 0, .int .i64 0, .string ⟨#[]⟩, .string ⟨#[]⟩, .slice none 0 0, .slice none 0 0] 50) := ⟨_, rfl⟩
  have b2 : Below W1.heap.size W1 W2 := by rw [hW2]; exact (Below.refl _ _).alloc (Nat.le_refl _) _
  have g2 : W2.heap[W1.heap.size]? = some (.cells #[.string ⟨#[109]⟩, .string ⟨#[102]⟩, .int .i64 0, .int .i64 0, .int .i64 0] 77 (0, 0)) := by rw [hW2]; exact block_alloc _ _
  have z2 : W2.heap.size = W1.heap.size + 1 := by rw [hW2, World.size_alloc]
  have b3 : Below W2.heap.size W2 W3 := by rw [hW3]; exact (Below.refl _ _).alloc (Nat.le_refl _) _
  have g3 : W3.heap[W2.heap.size]? = some (.cells #[.int .i8 0, .int .i64 0, .int .i64 0, .int .i8 0, .int .i64 1, .string ⟨#[]⟩, .string ⟨#[]⟩, .slice none 0 0, .int .i8 0, .int .i64 0, .string ⟨#[]⟩, .string ⟨#[]⟩, .slice none 0 0, .slice none 0 0, .int .i8 op, .int .i64 a, .int .i64 0, .int .i8 0, .int .i64 0, .string ⟨#[]⟩, .string ⟨#[]⟩, .slice none 0 0, .int .i8 0, .int .i64 0, .string ⟨#[]⟩, .string ⟨#[]⟩, .slice none 0 0, .slice none 0 0] 50 (0, 0)) := by rw [hW3]; exact block_alloc _ _
  have h0 := (b2.block _ (heap_lt g0)).trans g0
  have h1 := (b3.block _ (heap_lt ((b2.block _ (heap_lt g1)).trans g1))).trans ((b2.block _ (heap_lt g1)).trans g1)
  have h2 := (b3.block _ (heap_lt g2)).trans g2
  obtain ⟨x0, x1, x2, x3, x4, x5, x6, x7, x8, x9, x10, x11, x12, x13⟩ := c14 h0
  have HZ := Lib.hid h1
  have HG2 := Lib.hid h2
  have HG3 := Lib.hid g3
  have HB := Lib.hid (b1.trans ((b2.trans (b3.mono b2.size)).mono b1.size))
  have HS := Lib.hid (And.intro z1 z2)
  have HO := Lib.hid (And.intro hop ha)
  clear g0 g1 b1 g2 b2 b3 g3 h0 h1 h2 hop ha z1 z2
  go_enter Tryz.func43, Tryz.ntmps43
  go_upto_region 1 with fail
  rw [← hW1]
  clear hW1
  rw [hW2] at x0 x1 x2 x3 x4 x5 x6 x7 x8 x9 x10 x11 x12 x13
  go_wp2_with (rw [← hW2, ← hW3]; clear hW3; refine wpList_store_row rfl _ _ _ rfl (W.heap.size + 1) #[.slice (some ⟨W1.heap.size, 0, none⟩) 1 1, .slice (some ⟨W1.heap.size + 1, 0, none⟩) 2 2, .slice none 0 0] rfl (by kernel_rfl) 45 _ HZ.out (by kernel_rfl) rfl (by kernel_rfl) ?_)
  refine bodyPost_ret (v := .agg #[.slice (some ⟨W1.heap.size, 0, none⟩) 1 1, .slice (some ⟨W1.heap.size + 1, 0, none⟩) 2 2, .slice none 0 0]) ?_ rfl ?_
  · exact results_cell_row rfl _ _ (W.heap.size + 1) 45 #[.slice (some ⟨W1.heap.size, 0, none⟩) 1 1, .slice (some ⟨W1.heap.size + 1, 0, none⟩) 2 2, .slice none 0 0] (0, 0) _ rfl (setRow_heap _ _ _ _ _ _ HZ.out) Tryz.underlying45 rfl (by kernel_rfl)
  have z1 := HS.out.1
  have z2 := HS.out.2
  have hg2 := (setRow_other W3 (W.heap.size + 1) W1.heap.size #[.slice (some ⟨W1.heap.size, 0, none⟩) 1 1, .slice (some ⟨W1.heap.size + 1, 0, none⟩) 2 2, .slice none 0 0] (by omega)).trans HG2.out
  have hg3 := (setRow_other W3 (W.heap.size + 1) W2.heap.size #[.slice (some ⟨W1.heap.size, 0, none⟩) 1 1, .slice (some ⟨W1.heap.size + 1, 0, none⟩) 2 2, .slice none 0 0] (by omega)).trans HG3.out
  rw [z2] at hg3
  refine ⟨W1.heap.size, W1.heap.size + 1, rfl, short_at W _ _ _ op a HO.out.1 HO.out.2 hg2 hg3, ?_⟩
  have hbb := HB.out
  exact ⟨hbb.os, hbb.tape, hbb.output, by simp only [World.setRow, Array.size_modify]; exact hbb.size, fun k hk => (setRow_other _ _ _ _ (by omega)).trans (hbb.block k hk)⟩
theorem pgB_short (op a : Int) : PgB (shortP ⟨op, a, 0, noTm, noTm, []⟩) := by
  refine ⟨fun c hc => ?_, by show (0 : Nat) ≤ _; decide⟩
  simp only [shortP, List.mem_cons, List.not_mem_nil, or_false] at hc
  rcases hc with rfl | rfl
  · exact ⟨by show Tm.nodes noTm ≤ _; decide +kernel, fun y hy => (by cases hy), (by show (0 : Nat) ≤ _; decide)⟩
  · exact ⟨by show Tm.nodes noTm ≤ _; decide +kernel, fun y hy => (by cases hy), (by show (0 : Nat) ≤ _; decide)⟩
theorem name7 : nameV 7 = ⟨#[86, 55]⟩ := by
  unfold nameV Go.Lib.itoa; rw [if_neg (by decide), if_neg (by decide), Go.Lib.decDigits_one (by decide)]; rfl
theorem shortTold (x : Pg) (hx : x = shortP retC) (c : Cd) (v : Value) (V : World) (hm : c ∈ x.ops) (hE : Env13 V) (hC : CdAt (· < V.heap.size) V c v) : Calls Tryz.prog 110 #[v] V fun e w' => e = .returned (.string (shortT c)) ∧ Below V.heap.size V w' := by
  subst hx
  simp only [shortP, List.mem_cons, List.not_mem_nil, or_false] at hm
  rcases hm with rfl | rfl
  · exact told_one v V (fun _ => True) hC hE
  · exact told_ret v V (fun _ => True) hC hE
set_option maxHeartbeats 8000000 in
set_option maxRecDepth 100000 in
theorem wakes13_any (W : World) (hE : Env13 W) : Calls Tryz.prog 22 #[] W fun e w' => e = .returned (.bool true) ∧ Below W.heap.size W w' := by
  have HE := Lib.hid hE
  clear hE
  have HS : Hid (∀ V op a, (-128 ≤ op ∧ op ≤ 127) → (-9223372036854775808 ≤ a ∧ a ≤ 9223372036854775807) → Calls Tryz.prog 43 #[.agg #[.int .i8 op, .int .i64 a, .int .i64 0, .int .i8 0, .int .i64 0, .string ⟨#[]⟩, .string ⟨#[]⟩, .slice none 0 0, .int .i8 0, .int .i64 0, .string ⟨#[]⟩, .string ⟨#[]⟩, .slice none 0 0, .slice none 0 0]] V fun e w' => ∃ f g, e = .returned (.agg #[.slice (some ⟨f, 0, none⟩) 1 1, .slice (some ⟨g, 0, none⟩) 2 2, .slice none 0 0]) ∧ PgAt (· < w'.heap.size) w' (shortP ⟨op, a, 0, noTm, noTm, []⟩) (some ⟨f, 0, none⟩) 1 (some ⟨g, 0, none⟩) 2 none 0 ∧ Below V.heap.size V w') := Lib.hid (fun V op a h1 h2 => short_any V op a h1 h2)
  have HT : Hid (ByteArray.mk shortL.toArray = ⟨#[102, 110, 32, 109, 58, 102, 47, 48, 32, 48, 32, 48, 10, 48, 32, 48, 32, 48, 32, 48, 32, 49, 10, 49, 32, 49, 49, 32, 48, 32, 48, 32, 10]⟩) := Lib.hid rfl
  go_enter Tryz.func22, Tryz.ntmps22
  go_wp2_with fail
  refine (HS.out W 11 0 (by decide) (by decide)).mono ?_
  rintro e W1 ⟨f1, g1, rfl, p1, b1⟩
  have HB1 := Lib.hid b1
  have HP1 := Lib.hid p1
  clear b1 p1
  go_wp2_with fail
  refine (Check13_any (shortP retC) _ 1 _ 2 _ 0 W1 HP1.out (pgB_short 11 0) (HE.out.under HB1.out)).mono ?_
  rw [check_ret]
  rintro e W2 ⟨rfl, b2⟩
  have HB2 := Lib.hid (HB1.out.trans (b2.mono HB1.out.size))
  clear b2
  go_wp2_with fail
  refine (HS.out W2 12 7 (by decide) (by decide)).mono ?_
  rintro e W3 ⟨f3, g3, rfl, p3, b3⟩
  have HB3 := Lib.hid (HB2.out.trans (b3.mono HB2.out.size))
  have HP3 := Lib.hid p3
  clear b3 p3
  go_wp2_with fail
  refine (Check13_any (shortP jumpC) _ 1 _ 2 _ 0 W3 HP3.out (pgB_short 12 7) (HE.out.under HB3.out)).mono ?_
  rw [check_jump]
  rintro e W4 ⟨rfl, b4⟩
  have HB4 := Lib.hid (HB3.out.trans (b4.mono HB3.out.size))
  clear b4
  go_wp2_with fail
  refine (HS.out W4 11 0 (by decide) (by decide)).mono ?_
  rintro e W5 ⟨f5, g5, rfl, p5, b5⟩
  have HB5 := Lib.hid (HB4.out.trans (b5.mono HB4.out.size))
  have HP5 := Lib.hid p5
  clear b5 p5
  go_wp2_with fail
  refine (text13_any (shortP retC) _ 1 _ 2 _ 0 W5 HP5.out (pgB_short 11 0) (HE.out.under HB5.out) shortT (fun c v V hm hE hC => shortTold _ rfl c v V hm hE hC) (fun f hf => ?_) ?_ ?_ check_ret).mono ?_
  · simp only [shortP, List.mem_cons, List.not_mem_nil, or_false] at hf
    subst hf
    decide
  · have h9 := congrArg List.length short_lines
    rw [List.length_append] at h9
    rw [h9]
    decide
  · rw [short_lines]; decide
  rw [short_lines, HT.out]
  rintro e W6 ⟨rfl, b6⟩
  have HB6 := Lib.hid (HB5.out.trans (b6.mono HB5.out.size))
  clear b6
  go_wp2_with fail
  refine (name13_any 7 W6 (by decide) (by decide) (HE.out.under HB6.out).env.pow).mono ?_
  rw [name7]
  rintro e W7 ⟨rfl, b7⟩
  have HB7 := Lib.hid (HB6.out.trans (b7.mono HB6.out.size))
  clear b7
  go_wp2_with fail
  go_ret
  exact ⟨rfl, HB7.out⟩
end Go.Proofs.YtdimcddbmccniaaGreatDoor
end
