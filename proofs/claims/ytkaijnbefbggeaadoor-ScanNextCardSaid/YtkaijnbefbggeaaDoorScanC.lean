/- Layer 6: what Scan, Next and Blank are to answer, as contracts; what the document says of two texts (wakes), from Scan's. -/
import Derived.Test.YtkaijnbefbggeaaDoorScanQ
import Derived.Test.YtkaijnbefbggeaaDoorMod
import Derived.LoopTactic
import Derived.LoopNIn
set_option linter.unusedVariables false
namespace Go.Proofs.YtkaijnbefbggeaaDoor
open Go.RowKit

def PT.tk (t : PT) : Tk := ⟨t.k, t.n, ⟨t.s.toArray⟩, t.a⟩
/-- What Scan answers. -/
def scanV (s : ByteArray) : List Tk × Int × Int :=
  if 8192 < s.size then ([], 3, 0) else
  match (scanL s.size 0 s.data.toList).2 with
  | none => ((scanL s.size 0 s.data.toList).1.map PT.tk, 0, 0)
  | some (e, a) => ([], e, a)
def RowT (V : World) (ad : Addr) (j : Nat) (t : Tk) : Prop :=
  V.cell? (ad.add (j * 4)) = some (.int .i8 t.k) ∧ V.cell? ⟨(ad.add (j * 4)).block, (ad.add (j * 4)).off + 1, none⟩ = some (.int .i64 t.n) ∧ V.cell? ⟨(ad.add (j * 4)).block, (ad.add (j * 4)).off + 2, none⟩ = some (.string t.s) ∧ V.cell? ⟨(ad.add (j * 4)).block, (ad.add (j * 4)).off + 3, none⟩ = some (.int .i64 t.a)
theorem RowT.keep {V V' : World} {ad : Addr} {j : Nat} {t : Tk} (h : RowT V ad j t) (hb : V'.heap[ad.block]? = V.heap[ad.block]?) : RowT V' ad j t := by
  have hbb : (ad.add (j * 4)).block = ad.block := add_block _ _
  have k0 : V'.cell? (ad.add (j * 4)) = V.cell? (ad.add (j * 4)) := World.cell?_of_block (w := V) (a := ad.add (j * 4)) (by rw [hbb]; exact hb)
  have k : ∀ o, V'.cell? ⟨(ad.add (j * 4)).block, o, none⟩ = V.cell? ⟨(ad.add (j * 4)).block, o, none⟩ := fun o => World.cell?_of_block (w := V) (by show V'.heap[(ad.add (j * 4)).block]? = V.heap[(ad.add (j * 4)).block]?; rw [hbb]; exact hb)
  obtain ⟨h0, h1, h2, h3⟩ := h
  exact ⟨k0.trans h0, (k _).trans h1, (k _).trans h2, (k _).trans h3⟩
/-- Tokens in a row, in blocks below B. -/
def TkRow (B : Nat) (V : World) (A : Option Addr) (L : List Tk) : Prop := ∀ (j : Nat) (t : Tk), L[j]? = some t → ∃ ad, A = some ad ∧ ad.block < B ∧ RowT V ad j t
theorem TkRow.later {V V' : World} {A : Option Addr} {L : List Tk} (h : TkRow V.heap.size V A L) (b : Below V.heap.size V V') : TkRow V'.heap.size V' A L := fun j t hj => by
  obtain ⟨ad, e, hl, hr⟩ := h j t hj
  exact ⟨ad, e, Nat.lt_of_lt_of_le hl b.size, hr.keep (b.block _ hl)⟩
def ScanP (s : ByteArray) (w : World) (e : Ending) (w' : World) : Prop :=
  ∃ A cap, e = .returned (.tuple #[.slice A (scanV s).1.length cap, .agg #[.int .i64 (scanV s).2.1, .int .i64 (scanV s).2.2]]) ∧ TkRow w'.heap.size w' A (scanV s).1 ∧ Below w.heap.size w w'
/-- Scan's contract; E: what it needs of the memory. -/
def ScanC (E : World → Prop) : Prop := ∀ (s : ByteArray) (w : World), s.size ≤ 1000000 → E w → Calls Tryd.prog 11 #[.string s] w (ScanP s w)
def NextC (E : World → Prop) : Prop := ∀ (s : ByteArray) (a : Int) (w : World), s.size ≤ 1000000 → E w → Calls Tryd.prog 7 #[.string s, .int .i64 a] w fun r w' => r = .returned (nextR s a).v ∧ Below w.heap.size w w'
def BlankC (E : World → Prop) : Prop := ∀ (s : ByteArray) (a : Int) (w : World), s.size ≤ 1000000 → E w → Calls Tryd.prog 9 #[.string s, .int .i64 a] w fun r w' => r = .returned (.int .i64 (blankR s a)) ∧ Below w.heap.size w w'

def txtA : ByteArray := ⟨#[102, 40, 88, 41, 45, 62, 49, 50, 46]⟩
def txtB : ByteArray := ⟨#[97, 61, 60, 98, 32, 37, 32, 99]⟩
theorem scan_txtA : scanV txtA = ([⟨0, 0, ⟨#[102]⟩, 0⟩, ⟨3, 0, ⟨#[40]⟩, 1⟩, ⟨1, 0, ⟨#[88]⟩, 2⟩, ⟨3, 0, ⟨#[41]⟩, 3⟩, ⟨3, 0, ⟨#[45, 62]⟩, 4⟩, ⟨2, 12, ⟨#[]⟩, 6⟩, ⟨4, 0, ⟨#[]⟩, 8⟩], 0, 0) := by kernel_rfl
theorem scan_txtB : scanV txtB = ([⟨0, 0, ⟨#[97]⟩, 0⟩, ⟨3, 0, ⟨#[61, 60]⟩, 1⟩, ⟨0, 0, ⟨#[98]⟩, 3⟩], 0, 0) := by kernel_rfl

set_option maxHeartbeats 4000000 in
set_option maxRecDepth 100000 in
theorem wakes6_ok {E : World → Prop} (hE : ∀ w w', E w → Below w.heap.size w w' → E w') (hC : ScanC E) (w : World) (hw : E w) : Calls Tryd.prog 6 #[] w fun e w' => e = .returned (.bool true) ∧ Below w.heap.size w w' := by
  have HA := Lib.hid (hC txtA w (by decide) hw)
  have HC := Lib.hid hC
  have HE := Lib.hid hE
  have HW := Lib.hid hw
  clear hC hE hw
  go_enter Tryd.func6, Tryd.ntmps6
  go_wp2_with fail
  refine HA.out.mono ?_
  rintro e w1 ⟨A, cap, rfl, hr, b1⟩
  rw [scan_txtA] at hr ⊢
  dsimp only [List.length_cons, List.length_nil]
  obtain ⟨ad, rfl, hl, hr4⟩ := hr 4 _ rfl
  obtain ⟨ad', e6, hl6, hr6⟩ := hr 6 _ rfl
  cases e6
  obtain ⟨W2, hW2⟩ : ∃ W2, W2 = w1.alloc (.cells #[.int .i64 0, .int .i64 0] 28) := ⟨_, rfl⟩
  have b2 : Below w1.heap.size w1 W2 := by rw [hW2]; exact (Below.refl _ _).alloc (Nat.le_refl _) _
  have g2 : W2.heap[w1.heap.size]? = some (.cells #[.int .i64 0, .int .i64 0] 28 (0, 0)) := by rw [hW2]; exact block_alloc _ _
  have HB2 := Lib.hid (b1.trans (b2.mono b1.size))
  have HG2 := Lib.hid g2
  have HR2 := Lib.hid (And.intro (hr4.keep (b2.block _ hl)) (hr6.keep (b2.block _ hl)))
  have HL2 := Lib.hid (Nat.lt_of_lt_of_le hl b2.size)
  have HBC := Lib.hid (HC.out txtB W2 (by decide) (HE.out _ _ HW.out HB2.out))
  clear hr hr4 hr6 hl hl6 b1 b2 g2
  subst hW2
  go_wp2_with fail
  generalize w1.alloc (.cells #[.int .i64 0, .int .i64 0] 28) = W2 at HB2 HG2 HR2 HL2 HBC ⊢
  refine HBC.out.mono ?_
  rintro e w3 ⟨B, capB, rfl, hr, b3⟩
  rw [scan_txtB] at hr ⊢
  dsimp only [List.length_cons, List.length_nil]
  obtain ⟨bd, rfl, hlb, hr1⟩ := hr 1 _ rfl
  obtain ⟨W4, hW4⟩ : ∃ W4, W4 = w3.alloc (.cells #[.int .i64 0, .int .i64 0] 28) := ⟨_, rfl⟩
  have b4 : Below w3.heap.size w3 W4 := by rw [hW4]; exact (Below.refl _ _).alloc (Nat.le_refl _) _
  have g4 : W4.heap[w3.heap.size]? = some (.cells #[.int .i64 0, .int .i64 0] 28 (0, 0)) := by rw [hW4]; exact block_alloc _ _
  have b34 := b3.trans (b4.mono b3.size)
  have g24 := (b34.block _ (heap_lt HG2.out)).trans HG2.out
  obtain ⟨p0, p1, p2, p3⟩ := HR2.out.1.keep (b34.block _ HL2.out)
  obtain ⟨q0, q1, q2, q3⟩ := HR2.out.2.keep (b34.block _ HL2.out)
  obtain ⟨s0, s1, s2, s3⟩ := hr1.keep (b4.block _ hlb)
  have y0 : W4.cell? ⟨w1.heap.size, 0, none⟩ = some (.int .i64 0) := cell_of_row g24 rfl
  have z0 : W4.cell? ⟨w3.heap.size, 0, none⟩ = some (.int .i64 0) := cell_of_row g4 rfl
  have HB4 := Lib.hid (HB2.out.trans (b34.mono HB2.out.size))
  clear hr hr1 b3 b4 b34 g4 g24 hlb
  have p0 : W4.cell? ⟨ad.block, ad.off + 16, none⟩ = some (.int .i8 3) := p0
  have p1 : W4.cell? ⟨ad.block, ad.off + 16 + 1, none⟩ = some (.int .i64 0) := p1
  have p2 : W4.cell? ⟨ad.block, ad.off + 16 + 2, none⟩ = some (.string ⟨#[45, 62]⟩) := p2
  have p3 : W4.cell? ⟨ad.block, ad.off + 16 + 3, none⟩ = some (.int .i64 4) := p3
  have q0 : W4.cell? ⟨ad.block, ad.off + 24, none⟩ = some (.int .i8 4) := q0
  have q1 : W4.cell? ⟨ad.block, ad.off + 24 + 1, none⟩ = some (.int .i64 0) := q1
  have q2 : W4.cell? ⟨ad.block, ad.off + 24 + 2, none⟩ = some (.string ⟨#[]⟩) := q2
  have q3 : W4.cell? ⟨ad.block, ad.off + 24 + 3, none⟩ = some (.int .i64 8) := q3
  have s0 : W4.cell? ⟨bd.block, bd.off + 4, none⟩ = some (.int .i8 3) := s0
  have s1 : W4.cell? ⟨bd.block, bd.off + 4 + 1, none⟩ = some (.int .i64 0) := s1
  have s2 : W4.cell? ⟨bd.block, bd.off + 4 + 2, none⟩ = some (.string ⟨#[61, 60]⟩) := s2
  have s3 : W4.cell? ⟨bd.block, bd.off + 4 + 3, none⟩ = some (.int .i64 1) := s3
  subst hW4
  go_wp2_with fail
  go_ret
  exact ⟨rfl, HB4.out⟩
end Go.Proofs.YtkaijnbefbggeaaDoor
