/- The reader: name. -/
import Derived.Test.YtohbljgagbnjoaaDoorRdFun
import Derived.Test.YtohbljgagbnjoaaDoorOwnT
set_option linter.unusedVariables false
namespace Go.Proofs.YtohbljgagbnjoaaDoor
open Go.RowKit
open Go.Lib (decDigits itoa)

def termZ : Obj := .cells #[.int .i8 0, .int .i64 0, .string ⟨#[]⟩, .string ⟨#[]⟩, .slice none 0 0] 25

/-- A call's own block B, new at W, and what the reader has come to. -/
structure InBox (w0 W : World) (rb : Nat) (s : ByteArray) (pos bg : Nat) (V : World) : Prop where
  rs : RS w0 rb s pos bg V
  box : V.heap[W.heap.size]? = some termZ
  mod : Mod (fun k => k = rb) W V
theorem RS.lt {w0 W : World} {rb pos bg : Nat} {s : ByteArray} (h : RS w0 rb s pos bg W) : rb < W.heap.size := heap_lt h.rd
theorem inBox_of {w0 W : World} {rb pos bg : Nat} {s : ByteArray} (h : RS w0 rb s pos bg W) : InBox w0 W rb s pos bg (W.alloc termZ) :=
  ⟨h.mod (Mod.alloc (fun _ => False) _ _) (fun h => h) (fun _ h => h.elim), block_alloc _ _, Mod.alloc _ _ _⟩
theorem InBox.on {w0 W V V' : World} {rb pos bg pos' bg' : Nat} {s : ByteArray} (h : InBox w0 W rb s pos bg V) (hrb : rb < W.heap.size) (hr : RS w0 rb s pos' bg' V') (m : Mod (fun k => k = rb) V V') : InBox w0 W rb s pos' bg' V' :=
  ⟨hr, (m.block _ (heap_lt h.box) (by omega)).trans h.box, h.mod.trans m (fun _ _ h => h)⟩
theorem InBox.under {w0 W V V' : World} {rb pos bg : Nat} {s : ByteArray} (h : InBox w0 W rb s pos bg V) (hb : Below V.heap.size V V') : InBox w0 W rb s pos bg V' :=
  ⟨h.rs.under hb, (hb.block _ (heap_lt h.box)).trans h.box, h.mod.trans (Mod.of_below (F := fun _ => False) hb) (fun _ _ h => h.elim)⟩
/-- The last store and the end. -/
theorem InBox.done {w0 W V V' : World} {rb pos bg : Nat} {s : ByteArray} (h : InBox w0 W rb s pos bg V) (hrb : rb < W.heap.size) (m : Mod (fun k => k = W.heap.size) V V') : RS w0 rb s pos bg V' ∧ Mod (fun k => k = rb) W V' := by
  have hlo := h.rs.lo
  refine ⟨h.rs.mod m (by omega) (fun k (e : k = _) => by omega), ⟨m.os.trans h.mod.os, m.tape.trans h.mod.tape, m.output.trans h.mod.output, Nat.le_trans h.mod.size m.size, fun k hk hF => (m.block k (Nat.lt_of_lt_of_le hk h.mod.size) (by omega)).trans (h.mod.block k hk hF)⟩⟩

set_option maxHeartbeats 4000000 in
set_option maxRecDepth 100000 in
theorem name_atom {w0 W : World} {rb pos bg : Nat} {s : ByteArray} (h : RS w0 rb s pos bg W) (hS : Spans w0) (hs : s.size ≤ 1099511627776) (nm : ByteArray) (hnm : nameB nm 2 = true) {r : List UInt8} (hr : Sep r) (hr2 : Go.Lib.hasPrefix r [32] = false) (hd : s.data.toList.drop pos = nm.data.toList ++ r) :
    Calls Tryd.prog 79 #[.pointer (some ⟨rb, 0, none⟩)] W fun e W' => e = .returned (.tuple #[.agg #[.int .i8 1, .int .i64 0, .string nm, .string ⟨#[]⟩, .slice none 0 0], .int .i64 0]) ∧ RS w0 rb s (pos + nm.size) bg W' ∧ Mod (fun k => k = rb) W W' := by
  have hrb := h.lt
  have hnl := name_len hnm
  have hl : nm.data.toList.length = nm.size := Array.length_toList
  have hne0 : nm.data.toList ≠ [] := fun e => by rw [e] at hl; simp at hl; omega
  obtain ⟨hd2, hp2⟩ := drop_more hd
  have hp2 := hp2 hne0
  rw [hl] at hd2 hp2
  have hI := inBox_of h
  have z1 : (W.alloc termZ).heap.size = W.heap.size + 1 := World.size_alloc _ _
  have hb2 : Below (W.alloc termZ).heap.size (W.alloc termZ) ((W.alloc termZ).alloc (.cells #[.string ⟨#[]⟩] 9)) := (Below.refl _ _).alloc (Nat.le_refl _) _
  have HB := Lib.hid (hI.under hb2)
  have HBX : Hid (((W.alloc termZ).alloc (.cells #[.string ⟨#[]⟩] 9)).heap[W.heap.size + 1]? = some (.cells #[.string ⟨#[]⟩] 9 (0, 0))) := by rw [← z1]; exact block_alloc _ _
  have HI := Lib.hid h
  have T1 : Hid (∀ V, RS w0 rb s pos bg V → V.heap[W.heap.size + 1]? = some (.cells #[.string ⟨#[]⟩] 9 (0, 0)) → Calls Tryd.prog 98 #[.pointer (some ⟨rb, 0, none⟩), .pointer (some ⟨W.heap.size + 1, 0, none⟩)] V fun e W' => e = .returned (.bool true) ∧ RS w0 rb s (pos + nm.size) bg W' ∧ W'.heap[W.heap.size + 1]? = some (.cells #[.string nm] 9 (0, 0)) ∧ Mod (fun k => k = rb ∨ k = W.heap.size + 1) V W') := fun V hV hf =>
    word_is hV hS hs nm hnm hr hd hf (by show _ < 1; omega) (by omega) (by have := h.below.size; omega)
  have T2 : Hid (∀ V, RS w0 rb s (pos + nm.size) bg V → Calls Tryd.prog 99 #[.pointer (some ⟨rb, 0, none⟩)] V fun e W' => e = .returned (.tuple #[.agg #[.string ⟨#[]⟩, .string ⟨#[]⟩, .int .i64 0], .bool false]) ∧ Below V.heap.size V W') := fun V hV =>
    fun_no hV hS hs hp2 (by rw [hd2]; exact hr2)
  have HRB := Lib.hid hrb
  clear h hd hd2 hp2 hne0 hl hI hb2 z1 hrb
  go_enter Tryd.func79, Tryd.ntmps79
  go_wp2_with fail
  refine (T1.out _ HB.out.rs HBX.out).mono ?_
  rintro e V1 ⟨rfl, h1, g1, m1⟩
  have hrb := HRB.out
  have box1 := (m1.block _ (heap_lt HB.out.box) (by omega)).trans HB.out.box
  have zz : W.heap.size + 1 < V1.heap.size := heap_lt g1
  have mm : Mod (fun k => k = rb) W V1 := ⟨m1.os.trans HB.out.mod.os, m1.tape.trans HB.out.mod.tape, m1.output.trans HB.out.mod.output, Nat.le_trans HB.out.mod.size m1.size, fun k hk hF => (m1.block k (Nat.lt_of_lt_of_le hk HB.out.mod.size) (by omega)).trans (HB.out.mod.block k hk hF)⟩
  have I1 := Lib.hid (InBox.mk h1 box1 mm)
  have G1 := Lib.hid g1
  have c1 : V1.cell? ⟨W.heap.size + 1, 0, none⟩ = some (.string nm) := cell_of_row g1 rfl
  clear h1 g1 m1 box1 zz mm hrb
  have last : ∀ V, InBox w0 W rb s (pos + nm.size) bg V → V.heap[W.heap.size + 1]? = some (.cells #[.string nm] 9 (0, 0)) → True := fun _ _ _ => trivial
  cases hq : (nm.toList == [102, 117, 110])
  · go_wp2_with fail
    refine (termOf_atom 0 nm ⟨#[]⟩ none 0 0 _).mono ?_
    rintro e V2 ⟨rfl, b2⟩
    have i2 := I1.out.under b2
    have g2 := i2.box
    unfold termZ at g2
    have r0 : (V2).cell? ⟨W.heap.size, 0, none⟩ = some (.int .i8 0) := cell_of_row g2 rfl
    have r1 : (V2).cell? ⟨W.heap.size, 1, none⟩ = some (.int .i64 0) := cell_of_row g2 rfl
    have r2 : (V2).cell? ⟨W.heap.size, 2, none⟩ = some (.string ⟨#[]⟩) := cell_of_row g2 rfl
    have r3 : (V2).cell? ⟨W.heap.size, 3, none⟩ = some (.string ⟨#[]⟩) := cell_of_row g2 rfl
    have r4 : (V2).cell? ⟨W.heap.size, 4, none⟩ = some (.slice none 0 0) := cell_of_row g2 rfl
    have f0 : (V2).frozen? ⟨W.heap.size, 0, none⟩ = false := free_of_row g2
    have f1 : (V2).frozen? ⟨W.heap.size, 1, none⟩ = false := free_of_row g2
    have f2 : (V2).frozen? ⟨W.heap.size, 2, none⟩ = false := free_of_row g2
    have f3 : (V2).frozen? ⟨W.heap.size, 3, none⟩ = false := free_of_row g2
    have f4 : (V2).frozen? ⟨W.heap.size, 4, none⟩ = false := free_of_row g2
    have S5 := Lib.hid (set_five (.int .i8 1) (.int .i64 0) (.string nm) (.string ⟨#[]⟩) (.slice none 0 0) g2)
    have I2 := Lib.hid i2
    clear i2 g2 b2 c1
    go_wp2_with fail
    obtain ⟨s5, m5⟩ := S5.out
    generalize ((((((V2).setCell ⟨W.heap.size, 0, none⟩ (.int .i8 1)).setCell ⟨W.heap.size, 1, none⟩ (.int .i64 0)).setCell ⟨W.heap.size, 2, none⟩ (.string nm)).setCell ⟨W.heap.size, 3, none⟩ (.string ⟨#[]⟩)).setCell ⟨W.heap.size, 4, none⟩ (.slice none 0 0)) = VX at s5 m5 ⊢
    have z0 : VX.cell? ⟨W.heap.size, 0, none⟩ = some (.int .i8 1) := cell_of_row s5 rfl
    have z1 : VX.cell? ⟨W.heap.size, 1, none⟩ = some (.int .i64 0) := cell_of_row s5 rfl
    have z2 : VX.cell? ⟨W.heap.size, 2, none⟩ = some (.string nm) := cell_of_row s5 rfl
    have z3 : VX.cell? ⟨W.heap.size, 3, none⟩ = some (.string ⟨#[]⟩) := cell_of_row s5 rfl
    have z4 : VX.cell? ⟨W.heap.size, 4, none⟩ = some (.slice none 0 0) := cell_of_row s5 rfl
    refine bodyPost_ret (v := .tuple #[.agg #[(.int .i8 1), (.int .i64 0), (.string nm), (.string ⟨#[]⟩), (.slice none 0 0)], (.int .i64 0)]) (by simp [results, Tryd.f79, go_sem, z0, z1, z2, z3, z4]) rfl ?_
    exact ⟨rfl, I2.out.done HRB.out m5⟩
  · go_wp2_with fail
    refine (T2.out _ I1.out.rs).mono ?_
    rintro e V2 ⟨rfl, b2⟩
    have i2 := I1.out.under b2
    have g2 := (b2.block _ (heap_lt G1.out)).trans G1.out
    have b3 : Below V2.heap.size V2 (V2.alloc (.cells #[.string ⟨#[]⟩, .string ⟨#[]⟩, .int .i64 0] 105)) := (Below.refl _ _).alloc (Nat.le_refl _) _
    have c3 : (V2.alloc (.cells #[.string ⟨#[]⟩, .string ⟨#[]⟩, .int .i64 0] 105)).cell? ⟨W.heap.size + 1, 0, none⟩ = some (.string nm) := cell_of_row ((b3.block _ (heap_lt g2)).trans g2) rfl
    have I3 := Lib.hid (i2.under b3)
    clear i2 g2 b2 c1 b3
    go_wp2_with fail
    refine (termOf_atom 0 nm ⟨#[]⟩ none 0 0 _).mono ?_
    rintro e V4 ⟨rfl, b4⟩
    have i4 := I3.out.under b4
    have g4 := i4.box
    unfold termZ at g4
    have r0 : (V4).cell? ⟨W.heap.size, 0, none⟩ = some (.int .i8 0) := cell_of_row g4 rfl
    have r1 : (V4).cell? ⟨W.heap.size, 1, none⟩ = some (.int .i64 0) := cell_of_row g4 rfl
    have r2 : (V4).cell? ⟨W.heap.size, 2, none⟩ = some (.string ⟨#[]⟩) := cell_of_row g4 rfl
    have r3 : (V4).cell? ⟨W.heap.size, 3, none⟩ = some (.string ⟨#[]⟩) := cell_of_row g4 rfl
    have r4 : (V4).cell? ⟨W.heap.size, 4, none⟩ = some (.slice none 0 0) := cell_of_row g4 rfl
    have f0 : (V4).frozen? ⟨W.heap.size, 0, none⟩ = false := free_of_row g4
    have f1 : (V4).frozen? ⟨W.heap.size, 1, none⟩ = false := free_of_row g4
    have f2 : (V4).frozen? ⟨W.heap.size, 2, none⟩ = false := free_of_row g4
    have f3 : (V4).frozen? ⟨W.heap.size, 3, none⟩ = false := free_of_row g4
    have f4 : (V4).frozen? ⟨W.heap.size, 4, none⟩ = false := free_of_row g4
    have S5 := Lib.hid (set_five (.int .i8 1) (.int .i64 0) (.string nm) (.string ⟨#[]⟩) (.slice none 0 0) g4)
    have I4 := Lib.hid i4
    clear i4 g4 b4 c3
    go_wp2_with fail
    obtain ⟨s5, m5⟩ := S5.out
    generalize ((((((V4).setCell ⟨W.heap.size, 0, none⟩ (.int .i8 1)).setCell ⟨W.heap.size, 1, none⟩ (.int .i64 0)).setCell ⟨W.heap.size, 2, none⟩ (.string nm)).setCell ⟨W.heap.size, 3, none⟩ (.string ⟨#[]⟩)).setCell ⟨W.heap.size, 4, none⟩ (.slice none 0 0)) = VX at s5 m5 ⊢
    have z0 : VX.cell? ⟨W.heap.size, 0, none⟩ = some (.int .i8 1) := cell_of_row s5 rfl
    have z1 : VX.cell? ⟨W.heap.size, 1, none⟩ = some (.int .i64 0) := cell_of_row s5 rfl
    have z2 : VX.cell? ⟨W.heap.size, 2, none⟩ = some (.string nm) := cell_of_row s5 rfl
    have z3 : VX.cell? ⟨W.heap.size, 3, none⟩ = some (.string ⟨#[]⟩) := cell_of_row s5 rfl
    have z4 : VX.cell? ⟨W.heap.size, 4, none⟩ = some (.slice none 0 0) := cell_of_row s5 rfl
    refine bodyPost_ret (v := .tuple #[.agg #[(.int .i8 1), (.int .i64 0), (.string nm), (.string ⟨#[]⟩), (.slice none 0 0)], (.int .i64 0)]) (by simp [results, Tryd.f79, go_sem, z0, z1, z2, z3, z4]) rfl ?_
    exact ⟨rfl, I4.out.done HRB.out m5⟩

def funW : ByteArray := ⟨#[102, 117, 110]⟩
set_option maxHeartbeats 4000000 in
set_option maxRecDepth 100000 in
theorem name_fun {w0 W : World} {rb pos bg : Nat} {s : ByteArray} (h : RS w0 rb s pos bg W) (hS : Spans w0) (hs : s.size ≤ 1099511627776) (a b : ByteArray) (n : Nat) (ha : nameB a 2 = true) (hb : nameB b 2 = true) (hn : n ≤ 8) {r : List UInt8} (hr : Sep r)
    (hd : s.data.toList.drop pos = funW.data.toList ++ 32 :: (a.data.toList ++ 58 :: (b.data.toList ++ 47 :: (decDigits n ++ r)))) :
    Calls Tryd.prog 79 #[.pointer (some ⟨rb, 0, none⟩)] W fun e W' => e = .returned (.tuple #[.agg #[.int .i8 3, .int .i64 n, .string a, .string b, .slice none 0 0], .int .i64 0]) ∧ RS w0 rb s (pos + 3 + 1 + a.size + 1 + b.size + 1 + (decDigits n).length) bg W' ∧ Mod (fun k => k = rb) W W' := by
  have hrb := h.lt
  obtain ⟨hd2, -⟩ := drop_more hd
  have hd2 : s.data.toList.drop (pos + 3) = _ := hd2
  have hI := inBox_of h
  have z1 : (W.alloc termZ).heap.size = W.heap.size + 1 := World.size_alloc _ _
  have hb2 : Below (W.alloc termZ).heap.size (W.alloc termZ) ((W.alloc termZ).alloc (.cells #[.string ⟨#[]⟩] 9)) := (Below.refl _ _).alloc (Nat.le_refl _) _
  have HB := Lib.hid (hI.under hb2)
  have HBX : Hid (((W.alloc termZ).alloc (.cells #[.string ⟨#[]⟩] 9)).heap[W.heap.size + 1]? = some (.cells #[.string ⟨#[]⟩] 9 (0, 0))) := by rw [← z1]; exact block_alloc _ _
  have T1 : Hid (∀ V, RS w0 rb s pos bg V → V.heap[W.heap.size + 1]? = some (.cells #[.string ⟨#[]⟩] 9 (0, 0)) → Calls Tryd.prog 98 #[.pointer (some ⟨rb, 0, none⟩), .pointer (some ⟨W.heap.size + 1, 0, none⟩)] V fun e W' => e = .returned (.bool true) ∧ RS w0 rb s (pos + 3) bg W' ∧ W'.heap[W.heap.size + 1]? = some (.cells #[.string funW] 9 (0, 0)) ∧ Mod (fun k => k = rb ∨ k = W.heap.size + 1) V W') := fun V hV hf =>
    word_is hV hS hs funW (by decide) (sep_of (c := 32) (by decide)) hd hf (by show _ < 1; omega) (by omega) (by have := h.below.size; omega)
  have T2 : Hid (∀ V, RS w0 rb s (pos + 3) bg V → Calls Tryd.prog 99 #[.pointer (some ⟨rb, 0, none⟩)] V fun e W' => e = .returned (.tuple #[.agg #[.string a, .string b, .int .i64 n], .bool true]) ∧ RS w0 rb s (pos + 3 + 1 + a.size + 1 + b.size + 1 + (decDigits n).length) bg W' ∧ Mod (fun k => k = rb) V W') := fun V hV =>
    fun_is hV hS hs a b n ha hb hn hr hd2
  have HRB := Lib.hid hrb
  clear h hd hd2 hI hb2 z1 hrb ha hb
  have hq : (funW.toList == [102, 117, 110]) = true := by rw [Go.Lib.toList_data]; rfl
  go_enter Tryd.func79, Tryd.ntmps79
  go_wp2_with fail
  refine (T1.out _ HB.out.rs HBX.out).mono ?_
  rintro e V1 ⟨rfl, h1, g1, m1⟩
  have hrb := HRB.out
  have box1 := (m1.block _ (heap_lt HB.out.box) (by omega)).trans HB.out.box
  have zz : W.heap.size + 1 < V1.heap.size := heap_lt g1
  have mm : Mod (fun k => k = rb) W V1 := ⟨m1.os.trans HB.out.mod.os, m1.tape.trans HB.out.mod.tape, m1.output.trans HB.out.mod.output, Nat.le_trans HB.out.mod.size m1.size, fun k hk hF => (m1.block k (Nat.lt_of_lt_of_le hk HB.out.mod.size) (by omega)).trans (HB.out.mod.block k hk hF)⟩
  have I1 := Lib.hid (InBox.mk h1 box1 mm)
  have G1 := Lib.hid g1
  have c1 : V1.cell? ⟨W.heap.size + 1, 0, none⟩ = some (.string funW) := cell_of_row g1 rfl
  clear h1 g1 m1 box1 zz mm hrb
  go_wp2_with fail
  refine (T2.out _ I1.out.rs).mono ?_
  rintro e V2 ⟨rfl, h2, m2⟩
  have i2 := I1.out.on HRB.out h2 m2
  have b3 : Below V2.heap.size V2 (V2.alloc (.cells #[.string a, .string b, .int .i64 n] 105)) := (Below.refl _ _).alloc (Nat.le_refl _) _
  have I3 := Lib.hid (i2.under b3)
  clear i2 h2 m2 c1 b3
  go_wp2_with fail
  refine (termOf_fun n a b none 0 0 _).mono ?_
  rintro e V4 ⟨rfl, b4⟩
  have i4 := I3.out.under b4
  have g4 := i4.box
  unfold termZ at g4
  have r0 : (V4).cell? ⟨W.heap.size, 0, none⟩ = some (.int .i8 0) := cell_of_row g4 rfl
  have r1 : (V4).cell? ⟨W.heap.size, 1, none⟩ = some (.int .i64 0) := cell_of_row g4 rfl
  have r2 : (V4).cell? ⟨W.heap.size, 2, none⟩ = some (.string ⟨#[]⟩) := cell_of_row g4 rfl
  have r3 : (V4).cell? ⟨W.heap.size, 3, none⟩ = some (.string ⟨#[]⟩) := cell_of_row g4 rfl
  have r4 : (V4).cell? ⟨W.heap.size, 4, none⟩ = some (.slice none 0 0) := cell_of_row g4 rfl
  have f0 : (V4).frozen? ⟨W.heap.size, 0, none⟩ = false := free_of_row g4
  have f1 : (V4).frozen? ⟨W.heap.size, 1, none⟩ = false := free_of_row g4
  have f2 : (V4).frozen? ⟨W.heap.size, 2, none⟩ = false := free_of_row g4
  have f3 : (V4).frozen? ⟨W.heap.size, 3, none⟩ = false := free_of_row g4
  have f4 : (V4).frozen? ⟨W.heap.size, 4, none⟩ = false := free_of_row g4
  have S5 := Lib.hid (set_five (.int .i8 3) (.int .i64 n) (.string a) (.string b) (.slice none 0 0) g4)
  have I4 := Lib.hid i4
  clear i4 g4 b4
  go_wp2_with fail
  obtain ⟨s5, m5⟩ := S5.out
  generalize ((((((V4).setCell ⟨W.heap.size, 0, none⟩ (.int .i8 3)).setCell ⟨W.heap.size, 1, none⟩ (.int .i64 n)).setCell ⟨W.heap.size, 2, none⟩ (.string a)).setCell ⟨W.heap.size, 3, none⟩ (.string b)).setCell ⟨W.heap.size, 4, none⟩ (.slice none 0 0)) = VX at s5 m5 ⊢
  have z0 : VX.cell? ⟨W.heap.size, 0, none⟩ = some (.int .i8 3) := cell_of_row s5 rfl
  have z1 : VX.cell? ⟨W.heap.size, 1, none⟩ = some (.int .i64 n) := cell_of_row s5 rfl
  have z2 : VX.cell? ⟨W.heap.size, 2, none⟩ = some (.string a) := cell_of_row s5 rfl
  have z3 : VX.cell? ⟨W.heap.size, 3, none⟩ = some (.string b) := cell_of_row s5 rfl
  have z4 : VX.cell? ⟨W.heap.size, 4, none⟩ = some (.slice none 0 0) := cell_of_row s5 rfl
  refine bodyPost_ret (v := .tuple #[.agg #[(.int .i8 3), (.int .i64 n), (.string a), (.string b), (.slice none 0 0)], (.int .i64 0)]) (by simp [results, Tryd.f79, go_sem, z0, z1, z2, z3, z4]) rfl ?_
  exact ⟨rfl, I4.out.done HRB.out m5⟩
end Go.Proofs.YtohbljgagbnjoaaDoor
