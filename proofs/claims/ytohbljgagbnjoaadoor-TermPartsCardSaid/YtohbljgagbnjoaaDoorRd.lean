/- The reader of terms: its state; take. -/
import Derived.Test.YtohbljgagbnjoaaDoorKinds
import Derived.Test.YtohbljgagbnjoaaDoorMod
import Derived.Test.YtohbljgagbnjoaaDoorShelf
import Derived.Test.YtohbljgagbnjoaaDoorIntsRead
import Derived.Lib.IndexBytes
import Derived.Deep.QuietTactic
import Derived.BigQuiet
import Derived.Outline
set_option linter.unusedVariables false
namespace Go.Proofs.YtohbljgagbnjoaaDoor
open Go.RowKit

/-- The reader lies in block rb: the text s, how far it has read, how many parts were begun; below w0's end nothing was turned. -/
structure RS (w0 : World) (rb : Nat) (s : ByteArray) (pos bg : Nat) (W : World) : Prop where
  rd : W.heap[rb]? = some (.cells #[.string s, .int .i64 pos, .int .i64 bg] 74 (0, 0))
  below : Below w0.heap.size w0 W
  lo : w0.heap.size ≤ rb

theorem RS.mod {w0 W W' : World} {rb pos bg : Nat} {s : ByteArray} {F : Nat → Prop} (h : RS w0 rb s pos bg W) (hm : Mod F W W') (hF : ¬ F rb) (hl : ∀ k, F k → w0.heap.size ≤ k) : RS w0 rb s pos bg W' :=
  ⟨(hm.block _ (heap_lt h.rd) hF).trans h.rd, h.below.trans (hm.below h.below.size hl), h.lo⟩
theorem RS.under {w0 W W' : World} {rb pos bg : Nat} {s : ByteArray} (h : RS w0 rb s pos bg W) (hb : Below W.heap.size W W') : RS w0 rb s pos bg W' := h.mod (Mod.of_below (F := fun _ => False) hb) (fun h => h) (fun _ h => h.elim)

theorem drop_eq (s : ByteArray) (pos : Nat) : (s.extract pos s.size).data.toList = s.data.toList.drop pos := Go.Lib.extract_to_end s pos

set_option maxHeartbeats 2000000 in
set_option maxRecDepth 100000 in
theorem take_is {w0 W : World} {rb pos bg : Nat} {s : ByteArray} (h : RS w0 rb s pos bg W) (hpos : pos ≤ s.size) (hs : s.size ≤ 1099511627776) (wd : ByteArray) (hw : wd.size ≤ 1000) (b : Bool) (hb : Go.Lib.hasPrefix (s.data.toList.drop pos) wd.data.toList = b) :
    Calls Tryd.prog 93 #[.pointer (some ⟨rb, 0, none⟩), .string wd] W fun e W' => e = .returned (.bool b) ∧ RS w0 rb s (if b = true then pos + wd.size else pos) bg W' ∧ Mod (fun k => k = rb) W W' := by
  have c0 : W.cell? ⟨rb, 0, none⟩ = some (.string s) := cell_of_row h.rd rfl
  have c1 : W.cell? ⟨rb, 1, none⟩ = some (.int .i64 pos) := cell_of_row h.rd rfl
  have HH := Lib.hid h
  have HPC : Hid (∀ w, Calls Tryd.prog 109 #[.string (s.extract pos s.size), .string wd] w fun e w' => e = .returned (.bool b) ∧ w' = w) := fun w =>
    (Tryd.strings_HasPrefix _ _ w).mono fun e w' h => ⟨by rw [h.1, drop_eq, hb], h.2⟩
  clear h hb
  go_enter Tryd.func93, Tryd.ntmps93
  go_wp2_with fail
  go_quiet ((go_at_call 109; exact Calls.quiet_of_same (HPC.out _)))
  have hm1 : Mod (fun _ => False) W (W.drewN nq) := ⟨rfl, rfl, rfl, Nat.le_refl _, fun _ _ _ => rfl⟩
  have hr1 := HH.out.mod hm1 (fun h => h) (fun _ h => h.elim)
  generalize W.drewN nq = W1 at hm1 hr1 ⊢
  have c1 : W1.cell? ⟨rb, 1, none⟩ = some (.int .i64 pos) := cell_of_row hr1.rd rfl
  have f1 : W1.frozen? ⟨rb, 1, none⟩ = false := free_of_row hr1.rd
  have HM1 := Lib.hid hm1
  have HR1 := Lib.hid hr1
  clear hm1 hr1 c0
  cases b
  · go_wp2_with fail
    go_ret
    exact ⟨rfl, HR1.out, HM1.out.mono (fun _ _ h => h.elim)⟩
  · go_wp2_with fail
    go_ret
    have hset : Mod (fun k => k = rb) W1 (W1.setCell ⟨rb, 1, none⟩ (.int .i64 ((pos : Int) + wd.size))) := Mod.setCell _ _ _ (.inl rfl)
    refine ⟨rfl, ⟨?_, HR1.out.below.trans (hset.below HR1.out.below.size (fun k (e : k = rb) => by have := HR1.out.lo; omega)), HR1.out.lo⟩, (HM1.out.mono (fun _ _ h => h.elim)).trans hset (fun _ _ h => h)⟩
    rw [show ((pos + wd.size : Nat) : Int) = (pos : Int) + wd.size by omega]
    exact set_row (i := 1) _ HR1.out.rd

set_option maxHeartbeats 2000000 in
set_option maxRecDepth 100000 in
theorem digits_is {w0 W : World} {rb pos bg : Nat} {s : ByteArray} (h : RS w0 rb s pos bg W) (hs : s.size ≤ 1099511627776) (n : Int) (u : Nat) (er : Int) (hq : readR (s.data.toList.drop pos) = (n, (u : Int), er)) (hu : pos + u ≤ s.size)
    (hz : 1 < u → ∀ h : pos < s.size, s[pos] ≠ 48) :
    Calls Tryd.prog 96 #[.pointer (some ⟨rb, 0, none⟩)] W fun e W' => e = .returned (.tuple #[.int .i64 n, .int .i64 er]) ∧ RS w0 rb s (pos + u) bg W' ∧ Mod (fun k => k = rb) W W' := by
  have c0 : W.cell? ⟨rb, 0, none⟩ = some (.string s) := cell_of_row h.rd rfl
  have c1 : W.cell? ⟨rb, 1, none⟩ = some (.int .i64 pos) := cell_of_row h.rd rfl
  have HH := Lib.hid h
  have HPC : Hid (∀ w, Calls Tryd.prog 110 #[.string (s.extract pos s.size)] w fun e w' => e = .returned (.tuple #[.int .i64 n, .int .i64 u, .int .i64 er]) ∧ w' = w) := fun w => by
    refine (Read_any (s.extract pos s.size) w ?_).mono fun e w' h => ⟨by rw [h.1, drop_eq, hq], h.2.symm⟩
    have : (s.extract pos s.size).size ≤ s.size := by rw [ByteArray.size_extract]; omega
    unfold maxLen; omega
  have HZ := Lib.hid hz
  have hpos : pos ≤ s.size := by omega
  clear h hq hz
  go_enter Tryd.func96, Tryd.ntmps96
  go_wp2_with fail
  go_quiet ((go_at_call 110; exact Calls.quiet_of_same (HPC.out _)))
  have hm1 : Mod (fun _ => False) W (W.drewN nq) := ⟨rfl, rfl, rfl, Nat.le_refl _, fun _ _ _ => rfl⟩
  have hr1 := HH.out.mod hm1 (fun h => h) (fun _ h => h.elim)
  generalize W.drewN nq = W1 at hm1 hr1 ⊢
  have c0 : W1.cell? ⟨rb, 0, none⟩ = some (.string s) := cell_of_row hr1.rd rfl
  have c1 : W1.cell? ⟨rb, 1, none⟩ = some (.int .i64 pos) := cell_of_row hr1.rd rfl
  have HM1 := Lib.hid hm1
  have HR1 := Lib.hid hr1
  clear hm1 hr1
  -- what follows where no nought stands ahead
  have fin : ∀ V : World, Mod (fun _ => False) W1 V → RS w0 rb s pos bg V ∧ Mod (fun k => k = rb) W V := fun V hV => ⟨HR1.out.mod hV (fun h => h) (fun _ h => h.elim), ((HM1.out.trans hV (fun _ _ h => h)).mono (fun _ _ h => h.elim))⟩
  have HFIN := Lib.hid fin
  have fin2 : ∀ V : World, RS w0 rb s pos bg V → Mod (fun k => k = rb) W V → RS w0 rb s (pos + u) bg (V.setCell ⟨rb, 1, none⟩ (.int .i64 ((pos : Int) + u))) ∧ Mod (fun k => k = rb) W (V.setCell ⟨rb, 1, none⟩ (.int .i64 ((pos : Int) + u))) := by
    intro V hV hmV
    have hset : Mod (fun k => k = rb) V (V.setCell ⟨rb, 1, none⟩ (.int .i64 ((pos : Int) + u))) := Mod.setCell _ _ _ (.inl rfl)
    refine ⟨⟨?_, hV.below.trans (hset.below hV.below.size (fun k (e : k = rb) => by have := hV.lo; omega)), hV.lo⟩, hmV.trans hset (fun _ _ h => h)⟩
    rw [show ((pos + u : Nat) : Int) = (pos : Int) + u by omega]
    exact set_row (i := 1) _ hV.rd
  have HFIN2 := Lib.hid fin2
  clear fin fin2
  by_cases h1 : 1 < u
  · have hd1 : decide (1 < u) = true := by simpa using h1
    have hd2 : decide ((1 : Int) < (u : Int)) = true := decide_eq_true (by omega)
    have hpl : pos < s.size := by omega
    have hb := HZ.out h1 hpl
    have hb2 : (((s[pos]).toNat : Int) == 48) = false := by
      rw [beq_eq_false_iff_ne]; intro e; apply hb; apply UInt8.toNat_inj.1; have : (48 : UInt8).toNat = 48 := rfl; omega
    clear hb
    go_wp2_with fail
    go_quiet (fail)
    obtain ⟨hV, hmV⟩ := HFIN.out (W1.drewN nq) ⟨rfl, rfl, rfl, Nat.le_refl _, fun _ _ _ => rfl⟩
    generalize W1.drewN nq = V at hV hmV ⊢
    have c1 : V.cell? ⟨rb, 1, none⟩ = some (.int .i64 pos) := cell_of_row hV.rd rfl
    have f1 : V.frozen? ⟨rb, 1, none⟩ = false := free_of_row hV.rd
    have HR := Lib.hid (HFIN2.out V hV hmV)
    clear hV hmV
    go_wp2_with fail
    go_ret2
    exact ⟨rfl, HR.out.1, HR.out.2⟩
  · have hd1 : decide (1 < u) = false := by simpa using h1
    have hd2 : decide ((1 : Int) < (u : Int)) = false := decide_eq_false (by omega)
    go_wp2_with fail
    go_quiet (fail)
    obtain ⟨hV, hmV⟩ := HFIN.out (W1.drewN nq) ⟨rfl, rfl, rfl, Nat.le_refl _, fun _ _ _ => rfl⟩
    generalize W1.drewN nq = V at hV hmV ⊢
    have c1 : V.cell? ⟨rb, 1, none⟩ = some (.int .i64 pos) := cell_of_row hV.rd rfl
    have f1 : V.frozen? ⟨rb, 1, none⟩ = false := free_of_row hV.rd
    have HR := Lib.hid (HFIN2.out V hV hmV)
    clear hV hmV
    go_wp2_with fail
    go_ret2
    exact ⟨rfl, HR.out.1, HR.out.2⟩
end Go.Proofs.YtohbljgagbnjoaaDoor
