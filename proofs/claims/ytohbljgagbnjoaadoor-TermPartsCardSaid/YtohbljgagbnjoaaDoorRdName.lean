/- The reader: word. -/
import Derived.Test.YtohbljgagbnjoaaDoorRdLeaf
import Derived.Test.YtohbljgagbnjoaaDoorStrClone
set_option linter.unusedVariables false
namespace Go.Proofs.YtohbljgagbnjoaaDoor
open Go.RowKit
open Go.Lib (decDigits itoa)

theorem name_len {s : ByteArray} {k : Int} (h : nameB s k = true) : 1 ≤ s.size ∧ s.size ≤ 32 := ⟨(of_decide_eq_true h).1, (of_decide_eq_true h).2.1⟩

set_option maxHeartbeats 2000000 in
set_option maxRecDepth 100000 in
theorem word_is {w0 W : World} {rb pos bg : Nat} {s : ByteArray} (h : RS w0 rb s pos bg W) (hS : Spans w0) (hs : s.size ≤ 1099511627776) (nm : ByteArray) (hnm : nameB nm 2 = true) {r : List UInt8} (hr : Sep r) (hd : s.data.toList.drop pos = nm.data.toList ++ r)
    {db di : Nat} {cs : Array Value} {T : TypeId} (hdst : W.heap[db]? = some (.cells cs T (0, 0))) (hdi : di < cs.size) (hne : db ≠ rb) (hdb : w0.heap.size ≤ db) :
    Calls Tryd.prog 98 #[.pointer (some ⟨rb, 0, none⟩), .pointer (some ⟨db, di, none⟩)] W fun e W' => e = .returned (.bool true) ∧ RS w0 rb s (pos + nm.size) bg W' ∧ W'.heap[db]? = some (.cells (cs.setIfInBounds di (.string nm)) T (0, 0)) ∧ Mod (fun k => k = rb ∨ k = db) W W' := by
  have hnl := name_len hnm
  have hl : nm.data.toList.length = nm.size := Array.length_toList
  have hne0 : nm.data.toList ≠ [] := fun e => by rw [e] at hl; simp at hl; omega
  have hpl := (drop_more hd).2 hne0
  rw [hl] at hpl
  have c0 : W.cell? ⟨rb, 0, none⟩ = some (.string s) := cell_of_row h.rd rfl
  have c1 : W.cell? ⟨rb, 1, none⟩ = some (.int .i64 pos) := cell_of_row h.rd rfl
  have hre := drop_eq s pos
  rw [hd] at hre
  have hrs : (s.extract pos s.size).size = s.size - pos := by rw [ByteArray.size_extract]; omega
  have hpf : prefN (s.extract pos s.size) = nm.size := by unfold prefN; rw [hre]; exact pref_name hnm hr
  have hcut : (s.extract pos s.size).extract 0 nm.size = nm := by
    apply ByteArray.ext
    apply Array.toList_inj.1
    rw [ByteArray.data_extract, Array.toList_extract, hre, List.extract_eq_take_drop, List.drop_zero, Nat.sub_zero, ← hl, List.take_left]
  have HP : Hid (∀ w, Spans w → Calls Tryd.prog 92 #[.string (s.extract pos s.size)] w fun e w' => e = .returned (.int .i64 nm.size) ∧ Below w.heap.size w w') := fun w hw => (Prefix_any (s.extract pos s.size) (by unfold maxLen; omega) w hw).mono fun e w' h => ⟨by rw [h.1, hpf], h.2⟩
  have HM : Hid (∀ w, Spans w → Calls Tryd.prog 86 #[.string nm] w fun e w' => e = .returned (.bool true) ∧ Below w.heap.size w w') := fun w hw => (May_any nm (by unfold maxLen; omega) w hw).mono fun e w' h => ⟨by rw [h.1, hnm], h.2⟩
  have HCL : Hid (∀ w, Calls Tryd.prog 81 #[.string nm] w fun e w' => e = .returned (.string nm) ∧ Below w.heap.size w w') := fun w => Clone_any nm w (by omega)
  have HCUT := Lib.hid hcut
  have HSP := Lib.hid (h.spans hS)
  have HR := Lib.hid h
  have HD := Lib.hid hdst
  have hrl : nm.size ≤ (s.extract pos s.size).size := by omega
  have hpos : pos ≤ s.size := by omega
  clear h hd hre hpf hcut hnm hr hl hne0 hdst hrs
  go_enter Tryd.func98, Tryd.ntmps98
  go_wp2_with fail
  go_quiet (fail)
  have m1 : Mod (fun k => k = rb ∨ k = db) W (W.drewN nq) := ⟨rfl, rfl, rfl, Nat.le_refl _, fun _ _ _ => rfl⟩
  have r1 : RS w0 rb s pos bg (W.drewN nq) := HR.out.mod (Mod.mono (F := fun _ => False) ⟨rfl, rfl, rfl, Nat.le_refl _, fun _ _ _ => rfl⟩ (fun _ _ h => h)) (fun h => h) (fun _ h => h.elim)
  have s1 : Spans (W.drewN nq) := r1.spans hS
  have d1 : (W.drewN nq).heap[db]? = some (.cells cs T (0, 0)) := HD.out
  generalize W.drewN nq = V at m1 r1 s1 d1 ⊢
  have M1 := Lib.hid m1
  have R1 := Lib.hid r1
  have S1 := Lib.hid s1
  have D1 := Lib.hid d1
  clear m1 r1 s1 d1 c0 c1
  go_wp2_with fail
  refine (HP.out _ S1.out).mono ?_
  rintro e w1 ⟨rfl, b1⟩
  have R2 := Lib.hid (R1.out.under b1)
  have M2 := Lib.hid (M1.out.trans (Mod.of_below (F := fun _ => False) b1) (fun _ _ h => h.elim))
  have D2 := Lib.hid ((b1.block _ (heap_lt D1.out)).trans D1.out)
  clear b1
  go_wp2_with fail
  rw [HCUT.out]
  refine (HM.out _ (R2.out.spans hS)).mono ?_
  rintro e w2 ⟨rfl, b2⟩
  have r3 := R2.out.under b2
  have M3 := Lib.hid (M2.out.trans (Mod.of_below (F := fun _ => False) b2) (fun _ _ h => h.elim))
  have d3 := (b2.block _ (heap_lt D2.out)).trans D2.out
  have c1 : w2.cell? ⟨rb, 1, none⟩ = some (.int .i64 pos) := cell_of_row r3.rd rfl
  have f1 : w2.frozen? ⟨rb, 1, none⟩ = false := free_of_row r3.rd
  have R3 := Lib.hid r3
  have D3 := Lib.hid d3
  clear b2 r3 d3
  have hset : Mod (fun k => k = rb) w2 (w2.setCell ⟨rb, 1, none⟩ (.int .i64 ((pos : Int) + nm.size))) := Mod.setCell _ _ _ (.inl rfl)
  have R4 : Hid (RS w0 rb s (pos + nm.size) bg (w2.setCell ⟨rb, 1, none⟩ (.int .i64 ((pos : Int) + nm.size)))) := by
    refine ⟨?_, R3.out.below.trans (hset.below R3.out.below.size (fun k (e : k = rb) => by have := R3.out.lo; omega)), R3.out.lo⟩
    rw [show ((pos + nm.size : Nat) : Int) = (pos : Int) + nm.size by omega]
    exact set_row (i := 1) _ R3.out.rd
  have M4 := Lib.hid (M3.out.trans hset (fun _ _ h => .inl h))
  have D4 := Lib.hid ((hset.block _ (heap_lt D3.out) hne).trans D3.out)
  clear hset
  go_wp2_with fail
  refine (HCL.out _).mono ?_
  rintro e w5 ⟨rfl, b5⟩
  have d5 := (b5.block _ (heap_lt D4.out)).trans D4.out
  have R5 := Lib.hid (R4.out.under b5)
  have M5 := Lib.hid (M4.out.trans (Mod.of_below (F := fun _ => False) b5) (fun _ _ h => h.elim))
  have c5 : w5.cell? ⟨db, di, none⟩ = some cs[di] := cell_of_row d5 (Array.getElem?_eq_getElem hdi)
  have f5 : w5.frozen? ⟨db, di, none⟩ = false := free_of_row d5
  have D5 := Lib.hid d5
  clear b5 d5 c1 f1
  go_wp2_with fail
  go_ret
  have hset : Mod (fun k => k = db) w5 (w5.setCell ⟨db, di, none⟩ (.string nm)) := Mod.setCell _ _ _ (.inl rfl)
  exact ⟨rfl, R5.out.mod hset (fun e => hne e.symm) (fun k e => by rw [e]; exact hdb), set_row _ D5.out, M5.out.trans hset (fun _ _ h => .inr h)⟩
end Go.Proofs.YtohbljgagbnjoaaDoor
