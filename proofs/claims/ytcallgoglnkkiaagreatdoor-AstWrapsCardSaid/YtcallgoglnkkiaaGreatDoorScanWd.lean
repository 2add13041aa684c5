/- The program's own scan.Word: its contract, over the table that the program lays. (Cut out of ScanB, for seats without scan's marks.) -/
import Derived.Test.YtcallgoglnkkiaaGreatDoorScanP
import Derived.Test.YtcallgoglnkkiaaGreatDoorMod
import Derived.LoopTactic
import Derived.LoopNIn
set_option linter.unusedVariables false
namespace Go.Proofs.YtcallgoglnkkiaaGreatDoor
open Go.RowKit

def wordsRow : Array Value := #[.string ⟨#[109, 111, 100, 117, 108, 101]⟩, .string ⟨#[119, 104, 101, 110]⟩, .string ⟨#[99, 97, 115, 101]⟩, .string ⟨#[111, 102]⟩, .string ⟨#[101, 110, 100]⟩, .string ⟨#[116, 114, 121]⟩, .string ⟨#[99, 97, 116, 99, 104]⟩, .string ⟨#[114, 101, 99, 101, 105, 118, 101]⟩, .string ⟨#[97, 102, 116, 101, 114]⟩, .string ⟨#[102, 117, 110]⟩, .string ⟨#[100, 105, 118]⟩, .string ⟨#[114, 101, 109]⟩, .string ⟨#[99, 111, 110, 102, 105, 103]⟩]
def wordAt (k : Nat) : ByteArray := ⟨(wordList.getD k []).toArray⟩
/-- The table of words lies in the program's variable. -/
def WordTab (w : World) : Prop := ∃ t fr, w.heap[1]? = some (.cells wordsRow t fr)
theorem WordTab.under {w w' : World} (h : WordTab w) (hb : Below w.heap.size w w') : WordTab w' := by
  obtain ⟨t, fr, h⟩ := h
  exact ⟨t, fr, (hb.block _ (heap_lt h)).trans h⟩
set_option maxRecDepth 100000 in
theorem words_at (w : World) : ∀ k, k < 13 → (Instr.index 109 (.agg wordsRow) (.int .i64 (k : Nat))).run Tryz.prog w = .ok (.string (wordAt k)) w
  | 0, _ => by kernel_rfl | 1, _ => by kernel_rfl | 2, _ => by kernel_rfl | 3, _ => by kernel_rfl | 4, _ => by kernel_rfl | 5, _ => by kernel_rfl | 6, _ => by kernel_rfl
  | 7, _ => by kernel_rfl | 8, _ => by kernel_rfl | 9, _ => by kernel_rfl | 10, _ => by kernel_rfl | 11, _ => by kernel_rfl | 12, _ => by kernel_rfl
  | k + 13, h => by omega
theorem wordAt_list (k : Nat) : (wordAt k).toList = wordList.getD k [] := by rw [Go.Lib.toList_data]; rfl
theorem wordL_hit (s : ByteArray) (k : Nat) (hk : k < 13) (h : s.toList = (wordAt k).toList) : wordL s.data.toList = true := by
  rw [wordAt_list, Go.Lib.toList_data] at h
  have : ∀ k, k < 13 → wordL (wordList.getD k []) = true := by decide
  rw [h]; exact this k hk
theorem wordL_miss (s : ByteArray) (h : ∀ j, j < 13 → ¬ s.toList = (wordAt j).toList) : wordL s.data.toList = false := by
  cases hw : wordL s.data.toList
  · rfl
  · unfold wordL at hw
    rw [List.any_eq_true] at hw
    obtain ⟨x, hx, he⟩ := hw
    obtain ⟨j, hj, hjx⟩ := List.getElem_of_mem hx
    have hlt : j < 13 := hj
    exact (h j hlt (by rw [wordAt_list, Go.Lib.toList_data, eq_of_beq he, ← hjx, List.getD_eq_getElem?_getD, List.getElem?_eq_getElem hj]; rfl)).elim

set_option maxRecDepth 100000 in
set_option maxHeartbeats 4000000 in
theorem sWord_any (s : ByteArray) (w : World) (hW : WordTab w) : Calls Tryz.prog 105 #[.string s] w fun e w' => e = .returned (.bool (wordL s.data.toList)) ∧ w' = w := by
  obtain ⟨t, fr, hrow⟩ := hW
  go_enter Tryz.func105, Tryz.ntmps105
  go_wp2_with (refine wpList_load_row rfl _ _ rfl 1 rfl _ _ _ _ hrow Tryz.underlying109 rfl (by kernel_rfl) ?_)
  clear hrow
  go_loopw [6] (fun i wr => ∃ k : Nat, k ≤ 13 ∧ i = .int .i64 k ∧ wr = w ∧ Hid (∀ j, j < k → ¬ s.toList = (wordAt j).toList)) (fun i _ => 13 - (intOf i).toNat)
  case atStart => exact ⟨0, by omega, rfl, rfl, fun j hj => by omega⟩
  case round =>
    obtain ⟨k, hk, rfl, hwr, HK⟩ := hrel
    subst wr
    by_cases hlt : k < 13
    · have hi := words_at w k hlt
      have hlt' : (k : Int) < 13 := by omega
      cases hb : (s.toList == (wordAt k).toList)
      · have HB := Lib.hid hb
        go_wp2_with fail
        go_roundw
        case rel =>
          refine ⟨k + 1, by omega, by go_num, trivial, fun j hj => ?_⟩
          rcases Nat.lt_or_ge j k with h | h
          · exact HK.out j h
          · obtain rfl : j = k := by omega
            exact beq_eq_false_iff_ne.1 HB.out
        case measure => simp [intOf]; omega
      · have HB := Lib.hid hb
        go_wp2_with fail
        go_ret
        exact ⟨ret_bool (wordL_hit s k hlt (eq_of_beq HB.out)).symm, rfl⟩
    · obtain rfl : k = 13 := by omega
      go_wp2_with fail
      go_ret
      exact ⟨ret_bool (wordL_miss s HK.out).symm, rfl⟩

end Go.Proofs.YtcallgoglnkkiaaGreatDoor
