/- The program's own scan.Word, mark: contracts, over the tables that the program lays. -/
import Derived.Test.YtkaijnbefbggeaaDoorScanA
import Derived.Test.YtkaijnbefbggeaaDoorShelf
set_option linter.unusedVariables false
namespace Go.Proofs.YtkaijnbefbggeaaDoor
open Go.RowKit

def markList : List (List UInt8) := [[45, 62], [61, 58, 61], [61, 47, 61], [61, 60], [62, 61], [60], [62], [61], [43], [45], [42], [40], [41], [91], [93], [123], [125], [44], [59], [124], [58], [47]]
def wordsRow : Array Value := #[.string ⟨#[109, 111, 100, 117, 108, 101]⟩, .string ⟨#[119, 104, 101, 110]⟩, .string ⟨#[99, 97, 115, 101]⟩, .string ⟨#[111, 102]⟩, .string ⟨#[101, 110, 100]⟩, .string ⟨#[116, 114, 121]⟩, .string ⟨#[99, 97, 116, 99, 104]⟩, .string ⟨#[114, 101, 99, 101, 105, 118, 101]⟩, .string ⟨#[97, 102, 116, 101, 114]⟩, .string ⟨#[102, 117, 110]⟩, .string ⟨#[100, 105, 118]⟩, .string ⟨#[114, 101, 109]⟩, .string ⟨#[99, 111, 110, 102, 105, 103]⟩]
def marksRow : Array Value := #[.string ⟨#[45, 62]⟩, .string ⟨#[61, 58, 61]⟩, .string ⟨#[61, 47, 61]⟩, .string ⟨#[61, 60]⟩, .string ⟨#[62, 61]⟩, .string ⟨#[60]⟩, .string ⟨#[62]⟩, .string ⟨#[61]⟩, .string ⟨#[43]⟩, .string ⟨#[45]⟩, .string ⟨#[42]⟩, .string ⟨#[40]⟩, .string ⟨#[41]⟩, .string ⟨#[91]⟩, .string ⟨#[93]⟩, .string ⟨#[123]⟩, .string ⟨#[125]⟩, .string ⟨#[44]⟩, .string ⟨#[59]⟩, .string ⟨#[124]⟩, .string ⟨#[58]⟩, .string ⟨#[47]⟩]
def wordAt (k : Nat) : ByteArray := ⟨(wordList.getD k []).toArray⟩
def markAt (k : Nat) : ByteArray := ⟨(markList.getD k []).toArray⟩

/-- The tables of words and of marks lie in the program's variables. -/
def WordTab (w : World) : Prop := ∃ t fr, w.heap[1]? = some (.cells wordsRow t fr)
def MarkTab (w : World) : Prop := ∃ t fr, w.heap[0]? = some (.cells marksRow t fr)
theorem WordTab.under {w w' : World} (h : WordTab w) (hb : Below w.heap.size w w') : WordTab w' := by
  obtain ⟨t, fr, h⟩ := h
  exact ⟨t, fr, (hb.block _ (heap_lt h)).trans h⟩
theorem MarkTab.under {w w' : World} (h : MarkTab w) (hb : Below w.heap.size w w') : MarkTab w' := by
  obtain ⟨t, fr, h⟩ := h
  exact ⟨t, fr, (hb.block _ (heap_lt h)).trans h⟩

set_option maxRecDepth 100000 in
theorem words_at (w : World) : ∀ k, k < 13 → (Instr.index 57 (.agg wordsRow) (.int .i64 (k : Nat))).run Tryd.prog w = .ok (.string (wordAt k)) w
  | 0, _ => by kernel_rfl | 1, _ => by kernel_rfl | 2, _ => by kernel_rfl | 3, _ => by kernel_rfl | 4, _ => by kernel_rfl | 5, _ => by kernel_rfl | 6, _ => by kernel_rfl
  | 7, _ => by kernel_rfl | 8, _ => by kernel_rfl | 9, _ => by kernel_rfl | 10, _ => by kernel_rfl | 11, _ => by kernel_rfl | 12, _ => by kernel_rfl
  | k + 13, h => by omega
set_option maxRecDepth 100000 in
theorem marks_at (w : World) : ∀ k, k < 22 → (Instr.index 54 (.agg marksRow) (.int .i64 (k : Nat))).run Tryd.prog w = .ok (.string (markAt k)) w
  | 0, _ => by kernel_rfl | 1, _ => by kernel_rfl | 2, _ => by kernel_rfl | 3, _ => by kernel_rfl | 4, _ => by kernel_rfl | 5, _ => by kernel_rfl | 6, _ => by kernel_rfl
  | 7, _ => by kernel_rfl | 8, _ => by kernel_rfl | 9, _ => by kernel_rfl | 10, _ => by kernel_rfl | 11, _ => by kernel_rfl | 12, _ => by kernel_rfl | 13, _ => by kernel_rfl
  | 14, _ => by kernel_rfl | 15, _ => by kernel_rfl | 16, _ => by kernel_rfl | 17, _ => by kernel_rfl | 18, _ => by kernel_rfl | 19, _ => by kernel_rfl | 20, _ => by kernel_rfl | 21, _ => by kernel_rfl
  | k + 22, h => by omega

theorem wordAt_list (k : Nat) : (wordAt k).toList = wordList.getD k [] := by rw [Go.Lib.toList_data]; rfl
theorem wordL_hit (s : ByteArray) (k : Nat) (hk : k < 13) (h : s.toList = (wordAt k).toList) : wordL s.data.toList = true := by
  rw [wordAt_list, Go.Lib.toList_data] at h
  have : ∀ k, k < 13 → wordL (wordList.getD k []) = true := by decide
  rw [h]; exact this k hk
theorem wordL_miss (s : ByteArray) (h : ∀ j, j < 13 → ¬ s.toList = (wordAt j).toList) : wordL s.data.toList = false := by
  cases hw : wordL s.data.toList
  · rfl
  · unfold wordL at hw
    rw [List.any_eq_true] at hw
    obtain ⟨x, hx, he⟩ := hw
    obtain ⟨j, hj, hjx⟩ := List.getElem_of_mem hx
    have hlt : j < 13 := hj
    exact (h j hlt (by rw [wordAt_list, Go.Lib.toList_data, eq_of_beq he, ← hjx, List.getD_eq_getElem?_getD, List.getElem?_eq_getElem hj]; rfl)).elim

/-- The best of the first k marks. -/
def bestM (l : List UInt8) : Nat → List UInt8
  | 0 => []
  | k + 1 => if (bestM l k).length < (markList.getD k []).length ∧ Go.Lib.hasPrefix l (markList.getD k []) = true then markList.getD k [] else bestM l k
theorem bestM_is (l : List UInt8) : ∀ k, k ≤ 22 → bestM l k = [] ∨ (bestM l k ∈ markList ∧ bestM l k <+: l)
  | 0, _ => .inl rfl
  | k + 1, h => by
    rw [bestM]
    split
    · rename_i hc
      refine .inr ⟨?_, List.isPrefixOf_iff_prefix.1 hc.2⟩
      have hk : k < markList.length := h
      rw [List.getD_eq_getElem?_getD, List.getElem?_eq_getElem hk]
      exact List.getElem_mem hk
    · exact bestM_is l k (by omega)
theorem bestM_max (l : List UInt8) : ∀ k j, j < k → markList.getD j [] <+: l → (markList.getD j []).length ≤ (bestM l k).length
  | k + 1, j, hj, hp => by
    rw [bestM]
    rcases Nat.lt_or_ge j k with h | h
    · have ih := bestM_max l k j h hp
      split
      · rename_i hc; omega
      · exact ih
    · obtain rfl : j = k := by omega
      split
      · exact Nat.le_refl _
      · rename_i hc
        have hc' : ¬ (bestM l j).length < (markList.getD j []).length := fun h => hc ⟨h, List.isPrefixOf_iff_prefix.2 hp⟩
        omega
theorem bestM_mem {l m : List UInt8} (hm : m ∈ markList) (hp : m <+: l) : m.length ≤ (bestM l 22).length := by
  obtain ⟨j, hj, hjx⟩ := List.getElem_of_mem hm
  have e : markList.getD j [] = m := by rw [List.getD_eq_getElem?_getD, List.getElem?_eq_getElem hj, hjx]; rfl
  have := bestM_max l 22 j hj (by rw [e]; exact hp)
  rwa [e] at this
theorem mark_kinds : ∀ m ∈ markList, (m.length = 3 ∧ (m = [61, 58, 61] ∨ m = [61, 47, 61])) ∨ (m.length = 2 ∧ (m = [45, 62] ∨ m = [61, 60] ∨ m = [62, 61])) ∨ (m.length = 1 ∧ oneL (m.headD 0) = true ∧ m = [m.headD 0]) := by decide
theorem oneL_mem {b : UInt8} (h : oneL b = true) : [b] ∈ markList := by
  have hb : ∀ c : UInt8, (b.toNat : Int) = (c.toNat : Int) → b = c := fun c e => UInt8.toNat_inj.1 (by omega)
  unfold oneL at h
  simp only [List.any_cons, List.any_nil, Bool.or_eq_true, beq_iff_eq, Bool.or_false] at h
  rcases h with h | h | h | h | h | h | h | h | h | h | h | h | h | h | h | h | h
  · rw [hb 60 h]; decide
  · rw [hb 62 h]; decide
  · rw [hb 61 h]; decide
  · rw [hb 43 h]; decide
  · rw [hb 45 h]; decide
  · rw [hb 42 h]; decide
  · rw [hb 40 h]; decide
  · rw [hb 41 h]; decide
  · rw [hb 91 h]; decide
  · rw [hb 93 h]; decide
  · rw [hb 123 h]; decide
  · rw [hb 125 h]; decide
  · rw [hb 44 h]; decide
  · rw [hb 59 h]; decide
  · rw [hb 124 h]; decide
  · rw [hb 58 h]; decide
  · rw [hb 47 h]; decide
theorem pre_take {l m : List UInt8} (h : m <+: l) : l.take m.length = m := (List.prefix_iff_eq_take.1 h).symm
theorem take_pre {l m : List UInt8} (n : Nat) (h : l.take n = m) : m <+: l := by rw [← h]; exact List.take_prefix _ _
theorem best_len (l : List UInt8) : (bestM l 22).length = markL l := by
  have hB := bestM_is l 22 (Nat.le_refl _)
  unfold markL
  split
  · rename_i h
    have h3 : 3 ≤ (bestM l 22).length := by
      rcases h with h | h
      · exact bestM_mem (m := [61, 58, 61]) (by decide) (take_pre 3 h)
      · exact bestM_mem (m := [61, 47, 61]) (by decide) (take_pre 3 h)
    rcases hB with e | ⟨hm, hp⟩
    · rw [e] at h3; simp at h3
    · rcases mark_kinds _ hm with k | k | k <;> omega
  · rename_i n3
    split
    · rename_i h
      have h2 : 2 ≤ (bestM l 22).length := by
        rcases h with h | h | h
        · exact bestM_mem (m := [45, 62]) (by decide) (take_pre 2 h)
        · exact bestM_mem (m := [61, 60]) (by decide) (take_pre 2 h)
        · exact bestM_mem (m := [62, 61]) (by decide) (take_pre 2 h)
      rcases hB with e | ⟨hm, hp⟩
      · rw [e] at h2; simp at h2
      · rcases mark_kinds _ hm with k | k | k
        · exact (n3 (by have := pre_take hp; rw [k.1] at this; rw [this]; exact k.2)).elim
        · omega
        · omega
    · rename_i n2
      have no : ∀ n, (bestM l 22).length = n → n = 0 ∨ (n = 1 ∧ ∃ b t, l = b :: t ∧ oneL b = true) := by
        intro n hn
        rcases hB with e | ⟨hm, hp⟩
        · rw [e] at hn; exact .inl hn.symm
        · rcases mark_kinds _ hm with k | k | k
          · exact (n3 (by have := pre_take hp; rw [k.1] at this; rw [this]; exact k.2)).elim
          · exact (n2 (by have := pre_take hp; rw [k.1] at this; rw [this]; exact k.2)).elim
          · refine .inr ⟨by omega, ?_⟩
            rw [k.2.2] at hp
            obtain ⟨t, ht⟩ := hp
            exact ⟨_, t, ht.symm, k.2.1⟩
      cases l with
      | nil =>
        rcases no _ rfl with h | ⟨_, b, t, h, _⟩
        · exact h
        · cases h
      | cons b t =>
        dsimp only
        split
        · rename_i h1
          have := bestM_mem (oneL_mem h1) (l := b :: t) ⟨t, rfl⟩
          rcases no _ rfl with h | ⟨h, _⟩
          · rw [h] at this; simp at this
          · exact h
        · rename_i h1
          rcases no _ rfl with h | ⟨_, b', t', h, h2⟩
          · exact h
          · cases h; exact (h1 h2).elim
theorem best_mark (l : List UInt8) : bestM l 22 = l.take (markL l) := by
  rw [← best_len]
  rcases bestM_is l 22 (Nat.le_refl _) with e | ⟨hm, hp⟩
  · rw [e]; rfl
  · exact (pre_take hp).symm
theorem best_short (l : List UInt8) : ∀ k, k ≤ 22 → (bestM l k).length ≤ 3 := fun k h => by
  rcases bestM_is l k h with e | ⟨hm, hp⟩
  · rw [e]; simp
  · rcases mark_kinds _ hm with k | k | k <;> omega

set_option maxRecDepth 100000 in
set_option maxHeartbeats 4000000 in
theorem sWord_any (s : ByteArray) (w : World) (hW : WordTab w) : Calls Tryd.prog 28 #[.string s] w fun e w' => e = .returned (.bool (wordL s.data.toList)) ∧ w' = w := by
  obtain ⟨t, fr, hrow⟩ := hW
  go_enter Tryd.func28, Tryd.ntmps28
  go_wp2_with (refine wpList_load_row rfl _ _ rfl 1 rfl _ _ _ _ hrow Tryd.underlying57 rfl (by kernel_rfl) ?_)
  clear hrow
  go_loopw [6] (fun i wr => ∃ k : Nat, k ≤ 13 ∧ i = .int .i64 k ∧ wr = w ∧ Hid (∀ j, j < k → ¬ s.toList = (wordAt j).toList)) (fun i _ => 13 - (intOf i).toNat)
  case atStart => exact ⟨0, by omega, rfl, rfl, fun j hj => by omega⟩
  case round =>
    obtain ⟨k, hk, rfl, hwr, HK⟩ := hrel
    subst wr
    by_cases hlt : k < 13
    · have hi := words_at w k hlt
      have hlt' : (k : Int) < 13 := by omega
      cases hb : (s.toList == (wordAt k).toList)
      · have HB := Lib.hid hb
        go_wp2_with fail
        go_roundw
        case rel =>
          refine ⟨k + 1, by omega, by go_num, trivial, fun j hj => ?_⟩
          rcases Nat.lt_or_ge j k with h | h
          · exact HK.out j h
          · obtain rfl : j = k := by omega
            exact beq_eq_false_iff_ne.1 HB.out
        case measure => simp [intOf]; omega
      · have HB := Lib.hid hb
        go_wp2_with fail
        go_ret
        exact ⟨ret_bool (wordL_hit s k hlt (eq_of_beq HB.out)).symm, rfl⟩
    · obtain rfl : k = 13 := by omega
      go_wp2_with fail
      go_ret
      exact ⟨ret_bool (wordL_miss s HK.out).symm, rfl⟩

def markR (l : List UInt8) : SR := if markL l = 0 then .bad 60 else .tok 3 0 (markL l) (markL l)
set_option maxRecDepth 100000 in
set_option maxHeartbeats 4000000 in
theorem smark_any (s : ByteArray) (w : World) (hs : s.size ≤ 1000000) (hM : MarkTab w) : Calls Tryd.prog 24 #[.string s] w fun e w' => e = .returned ((markR s.data.toList).tup s.data.toList) ∧ Below w.heap.size w w' := by
  obtain ⟨w2, hw2⟩ : ∃ w2, w2 = w.alloc (.cells #[.int .i8 0, .int .i64 0, .string ⟨#[]⟩, .int .i64 0] 25) := ⟨_, rfl⟩
  have b2 : Below w.heap.size w w2 := by rw [hw2]; exact (Below.refl _ _).alloc (Nat.le_refl _) _
  have g2 : w2.heap[w.heap.size]? = some (.cells #[.int .i8 0, .int .i64 0, .string ⟨#[]⟩, .int .i64 0] 25 (0, 0)) := by rw [hw2]; exact block_alloc _ _
  obtain ⟨t, fr, hrow⟩ := hM.under b2
  have HB2 := Lib.hid b2
  have HG2 := Lib.hid g2
  clear b2 g2 hM
  subst hw2
  go_enter Tryd.func24, Tryd.ntmps24
  go_wp2_with (refine wpList_load_row rfl _ _ rfl 0 rfl _ _ _ _ hrow Tryd.underlying54 rfl (by kernel_rfl) ?_)
  generalize w.alloc (.cells #[.int .i8 0, .int .i64 0, .string ⟨#[]⟩, .int .i64 0] 25) = w2 at HB2 HG2 ⊢
  clear hrow
  go_loopw [5, 9] (fun lv i wr => ∃ (k : Nat) (b : ByteArray), k ≤ 22 ∧ lv = .string b ∧ i = .int .i64 k ∧ wr = w2 ∧ Hid (b.data.toList = bestM s.data.toList k)) (fun _ i _ => 22 - (intOf i).toNat)
  case atStart => exact ⟨0, ⟨#[]⟩, by omega, rfl, rfl, rfl, rfl⟩
  case round =>
    obtain ⟨k, b, hk, rfl, rfl, hwr, HK⟩ := hrel
    subst wr
    have hb3 : b.size ≤ 3 := by have := best_short s.data.toList k hk; rw [← HK.out, size_list] at this; exact this
    by_cases hlt : k < 22
    · have hi := marks_at w2 k hlt
      have hlt' : (k : Int) < 22 := by omega
      have HPC : Hid (Calls Tryd.prog 32 #[.string s, .string (markAt k)] w2 fun e w' => e = .returned (.bool (Go.Lib.hasPrefix s.data.toList (markAt k).data.toList)) ∧ w' = w2) := Tryd.strings_HasPrefix s (markAt k) w2
      have HL : Hid ((markAt k).data.toList = markList.getD k []) := rfl
      by_cases hsz : b.size < (markAt k).size
      · have hln : (bestM s.data.toList k).length < (markList.getD k []).length := by rw [← HK.out, ← HL.out, size_list, size_list]; exact hsz
        have HLN := Lib.hid hln
        clear hln
        cases hb : Go.Lib.hasPrefix s.data.toList (markAt k).data.toList
        · rw [hb] at HPC
          have HBB : Hid (b.data.toList = bestM s.data.toList (k + 1)) := by
            show _ = _
            rw [bestM, if_neg (fun h => by have h2 := h.2; rw [← HL.out, hb] at h2; cases h2)]
            exact HK.out
          clear hb HK
          go_wp2_with fail
          refine HPC.out.mono ?_
          rintro e w3 ⟨rfl, rfl⟩
          go_wp2_with fail
          go_roundw
          case rel => exact ⟨k + 1, b, by omega, rfl, by go_num, trivial, HBB⟩
          case measure => simp [intOf]; omega
        · rw [hb] at HPC
          have HBB : Hid ((markAt k).data.toList = bestM s.data.toList (k + 1)) := by
            show _ = _
            rw [bestM, if_pos ⟨HLN.out, by rw [← HL.out]; exact hb⟩]
            exact HL.out
          clear hb HK
          go_wp2_with fail
          refine HPC.out.mono ?_
          rintro e w3 ⟨rfl, rfl⟩
          go_wp2_with fail
          go_roundw
          case rel => exact ⟨k + 1, markAt k, by omega, rfl, by go_num, trivial, HBB⟩
          case measure => simp [intOf]; omega
      · have HBB : Hid (b.data.toList = bestM s.data.toList (k + 1)) := by
          show _ = _
          rw [bestM, if_neg (fun h => hsz (by have h1 := h.1; rw [← HK.out, ← HL.out, size_list, size_list] at h1; exact h1))]
          exact HK.out
        clear HK
        go_wp2_with fail
        go_roundw
        case rel => exact ⟨k + 1, b, by omega, rfl, by go_num, trivial, HBB⟩
        case measure => simp [intOf]; omega
    · obtain rfl : k = 22 := by omega
      have x0 : w2.cell? ⟨w.heap.size, 0, none⟩ = some (.int .i8 0) := cell_of_row HG2.out rfl
      have x1 : w2.cell? ⟨w.heap.size, 1, none⟩ = some (.int .i64 0) := cell_of_row HG2.out rfl
      have x2 : w2.cell? ⟨w.heap.size, 2, none⟩ = some (.string ⟨#[]⟩) := cell_of_row HG2.out rfl
      have x3 : w2.cell? ⟨w.heap.size, 3, none⟩ = some (.int .i64 0) := cell_of_row HG2.out rfl
      have fx0 : w2.frozen? ⟨w.heap.size, 0, none⟩ = false := free_of_row HG2.out
      have fx1 : w2.frozen? ⟨w.heap.size, 1, none⟩ = false := free_of_row HG2.out
      have fx2 : w2.frozen? ⟨w.heap.size, 2, none⟩ = false := free_of_row HG2.out
      have fx3 : w2.frozen? ⟨w.heap.size, 3, none⟩ = false := free_of_row HG2.out
      cases he : b.toList.isEmpty
      · have hne : ¬ markL s.data.toList = 0 := fun h => by
          have h2 := HK.out
          rw [best_mark, h, List.take_zero, ← Go.Lib.toList_data] at h2
          rw [h2] at he
          cases he
        have hsz : b.size = markL s.data.toList := by rw [← size_list, HK.out, best_len]
        have hbb : b = ⟨(s.data.toList.take (markL s.data.toList)).toArray⟩ := by
          apply ByteArray.ext
          apply Array.toList_inj.1
          rw [HK.out, best_mark]
        have hnil : ¬ b.toList = [] := fun h => by rw [h] at he; cases he
        have HNE := Lib.hid hne
        have HSZ := Lib.hid hsz
        have HBB := Lib.hid hbb
        clear hne hsz hbb
        go_wp2_with fail
        obtain ⟨s4, m7⟩ := fin4 (.int .i8 3) (.int .i64 0) (.string b) (.int .i64 0) HG2.out HB2.out
        generalize ((((w2.setCell ⟨w.heap.size, 0, none⟩ (.int .i8 3)).setCell ⟨w.heap.size, 1, none⟩ (.int .i64 0)).setCell ⟨w.heap.size, 2, none⟩ (.string b)).setCell ⟨w.heap.size, 3, none⟩ (.int .i64 0)) = w7 at s4 m7 ⊢
        clear x0 x1 x2 x3 fx0 fx1 fx2 fx3
        have x0 : w7.cell? ⟨w.heap.size, 0, none⟩ = some (.int .i8 3) := cell_of_row s4 rfl
        have x1 : w7.cell? ⟨w.heap.size, 1, none⟩ = some (.int .i64 0) := cell_of_row s4 rfl
        have x2 : w7.cell? ⟨w.heap.size, 2, none⟩ = some (.string b) := cell_of_row s4 rfl
        have x3 : w7.cell? ⟨w.heap.size, 3, none⟩ = some (.int .i64 0) := cell_of_row s4 rfl
        have HM7 := Lib.hid m7
        clear s4 m7
        refine bodyPost_ret (v := .tuple #[Tk.v ⟨3, 0, b, 0⟩, .int .i64 b.size, .int .i64 0]) (by simp [results, Tryd.f24, go_sem, x0, x1, x2, x3, Tk.v]) rfl ⟨by unfold markR; rw [if_neg HNE.out, SR.tup, HSZ.out, ← HBB.out], HM7.out⟩
      · have hnil : b.toList = [] := List.isEmpty_iff.1 he
        have hz : markL s.data.toList = 0 := by rw [← best_len, ← HK.out, ← Go.Lib.toList_data, hnil]; rfl
        have HZ := Lib.hid hz
        clear hz
        go_wp2_with fail
        obtain ⟨s4, m7⟩ := fin4 (.int .i8 0) (.int .i64 0) (.string ⟨#[]⟩) (.int .i64 0) HG2.out HB2.out
        generalize ((((w2.setCell ⟨w.heap.size, 0, none⟩ (.int .i8 0)).setCell ⟨w.heap.size, 1, none⟩ (.int .i64 0)).setCell ⟨w.heap.size, 2, none⟩ (.string ⟨#[]⟩)).setCell ⟨w.heap.size, 3, none⟩ (.int .i64 0)) = w7 at s4 m7 ⊢
        clear x0 x1 x2 x3 fx0 fx1 fx2 fx3
        have x0 : w7.cell? ⟨w.heap.size, 0, none⟩ = some (.int .i8 0) := cell_of_row s4 rfl
        have x1 : w7.cell? ⟨w.heap.size, 1, none⟩ = some (.int .i64 0) := cell_of_row s4 rfl
        have x2 : w7.cell? ⟨w.heap.size, 2, none⟩ = some (.string ⟨#[]⟩) := cell_of_row s4 rfl
        have x3 : w7.cell? ⟨w.heap.size, 3, none⟩ = some (.int .i64 0) := cell_of_row s4 rfl
        have HM7 := Lib.hid m7
        clear s4 m7
        refine bodyPost_ret (v := SR.tup s.data.toList (.bad 60)) (by simp [results, Tryd.f24, go_sem, x0, x1, x2, x3, SR.tup, Tk.v, tk0]) rfl ⟨by unfold markR; rw [if_pos HZ.out], HM7.out⟩
end Go.Proofs.YtkaijnbefbggeaaDoor
