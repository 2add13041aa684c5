/- The walk of AtomsOrder: atoms are numbered in the order in which they came in first. -/
import Derived.Test.YtjimnkbgnblanaaDoorAtomsAll
import Derived.Test.YtjimnkbgnblanaaDoorWakes02
import Derived.Test.YtjimnkbgnblanaaDoorStrs
import Derived.Deep.QuietTactic
import Derived.BigQuiet
set_option linter.unusedVariables false
namespace Go.Proofs.YtjimnkbgnblanaaDoor
open Go.RowKit

/-- What holds between two rounds: the table and the row hold the same atoms. -/
def OrdRel (w : World) (tb mb k : Nat) (v2 : Value) (wr : World) : Prop :=
  ∃ rv L, Tbl w.heap.size wr tb mb rv 65536 L ∧ wr.ownsRow w.heap.size 9 1 v2 L.length (L.map .string) ∧ (∀ g, v2.ownBlock = some g → ¬ foot tb mb rv g) ∧ L.length ≤ k ∧ Below w.heap.size w wr

theorem OrdRel.same {w : World} {tb mb k k' : Nat} {v2 : Value} {wr wr' : World} (h : OrdRel w tb mb k v2 wr) (hk : k ≤ k') (hb : Below wr.heap.size wr wr') : OrdRel w tb mb k' v2 wr' := by
  obtain ⟨rv, L, T, R, hsep, hLk, hB⟩ := h
  exact ⟨rv, L, T.below hb, (Mod.of_below (F := fun _ => False) hb).row R (fun _ _ f => f), hsep, by omega, hB.trans (hb.mono hB.size)⟩

set_option maxHeartbeats 4000000 in
set_option maxRecDepth 100000 in
theorem walk_AtomsOrder (v : Value) (w : World) (o : StrsAt w v) (hS : Spans w) :
    Calls Tryd.prog 6 #[v] w fun e w' => e = .returned (.bool true) ∧ Below w.heap.size w w' := by
  obtain ⟨A, n, cap, ss, rfl, hlen, hmax, hc⟩ := o
  unfold maxLen at hmax
  have HC := Lib.hid hc
  have HL := Lib.hid hlen
  clear hc hlen
  by_cases h100 : 100 < n
  · go_enter Tryd.func6, Tryd.ntmps6
    go_wp2_with fail
    refine (wakes_any _ hS).mono ?_
    rintro e w1 ⟨rfl, b1⟩
    go_wp2_with fail
    go_ret
    exact ⟨rfl, b1⟩
  · go_enter Tryd.func6, Tryd.ntmps6
    go_wp2_with fail
    refine (New_yes 65536 (by decide) (by decide) _).mono ?_
    rintro e w1 ⟨mb, tb, rfl, T1, b1⟩
    obtain ⟨i0, hi, hz0, hz1, hz2⟩ := info_parts info_str
    go_wp2_with fail
    go_loopw [5, 6] (fun v2 i wr => ∃ k : Nat, k ≤ n ∧ i = .int .i64 k ∧ OrdRel w tb mb k v2 wr) (fun _ i _ => n - (intOf i).toNat)
    case atStart => exact ⟨0, Nat.zero_le _, rfl, _, [], T1, World.ownsRow_nil _ _ _ _, fun g hg => by simp [Value.ownBlock] at hg, Nat.le_refl _, b1⟩
    case round =>
      obtain ⟨k, hk, rfl, hor⟩ := hrel
      have hor0 := hor
      obtain ⟨rv, L, T, R, hsep, hLk, hB⟩ := hor
      obtain ⟨a2, cap2, rfl⟩ := row_shape R
      have hSr : Spans wr := hS.below hB hS.lt
      by_cases hlt : k < n
      · obtain ⟨s, hs⟩ : ∃ s, ss[k]? = some s := ⟨ss[k]'(by have := HL.out; omega), List.getElem?_eq_getElem _⟩
        obtain ⟨hsz, ad, rfl, had, hcell⟩ := HC.out k s hs
        have hcx : wr.cell? (ad.add k) = some (.string s) := (hB.cell (p := ad.add k) (by rw [add_block]; exact had)).trans hcell
        clear hcell hs
        have hbase : w.heap.size ≤ wr.heap.size := hB.size
        have HB := Lib.hid hB
        clear hB
        cases hm : nameB s 2
        · go_wp2_with fail
          refine (Put_bad T s hsz hSr hm).mono ?_
          rintro e w2 ⟨rfl, b2⟩
          go_wp2_with fail
          go_roundw
          case rel => exact ⟨k + 1, by omega, by go_num, hor0.same (by omega) b2⟩
          case measure => simp [intOf]; omega
        · rcases ents_find L s with ⟨hn, hmem⟩ | ⟨j, hn, hj⟩
          · go_wp2_with fail
            refine (Put_new T s hSr hbase hm hn (by omega) hmem).mono ?_
            rintro e w2 ⟨rfl, rv', T2, m2, k2⟩
            have hlt2 := T2.row.lt
            have R2 : w2.ownsRow w.heap.size 9 1 (.slice a2 L.length cap2) L.length (L.map .string) := m2.row R hsep
            have B2 : Below w.heap.size wr w2 := m2.below hbase (fun i hi => by rcases hi with rfl | rfl | hi; exact T.tlow; exact T.mlow; exact (T.row.lt _ hi).1)
            have hcx2 : w2.cell? (ad.add k) = some (.string s) := (B2.cell (p := ad.add k) (by rw [add_block]; exact had)).trans hcx
            have hsz2 : w.heap.size ≤ w2.heap.size := Nat.le_trans hbase m2.size
            have MS := Lib.hid m2.size
            clear hcx hm hn
            go_wp2_with (at_builtin; refine wpList_append_at _ rfl _ _ 42 rfl w.heap.size 9 i0 (.string ⟨#[]⟩) 1 16 Tryd.underlying42 hi hz0 hz1 hz2 rfl (by decide) _ _ _ rfl (R2.alloc _) ⟨w2.heap.size, 0, none⟩ 1 1 [.string s] rfl (by decide) rfl ?c1 ?c2 ?c3 ?c4 ?c5 ?_)
            case c1 =>
              intro j u hu
              exact cell_one_new _ _ _ j u hu
            case c2 => simp [Value.oneCell']
            case c3 => unfold maxLen; omega
            case c4 => omega
            case c5 => simp; omega
            intro g3 cap3 w3 R3 grow3 hwh
            have esz : (w2.alloc (.cells #[.string s] 9)).heap.size = w2.heap.size + 1 := World.size_alloc _ _
            have hold : ∀ g, (Value.slice a2 L.length cap2).ownBlock = some g → ¬ foot tb mb rv' g := fun g hg => foot_of_new k2 (R.lt g hg).2 (hsep g hg)
            have T3 : Tbl w.heap.size w3 tb mb rv' 65536 (L ++ [s]) :=
              (T2.kept (Mod.alloc (fun _ => False) w2 _) (fun _ _ f => f)).kept (Mod.grown (F := fun g => (Value.slice a2 L.length cap2).ownBlock = some g) grow3 (fun _ _ e => e)) (fun g hf hg => hold g hg hf)
            have hlen3 : (L ++ [s]).length = L.length + 1 := by simp
            have OR : OrdRel w tb mb (k + 1) (.slice (some ⟨g3, 0, none⟩) (L.length + 1) cap3) w3 := by
              refine ⟨rv', L ++ [s], T3, by rw [hlen3, List.map_append]; exact R3, fun g hg => ?_, by omega, ?_⟩
              · simp [Value.ownBlock] at hg
                subst hg
                rcases hwh with hw | hw
                · exact hold _ hw
                · rintro (e | e | e)
                  · have := heap_lt T2.tbl; omega
                  · have := heap_lt T2.map; omega
                  · have := (hlt2 _ e).2; omega
              · exact HB.out.trans (B2.trans (((Below.refl _ w2).alloc hsz2 _).grown grow3 (by rw [esz]; omega) (fun g hg => (R.lt g hg).1)))
            have hcx3 : w3.cell? (ad.add k) = some (.string s) := by
              have h1 : (w2.alloc (.cells #[.string s] 9)).cell? (ad.add k) = some (.string s) := ((Below.refl w2.heap.size w2).alloc (Nat.le_refl _) _).cell (p := ad.add k) (by rw [add_block]; omega) |>.trans hcx2
              refine grow3.cell h1 ?_
              rw [add_block]
              intro e
              have := (R.lt _ e.symm).1
              omega
            have R3' : w3.ownsRow w.heap.size 9 1 (.slice (some ⟨g3, 0, none⟩) (L.length + 1) cap3) (L.length + 1) ((L ++ [s]).map Value.string) := by rw [List.map_append]; exact R3
            obtain ⟨g4, e4, hc3⟩ := row_cell (k := L.length) (s := s) R3' (by simp)
            simp at e4
            subst e4
            have HOR := Lib.hid OR
            have HT := Lib.hid T3
            clear OR T3 hcx2 grow3 hwh esz hlt2
            have hd1 : decide ((L.length : Int) + 1 ≤ (L.length : Int)) = false := decide_eq_false (by omega)
            have hd2 : decide (L.length + 1 ≤ L.length) = false := decide_eq_false (by omega)
            have hd3 : decide (((L.length + 1 : Nat) : Int) ≤ (L.length : Int)) = false := decide_eq_false (by omega)
            have hd4 : decide ((L.length : Int) < 0) = false := decide_eq_false (by omega)
            go_wp2_with fail
            go_quiet ((go_at_call 22; exact Len_quiet HT.out _))
            go_wp2_with fail
            go_roundw
            case rel => exact ⟨k + 1, by omega, by go_num, HOR.out.same (by omega) (Below.drewN_ (Below.refl _ _) _)⟩
            case measure => simp [intOf]; omega
          · go_wp2_with fail
            refine (Put_hit T s hSr hm j hn).mono ?_
            rintro e w2 ⟨rfl, b2⟩
            have T2 := T.below b2
            have R2 : w2.ownsRow w.heap.size 9 1 (.slice a2 L.length cap2) L.length (L.map .string) := (Mod.of_below (F := fun _ => False) b2).row R (fun _ _ f => f)
            obtain ⟨g2, rfl, hc2⟩ := row_cell R2 hj
            have hcx2 : w2.cell? (ad.add k) = some (.string s) := (b2.cell (p := ad.add k) (by rw [add_block]; omega)).trans hcx
            have hjl : j < L.length := (List.getElem?_eq_some_iff.1 hj).1
            have HQ := Lib.hid (Len_any T2)
            clear hcx hm hn hj
            go_wp2_with fail
            go_quiet ((go_at_call 22; exact Len_quiet T2 _))
            go_wp2_with fail
            go_roundw
            case rel => exact ⟨k + 1, by omega, by go_num, hor0.same (by omega) (Below.drewN_ b2 _)⟩
            case measure => simp [intOf]; omega
      · go_wp2_with fail
        refine (goes_same T _ (RowAt.of_own R) 0).mono ?_
        rintro e w2 ⟨rfl, b2⟩
        have B2 := hB.trans (b2.mono hB.size)
        go_wp2_with fail
        refine (wakes_any _ (hS.below B2 hS.lt)).mono ?_
        rintro e w3 ⟨rfl, b3⟩
        go_wp2_with fail
        go_ret
        exact ⟨rfl, B2.trans (b3.mono B2.size)⟩
end Go.Proofs.YtjimnkbgnblanaaDoor
