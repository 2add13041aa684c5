/- The walk of AtomsPlays: atoms put, asked for, told by numbers, act by act, beside the document's own table. -/
import Derived.Test.YtjimnkbgnblanaaDoorRefTable02
import Derived.Test.YtjimnkbgnblanaaDoorWakes02
import Derived.Test.YtjimnkbgnblanaaDoorActs02
set_option linter.unusedVariables false
namespace Go.Proofs.YtjimnkbgnblanaaDoor
open Go.RowKit

/-- Where an atom stands. -/
def idxL (L : List ByteArray) (s : ByteArray) : Option Nat := L.findIdx? (· == s)
theorem idxL_some {L : List ByteArray} {s : ByteArray} {j : Nat} (h : idxL L s = some j) : L[j]? = some s := by
  unfold idxL at h
  obtain ⟨h1, h2, _⟩ := List.findIdx?_eq_some_iff_getElem.1 h
  rw [List.getElem?_eq_getElem h1, (MapKept.bytes_beq _ _).1 h2]
theorem idxL_none {L : List ByteArray} {s : ByteArray} (h : idxL L s = none) : s ∉ L := by
  unfold idxL at h
  rw [List.findIdx?_eq_none_iff] at h
  intro hs
  have := h s hs
  rw [(MapKept.bytes_beq s s).2 rfl] at this
  cases this
theorem find_some {L : List ByteArray} {s : ByteArray} {j : Nat} (h : idxL L s = some j) (hN : L.Nodup) : Instr.findNow .string (.string s) (ents L).toList 0 = some (some (j, .int .i64 (j : Int))) := by
  have hj := idxL_some h
  rcases ents_find L s with ⟨_, hmem⟩ | ⟨j', hn, hj'⟩
  · exact absurd (List.mem_of_getElem? hj) hmem
  · obtain rfl := (List.getElem?_inj (List.getElem?_eq_some_iff.1 hj').1 hN).1 (hj'.trans hj.symm)
    exact hn
theorem find_none {L : List ByteArray} {s : ByteArray} (h : idxL L s = none) : Instr.findNow .string (.string s) (ents L).toList 0 = some none := by
  rcases ents_find L s with ⟨hn, _⟩ | ⟨j', _, hj'⟩
  · exact hn
  · exact absurd (List.mem_of_getElem? hj') (idxL_none h)

/-- What Put answers, and what it leaves. -/
def putR (most : Int) (L : List ByteArray) (s : ByteArray) : Int × Int :=
  if nameB s 2 = false then (0, 2) else match idxL L s with
    | some j => (j, 0)
    | none => if most ≤ L.length then (0, 20) else (L.length, 0)
def putL (most : Int) (L : List ByteArray) (s : ByteArray) : List ByteArray :=
  if nameB s 2 = false then L else match idxL L s with
    | some _ => L
    | none => if most ≤ L.length then L else L ++ [s]
def ofR (L : List ByteArray) (s : ByteArray) : Int × Bool := match idxL L s with | some j => (j, true) | none => (0, false)
def textR (L : List ByteArray) (n : Int) : ByteArray × Int := if n < 0 then (⟨#[]⟩, 4) else match L[n.toNat]? with | some s => (s, 0) | none => (⟨#[]⟩, 4)

def PutP (base tb mb : Nat) (rv : Value) (most : Int) (L : List ByteArray) (s : ByteArray) (w : World) (e : Ending) (w' : World) : Prop :=
  e = .returned (.tuple #[.int .i64 (putR most L s).1, .int .i64 (putR most L s).2]) ∧ ∃ rv', Tbl base w' tb mb rv' most (putL most L s) ∧ Mod (foot tb mb rv) w w' ∧ ∀ k, rv'.ownBlock = some k → rv.ownBlock = some k ∨ w.heap.size ≤ k
def RPutP (base tb : Nat) (rv : Value) (most : Int) (L : List ByteArray) (s : ByteArray) (w : World) (e : Ending) (w' : World) : Prop :=
  e = .returned (.tuple #[.int .i64 (putR most L s).1, .int .i64 (putR most L s).2]) ∧ ∃ rv', RTb base w' tb rv' most (putL most L s) ∧ Mod (rfoot tb rv) w w' ∧ ∀ k, rv'.ownBlock = some k → rv.ownBlock = some k ∨ w.heap.size ≤ k

theorem Put_is {base : Nat} {w : World} {tb mb : Nat} {rv : Value} {most : Int} {L : List ByteArray} (h : Tbl base w tb mb rv most L) (s : ByteArray) (hsz : s.size ≤ maxLen) (hS : Spans w) (hbase : base ≤ w.heap.size) :
    Calls Tryd.prog 16 #[.pointer (some ⟨tb, 0, none⟩), .string s] w (PutP base tb mb rv most L s w) := by
  unfold PutP putR putL
  cases hm : nameB s 2
  · exact (Put_bad h s hsz hS hm).mono fun e w' ⟨he, hb⟩ => ⟨by simpa using he, rv, by simpa using h.below hb, Mod.of_below hb, fun k hk => .inl hk⟩
  · cases hi : idxL L s with
    | some j => exact (Put_hit h s hS hm j (find_some hi h.nodup)).mono fun e w' ⟨he, hb⟩ => ⟨by simpa using he, rv, by simpa using h.below hb, Mod.of_below hb, fun k hk => .inl hk⟩
    | none =>
      by_cases hf : most ≤ L.length
      · exact (Put_full h s hS hm (find_none hi) hf).mono fun e w' ⟨he, hb⟩ => ⟨by simpa [hf] using he, rv, by simpa [hf] using h.below hb, Mod.of_below hb, fun k hk => .inl hk⟩
      · exact (Put_new h s hS hbase hm (find_none hi) (by omega) (idxL_none hi)).mono fun e w' ⟨he, rv', T, m, k⟩ => ⟨by simpa [hf] using he, rv', by simpa [hf] using T, m, k⟩

theorem rPut_is {base : Nat} {w : World} {tb : Nat} {rv : Value} {most : Int} {L : List ByteArray} (h : RTb base w tb rv most L) (s : ByteArray) (hsz : s.size ≤ maxLen) (hbase : base ≤ w.heap.size) (hN : L.Nodup) :
    Calls Tryd.prog 17 #[.pointer (some ⟨tb, 0, none⟩), .string s] w (RPutP base tb rv most L s w) := by
  unfold RPutP putR putL
  cases hm : nameB s 2
  · exact (rPut_bad h s hsz hm).mono fun e w' ⟨he, hb⟩ => by subst hb; exact ⟨by simpa using he, rv, by simpa using h, Mod.refl _ _, fun k hk => .inl hk⟩
  · cases hi : idxL L s with
    | some j => exact (rPut_hit h s hm j (idxL_some hi) hN).mono fun e w' ⟨he, hb⟩ => by subst hb; exact ⟨by simpa using he, rv, by simpa using h, Mod.refl _ _, fun k hk => .inl hk⟩
    | none =>
      by_cases hf : most ≤ L.length
      · exact (rPut_full h s hm (idxL_none hi) hf).mono fun e w' ⟨he, hb⟩ => ⟨by simpa [hf] using he, rv, by simpa [hf] using h.below hb, Mod.of_below hb, fun k hk => .inl hk⟩
      · exact (rPut_new h s hbase hm (idxL_none hi) (by omega)).mono fun e w' ⟨he, rv', T, m, k⟩ => ⟨by simpa [hf] using he, rv', by simpa [hf] using T, m, k⟩

theorem Of_is {base : Nat} {w : World} {tb mb : Nat} {rv : Value} {most : Int} {L : List ByteArray} (h : Tbl base w tb mb rv most L) (s : ByteArray) :
    Calls Tryd.prog 18 #[.pointer (some ⟨tb, 0, none⟩), .string s] w fun e w' => e = .returned (.tuple #[.int .i64 (ofR L s).1, .bool (ofR L s).2]) ∧ w = w' := by
  unfold ofR
  cases hi : idxL L s with
  | some j => exact Of_hit h s j (find_some hi h.nodup)
  | none => exact Of_miss h s (find_none hi)
theorem rOf_is {base : Nat} {w : World} {tb : Nat} {rv : Value} {most : Int} {L : List ByteArray} (h : RTb base w tb rv most L) (s : ByteArray) (hN : L.Nodup) :
    Calls Tryd.prog 19 #[.pointer (some ⟨tb, 0, none⟩), .string s] w fun e w' => e = .returned (.tuple #[.int .i64 (ofR L s).1, .bool (ofR L s).2]) ∧ w = w' := by
  unfold ofR
  cases hi : idxL L s with
  | some j => exact rOf_hit h s j (idxL_some hi) hN
  | none => exact rOf_miss h s (idxL_none hi)
theorem Text_is {base : Nat} {w : World} {tb mb : Nat} {rv : Value} {most : Int} {L : List ByteArray} (h : Tbl base w tb mb rv most L) (n : Int) :
    Calls Tryd.prog 20 #[.pointer (some ⟨tb, 0, none⟩), .int .i64 n] w fun e w' => e = .returned (.tuple #[.string (textR L n).1, .int .i64 (textR L n).2]) ∧ w = w' := by
  unfold textR
  by_cases hn : n < 0
  · rw [if_pos hn]; exact Text_no h n (.inl hn)
  · rw [if_neg hn]
    obtain ⟨k, rfl⟩ : ∃ k : Nat, n = k := ⟨n.toNat, by omega⟩
    simp only [Int.toNat_natCast]
    cases hk : L[k]? with
    | some s => exact Text_at h k s hk
    | none => exact Text_no h k (.inr (by rw [List.getElem?_eq_none_iff] at hk; omega))
theorem rText_is {base : Nat} {w : World} {tb : Nat} {rv : Value} {most : Int} {L : List ByteArray} (h : RTb base w tb rv most L) (n : Int) :
    Calls Tryd.prog 21 #[.pointer (some ⟨tb, 0, none⟩), .int .i64 n] w fun e w' => e = .returned (.tuple #[.string (textR L n).1, .int .i64 (textR L n).2]) ∧ w = w' := by
  unfold textR
  by_cases hn : n < 0
  · rw [if_pos hn]; exact rText_no h n (.inl hn)
  · rw [if_neg hn]
    obtain ⟨k, rfl⟩ : ∃ k : Nat, n = k := ⟨n.toNat, by omega⟩
    simp only [Int.toNat_natCast]
    cases hk : L[k]? with
    | some s => exact rText_at h k s hk
    | none => exact rText_no h k (.inr (by rw [List.getElem?_eq_none_iff] at hk; omega))

/-- What holds between two acts: both tables hold the same atoms. -/
def PlayRel (w : World) (tb mb rtb : Nat) (most : Int) (wr : World) : Prop :=
  ∃ rv rv2 L, Tbl w.heap.size wr tb mb rv most L ∧ RTb w.heap.size wr rtb rv2 most L ∧ (∀ g, rfoot rtb rv2 g → ¬ foot tb mb rv g) ∧ Below w.heap.size w wr

theorem own_lower {w : World} {base base' : Nat} {e : TypeId} {size : Nat} {v : Value} {n : Nat} {xs : List Value} (h : w.ownsRow base e size v n xs) (hb : base' ≤ base) : w.ownsRow base' e size v n xs := by
  refine ⟨h.1, ?_⟩
  rcases h.2 with hn | ⟨g, cap, cur, rfl, hg, r⟩
  · exact .inl hn
  · exact .inr ⟨g, cap, cur, rfl, Nat.le_trans hb hg, r⟩
theorem RTb.lower {base base' : Nat} {w : World} {tb : Nat} {rv : Value} {most : Int} {L : List ByteArray} (h : RTb base w tb rv most L) (hb : base' ≤ base) : RTb base' w tb rv most L :=
  ⟨h.tbl, own_lower h.row hb, h.len, h.most, Nat.le_trans hb h.tlow⟩

theorem add_field (ad : Addr) (i j : Nat) : ad.add (i + (j + 1)) = ⟨(ad.add i).block, (ad.add i).off + (j + 1), none⟩ := by
  unfold Addr.add
  by_cases h : i = 0
  · subst h; simp
  · simp [h, Nat.add_assoc]

theorem PlayRel.same {w : World} {tb mb rtb : Nat} {most : Int} {wr wr' : World} (h : PlayRel w tb mb rtb most wr) (hb : Below wr.heap.size wr wr') : PlayRel w tb mb rtb most wr' := by
  obtain ⟨rv, rv2, L, T, R, hsep, hB⟩ := h
  exact ⟨rv, rv2, L, T.below hb, R.below hb, hsep, hB.trans (hb.mono hB.size)⟩

set_option maxHeartbeats 4000000 in
set_option maxRecDepth 100000 in
theorem walk_AtomsPlays (most : Int) (v : Value) (leave : Int) (_w0 : (Lit.int .i64 most).wf = true) (_w2 : (Lit.int .i64 leave).wf = true) (w : World) (o : ActsAt w v) (hS : Spans w) :
    Calls Tryd.prog 4 #[.int .i64 most, v, .int .i64 leave] w fun e w' => e = .returned (.bool true) ∧ Below w.heap.size w w' := by
  obtain ⟨A, n, cap, al, rfl, hlen, hmax, hc⟩ := o
  unfold maxLen at hmax
  have HC := Lib.hid hc
  have HL := Lib.hid hlen
  clear hc hlen
  by_cases h200 : 200 < n
  · go_enter Tryd.func4, Tryd.ntmps4
    go_wp2_with fail
    refine (wakes_any _ hS).mono ?_
    rintro e w1 ⟨rfl, b1⟩
    go_wp2_with fail
    go_ret
    exact ⟨rfl, b1⟩
  · by_cases hm : most < 1 ∨ 65536 < most
    · have HM := Lib.hid hm
      clear hm
      go_enter Tryd.func4, Tryd.ntmps4
      go_wp2_with fail
      refine (New_no most HM.out _).mono ?_
      rintro e w1 ⟨rfl, rfl⟩
      go_wp2_with fail
      refine (rNew_no most HM.out _).mono ?_
      rintro e w1 ⟨rfl, rfl⟩
      go_wp2_with fail
      go_loopw [11] (fun i wr => i = .int .i64 0 ∧ wr = w) (fun _ _ => 0)
      case atStart => exact ⟨rfl, rfl⟩
      case round =>
        obtain ⟨rfl, rfl⟩ := hrel
        by_cases h0 : 0 < n
        all_goals
          go_wp2_with fail
          refine (wakes_any _ hS).mono ?_
          rintro e w1 ⟨rfl, b1⟩
          go_wp2_with fail
          go_ret
          exact ⟨rfl, b1⟩
    · go_enter Tryd.func4, Tryd.ntmps4
      go_wp2_with fail
      refine (New_yes most (by omega) (by omega) _).mono ?_
      rintro e w1 ⟨mb, tb, rfl, T1, b1⟩
      go_wp2_with fail
      refine (rNew_yes most (by omega) (by omega) _).mono ?_
      rintro e w2 ⟨rtb, rfl, R2, b2⟩
      have hrel0 : PlayRel w tb mb rtb most w2 := by
        refine ⟨_, _, [], T1.below b2, R2.lower b1.size, fun g hg hf => ?_, b1.trans (b2.mono b1.size)⟩
        have h1 := heap_lt T1.tbl
        have h2 := heap_lt T1.map
        have h3 := R2.tlow
        rcases hg with rfl | hg
        · rcases hf with rfl | rfl | hf
          · omega
          · omega
          · simp [Value.ownBlock] at hf
        · simp [Value.ownBlock] at hg
      have HR0 := Lib.hid hrel0
      clear hrel0
      go_wp2_with fail
      go_loopw [11] (fun i wr => ∃ k : Nat, k ≤ n ∧ i = .int .i64 k ∧ PlayRel w tb mb rtb most wr) (fun i _ => n - (intOf i).toNat)
      case atStart => exact ⟨0, Nat.zero_le _, rfl, HR0.out⟩
      case round =>
        obtain ⟨k, hk, rfl, rv, rv2, L, T, R, hsep, hB⟩ := hrel
        have hSr : Spans wr := hS.below hB hS.lt
        have hbase : w.heap.size ≤ wr.heap.size := hB.size
        by_cases hlt : k < n
        · obtain ⟨a, ha⟩ : ∃ a, al[k]? = some a := ⟨al[k]'(by have := HL.out; omega), List.getElem?_eq_getElem _⟩
          obtain ⟨hsz, ad, rfl, had, c0, c1, c2⟩ := HC.out k a ha
          have k0 : wr.cell? (ad.add (k * 3)) = some (.int .i64 a.1) := (hB.cell (p := ad.add (k * 3)) (by rw [add_block]; exact had)).trans c0
          have k1 : wr.cell? (ad.add (k * 3 + 1)) = some (.string a.2.1) := (hB.cell (p := ad.add (k * 3 + 1)) (by rw [add_block]; exact had)).trans c1
          have k2 : wr.cell? (ad.add (k * 3 + 2)) = some (.int .i64 a.2.2) := (hB.cell (p := ad.add (k * 3 + 2)) (by rw [add_block]; exact had)).trans c2
          obtain ⟨d, s, m⟩ := a
          dsimp only at k0 k1 k2 hsz
          have hb0 : (ad.add (k * 3)).block < wr.heap.size := by rw [add_block]; omega
          rw [add_field ad (k * 3) 0] at k1
          rw [add_field ad (k * 3) 1] at k2
          simp only [Nat.zero_add, Nat.reduceAdd] at k1 k2
          have HB := Lib.hid hB
          clear c0 c1 c2 ha hB
          by_cases hd0 : d = 0
          · subst hd0
            go_wp2_with fail
            refine (Put_is T s hsz hSr hbase).mono ?_
            rintro e w3 ⟨rfl, rv', T3, m3, j3⟩
            have B3 : Below w.heap.size wr w3 := m3.below hbase (fun i hi => by rcases hi with rfl | rfl | hi; exact T.tlow; exact T.mlow; exact (T.row.lt _ hi).1)
            have R3 := R.kept m3 hsep
            have hsep3 : ∀ g, rfoot rtb rv2 g → ¬ foot tb mb rv' g := fun g hg => foot_of_new j3 (by
              rcases hg with rfl | hg
              · exact heap_lt R.tbl
              · exact (R.row.lt g hg).2) (hsep g hg)
            have q1 : w3.cell? ⟨(ad.add (k * 3)).block, (ad.add (k * 3)).off + 1, none⟩ = some (.string s) := (B3.cell (p := ⟨(ad.add (k * 3)).block, (ad.add (k * 3)).off + 1, none⟩) (show (ad.add (k * 3)).block < _ by rw [add_block]; exact had)).trans k1
            clear k0 k1 k2
            go_wp2_with fail
            refine (rPut_is R3 s hsz (Nat.le_trans hbase m3.size) T.nodup).mono ?_
            rintro e w4 ⟨rfl, rv2', R4, m4, j4⟩
            have T4 : Tbl w.heap.size w4 tb mb rv' most (putL most L s) := T3.kept m4 (fun g hf hr => hsep3 g hr hf)
            have PR : PlayRel w tb mb rtb most w4 := by
              refine ⟨rv', rv2', _, T4, R4, fun g hg hf => ?_, HB.out.trans (B3.trans (m4.below (Nat.le_trans hbase m3.size) (fun i hi => by rcases hi with rfl | hi; exact R.tlow; exact (R.row.lt _ hi).1)))⟩
              rcases hg with rfl | hg
              · exact hsep3 _ (.inl rfl) hf
              · rcases j4 g hg with h | h
                · exact hsep3 g (.inr h) hf
                · rcases hf with rfl | rfl | hf
                  · have := heap_lt T3.tbl; omega
                  · have := heap_lt T3.map; omega
                  · have := (T3.row.lt _ hf).2; omega
            obtain ⟨a4, cap4, rfl⟩ := row_shape R4.row
            have hc4 := cell_of_row (i := 1) (v := .slice a4 (putL most L s).length cap4) R4.tbl rfl
            have HP := Lib.hid PR
            clear PR q1
            go_wp2_with fail
            go_quiet ((go_at_call 22; exact Len_quiet T4 _))
            go_wp2_with fail
            go_roundw
            case rel => exact ⟨k + 1, by omega, by go_num, HP.out.same (Below.drewN_ (Below.refl _ _) _)⟩
            case measure => simp [intOf]; omega
          · obtain ⟨a4, cap4, rfl⟩ := row_shape R.row
            have hc4 := cell_of_row (i := 1) (v := .slice a4 L.length cap4) R.tbl rfl
            have HP : Hid (PlayRel w tb mb rtb most wr) := ⟨rv, _, L, T, R, hsep, HB.out⟩
            by_cases hd1 : d = 1
            · subst hd1
              go_wp2_with fail
              refine (Of_is T s).mono ?_
              rintro e w3 ⟨rfl, rfl⟩
              go_wp2_with fail
              refine (rOf_is R s T.nodup).mono ?_
              rintro e w3 ⟨rfl, rfl⟩
              go_wp2_with fail
              go_quiet ((go_at_call 22; exact Len_quiet T _))
              go_wp2_with fail
              go_roundw
              case rel => exact ⟨k + 1, by omega, by go_num, HP.out.same (Below.drewN_ (Below.refl _ _) _)⟩
              case measure => simp [intOf]; omega
            · have hd0' : (d == 0) = false := by simpa using hd0
              have hd1' : (d == 1) = false := by simpa using hd1
              go_wp2_with fail
              refine (Text_is T m).mono ?_
              rintro e w3 ⟨rfl, rfl⟩
              go_wp2_with fail
              refine (rText_is R m).mono ?_
              rintro e w3 ⟨rfl, rfl⟩
              go_wp2_with fail
              go_quiet ((go_at_call 22; exact Len_quiet T _))
              go_wp2_with fail
              go_roundw
              case rel => exact ⟨k + 1, by omega, by go_num, HP.out.same (Below.drewN_ (Below.refl _ _) _)⟩
              case measure => simp [intOf]; omega
        · obtain ⟨a4, cap4, rfl⟩ := row_shape R.row
          have hc4 := cell_of_row (i := 1) (v := .slice a4 L.length cap4) R.tbl rfl
          go_wp2_with fail
          refine (goes_same T _ (RowAt.of_own R.row) leave).mono ?_
          rintro e w3 ⟨rfl, b3⟩
          have B3 := hB.trans (b3.mono hB.size)
          go_wp2_with fail
          refine (wakes_any _ (hS.below B3 hS.lt)).mono ?_
          rintro e w4 ⟨rfl, b4⟩
          go_wp2_with fail
          go_ret
          exact ⟨rfl, B3.trans (b4.mono B3.size)⟩
end Go.Proofs.YtjimnkbgnblanaaDoor
