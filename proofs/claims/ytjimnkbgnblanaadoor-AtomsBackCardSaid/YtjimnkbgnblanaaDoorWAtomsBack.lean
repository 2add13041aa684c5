/- The walk of AtomsBack: put again an atom has the same number, whose text it is; no two have one number. -/
import Derived.Test.YtjimnkbgnblanaaDoorAtomsAll
import Derived.Test.YtjimnkbgnblanaaDoorWakes02
import Derived.Test.YtjimnkbgnblanaaDoorStrs
import Derived.Deep.RegionHeld3
set_option linter.unusedVariables false
namespace Go.Proofs.YtjimnkbgnblanaaDoor
open Go.RowKit

theorem info_int : (Tryd.prog.info? 3).map (fun i => (i.zero, i.size, i.bytes)) = some (some (.int .i64 0), 1, 8) := by kernel_rfl

theorem row_at {w : World} {base : Nat} {e : TypeId} {n : Nat} {xs : List Value} {a : Option Addr} {cap k : Nat} {u : Value} (hr : w.ownsRow base e 1 (.slice a n cap) n xs) (hk : xs[k]? = some u) :
    ∃ g, a = some ⟨g, 0, none⟩ ∧ base ≤ g ∧ g < w.heap.size ∧ w.cell? ⟨g, k, none⟩ = some u := by
  rcases hr.2 with ⟨he, rfl⟩ | ⟨g, cap', cur, he, hb, hg, hc⟩
  · have := hr.1
    simp at this
    subst this
    simp at hk
  · simp at he
    obtain ⟨rfl, rfl⟩ := he
    have := hr.cells (g := g) rfl k u hk
    have e : (⟨g, 0, none⟩ : Addr).add k = ⟨g, k, none⟩ := by unfold Addr.add; split <;> simp_all
    rw [e] at this
    exact ⟨g, rfl, hb, heap_lt hg, this⟩

/-- The numbers of the first k texts. -/
structure BackAt (w : World) (ss : List ByteArray) (tb mb : Nat) (nv rv : Value) (L : List ByteArray) (N : List Int) (k : Nat) (wr : World) : Prop where
  tbl : Tbl w.heap.size wr tb mb rv 65536 L
  row : wr.ownsRow w.heap.size 3 1 nv N.length (N.map (.int .i64))
  len : N.length = k
  sep : ∀ g, nv.ownBlock = some g → ¬ foot tb mb rv g
  few : L.length ≤ k
  told : ∀ j s, j < k → ss[j]? = some s → nameB s 2 = true → ∃ m : Nat, N[j]? = some (m : Int) ∧ L[m]? = some s
  below : Below w.heap.size w wr

theorem BackAt.keep {w : World} {ss : List ByteArray} {tb mb : Nat} {nv rv : Value} {L : List ByteArray} {N : List Int} {k : Nat} {wr wr' : World} (h : BackAt w ss tb mb nv rv L N k wr) (hb : Below wr.heap.size wr wr') : BackAt w ss tb mb nv rv L N k wr' :=
  { h with
    tbl := h.tbl.below hb
    row := (Mod.of_below (F := fun _ => False) hb).row h.row (fun _ _ f => f)
    below := h.below.trans (hb.mono h.below.size) }

def BackRel (w : World) (ss : List ByteArray) (tb mb k : Nat) (nv : Value) (wr : World) : Prop := ∃ rv L N, BackAt w ss tb mb nv rv L N k wr

/-- What the number of one more text is put behind the others. -/
theorem BackAt.push {w : World} {ss : List ByteArray} {tb mb : Nat} {rv rv' : Value} {L L' : List ByteArray} {N : List Int} {k : Nat} {wr w2 w3 : World} {s : ByteArray} {x : Int} {g3 cap3 : Nat} {a2 : Option Addr} {cap2 : Nat}
    (h : BackAt w ss tb mb (.slice a2 N.length cap2) rv L N k wr) (hs : ss[k]? = some s)
    (T2 : Tbl w.heap.size w2 tb mb rv' 65536 L') (B2 : Below w.heap.size wr w2) (hsz : wr.heap.size ≤ w2.heap.size) (k2 : ∀ k, rv'.ownBlock = some k → rv.ownBlock = some k ∨ wr.heap.size ≤ k)
    (hL : ∀ (m : Nat) (t : ByteArray), L[m]? = some t → L'[m]? = some t) (hfew : L'.length ≤ k + 1) (hx : nameB s 2 = true → ∃ m : Nat, x = (m : Int) ∧ L'[m]? = some s)
    (R3 : w3.ownsRow w.heap.size 3 1 (.slice (some ⟨g3, 0, none⟩) (N.length + 1) cap3) (N.length + 1) (N.map (.int .i64) ++ [.int .i64 x]))
    (grow3 : (w2.alloc (.cells #[.int .i64 x] 3)).grownBy w3 (Value.slice a2 N.length cap2).ownBlock)
    (hwh : (Value.slice a2 N.length cap2).ownBlock = some g3 ∨ g3 = w2.heap.size + 1) :
    BackRel w ss tb mb (k + 1) (.slice (some ⟨g3, 0, none⟩) (N.length + 1) cap3) w3 := by
  have esz : (w2.alloc (.cells #[.int .i64 x] 3)).heap.size = w2.heap.size + 1 := World.size_alloc _ _
  have hlt2 := T2.row.lt
  have hold : ∀ g, (Value.slice a2 N.length cap2).ownBlock = some g → ¬ foot tb mb rv' g := fun g hg => foot_of_new k2 (h.row.lt g hg).2 (h.sep g hg)
  have hlen3 : (N ++ [x]).length = N.length + 1 := by simp
  refine ⟨rv', L', N ++ [x], ?_, by rw [hlen3, List.map_append]; exact R3, by rw [hlen3, h.len], fun g hg => ?_, hfew, ?_, ?_⟩
  · exact (T2.kept (Mod.alloc (fun _ => False) w2 _) (fun _ _ f => f)).kept (Mod.grown (F := fun g => (Value.slice a2 N.length cap2).ownBlock = some g) grow3 (fun _ _ e => e)) (fun g hf hg => hold g hg hf)
  · simp [Value.ownBlock] at hg
    subst hg
    rcases hwh with hw | hw
    · exact hold _ hw
    · rintro (e | e | e)
      · have := heap_lt T2.tbl; omega
      · have := heap_lt T2.map; omega
      · have := (hlt2 _ e).2; omega
  · intro j t hj ht hn
    by_cases e : j = k
    · subst e
      rw [hs] at ht
      cases ht
      obtain ⟨m, rfl, hm⟩ := hx hn
      exact ⟨m, by rw [List.getElem?_append_right (by have := h.len; omega)]; simp [h.len], hm⟩
    · obtain ⟨m, h1, h2⟩ := h.told j t (by omega) ht hn
      exact ⟨m, by rw [List.getElem?_append_left (by have := h.len; omega)]; exact h1, hL m t h2⟩
  · have hbw := h.below.size
    exact h.below.trans (B2.trans (((Below.refl _ w2).alloc (by omega) _).grown grow3 (by rw [esz]; omega) (fun g hg => (h.row.lt g hg).1)))

/-- What Put does to a table that is not full, in one word. -/
def PutPost (base tb mb : Nat) (rv : Value) (L : List ByteArray) (s : ByteArray) (w : World) (e : Ending) (w' : World) : Prop :=
  ∃ x f rv' L', e = .returned (.tuple #[.int .i64 x, .int .i64 f]) ∧ ((f : Int) == 0) = nameB s 2 ∧ Tbl base w' tb mb rv' 65536 L' ∧ Mod (foot tb mb rv) w w' ∧
    (∀ k, rv'.ownBlock = some k → rv.ownBlock = some k ∨ w.heap.size ≤ k) ∧ (∀ (m : Nat) (t : ByteArray), L[m]? = some t → L'[m]? = some t) ∧ L'.length ≤ L.length + 1 ∧
    (nameB s 2 = true → ∃ m : Nat, x = (m : Int) ∧ L'[m]? = some s)

theorem Put_any {base : Nat} {w : World} {tb mb : Nat} {rv : Value} {L : List ByteArray} (h : Tbl base w tb mb rv 65536 L) (s : ByteArray) (hsz : s.size ≤ maxLen) (hS : Spans w) (hbase : base ≤ w.heap.size) (hf : (L.length : Int) < 65536) :
    Calls Tryd.prog 16 #[.pointer (some ⟨tb, 0, none⟩), .string s] w (PutPost base tb mb rv L s w) := by
  cases hm : nameB s 2
  · exact (Put_bad h s hsz hS hm).mono fun e w' ⟨he, hb⟩ => ⟨0, 2, rv, L, he, by rw [hm]; rfl, h.below hb, Mod.of_below hb, fun k hk => .inl hk, fun _ _ h => h, by omega, fun h => by rw [hm] at h; cases h⟩
  · rcases ents_find L s with ⟨hn, hmem⟩ | ⟨j, hn, hj⟩
    · exact (Put_new h s hS hbase hm hn hf hmem).mono fun e w' ⟨he, rv', T, m, k⟩ => ⟨L.length, 0, rv', L ++ [s], he, by rw [hm]; rfl, T, m, k,
        fun i t hi => by rw [List.getElem?_append_left (List.getElem?_eq_some_iff.1 hi).1]; exact hi, by simp, fun _ => ⟨L.length, rfl, by simp⟩⟩
    · exact (Put_hit h s hS hm j hn).mono fun e w' ⟨he, hb⟩ => ⟨j, 0, rv, L, he, by rw [hm]; rfl, h.below hb, Mod.of_below hb, fun k hk => .inl hk, fun _ _ h => h, by omega, fun _ => ⟨j, rfl, hj⟩⟩

set_option maxHeartbeats 4000000 in
set_option maxRecDepth 100000 in
theorem walk_AtomsBack (v : Value) (w : World) (o : StrsAt w v) (hS : Spans w) :
    Calls Tryd.prog 5 #[v] w fun e w' => e = .returned (.bool true) ∧ Below w.heap.size w w' := by
  obtain ⟨A, n, cap, ss, rfl, hlen, hmax, hc⟩ := o
  unfold maxLen at hmax
  have HC := Lib.hid hc
  have HL := Lib.hid hlen
  clear hc hlen
  by_cases h100 : 100 < n
  · go_enter Tryd.func5, Tryd.ntmps5
    go_wp2_with fail
    refine (wakes_any _ hS).mono ?_
    rintro e w1 ⟨rfl, b1⟩
    go_wp2_with fail
    go_ret
    exact ⟨rfl, b1⟩
  · go_enter Tryd.func5, Tryd.ntmps5
    go_wp2_with fail
    refine (New_yes 65536 (by decide) (by decide) _).mono ?_
    rintro e w1 ⟨mb, tb, rfl, T1, b1⟩
    obtain ⟨i0, hi, hz0, hz1, hz2⟩ := info_parts info_int
    go_wp2_with fail
    go_loopw [5, 6] (fun nv i wr => ∃ k : Nat, k ≤ n ∧ i = .int .i64 k ∧ BackRel w ss tb mb k nv wr) (fun _ i _ => n - (intOf i).toNat)
    case atStart => exact ⟨0, Nat.zero_le _, rfl, _, [], [], T1, World.ownsRow_nil _ _ _ _, rfl, fun g hg => by simp [Value.ownBlock] at hg, Nat.le_refl _, fun j s hj => by omega, b1⟩
    case round =>
      obtain ⟨k, hk, rfl, rv, L, N, hb0⟩ := hrel
      obtain ⟨a2, cap2, rfl⟩ := row_shape hb0.row
      have hSr : Spans wr := hS.below hb0.below hS.lt
      have hbase : w.heap.size ≤ wr.heap.size := hb0.below.size
      have hNk := hb0.len
      have hLk := hb0.few
      by_cases hlt : k < n
      · obtain ⟨s, hs⟩ : ∃ s, ss[k]? = some s := ⟨ss[k]'(by have := HL.out; omega), List.getElem?_eq_getElem _⟩
        obtain ⟨hsz, ad, rfl, had, hcell⟩ := HC.out k s hs
        have hcx : wr.cell? (ad.add k) = some (.string s) := (hb0.below.cell (p := ad.add k) (by rw [add_block]; exact had)).trans hcell
        have HS := Lib.hid hs
        have HB0 := Lib.hid hb0
        have hNk2 : N.length ≤ 100 := by omega
        clear hcell hs hNk
        have hT := hb0.tbl
        go_wp2_with fail
        refine (Put_any hT s hsz hSr hbase (by omega)).mono ?_
        rintro e w2 ⟨x, f, rv', L', rfl, hf, T2, m2, k2, hL2, hfew, hx⟩
        have R2 := m2.row hb0.row hb0.sep
        have B2 : Below w.heap.size wr w2 := m2.below hbase (fun i hi => by rcases hi with rfl | rfl | hi; exact hT.tlow; exact hT.mlow; exact (hT.row.lt _ hi).1)
        have hcx2 : w2.cell? (ad.add k) = some (.string s) := (B2.cell (p := ad.add k) (by rw [add_block]; exact had)).trans hcx
        have hsz2 : w.heap.size ≤ w2.heap.size := Nat.le_trans hbase m2.size
        have MS := Lib.hid m2.size
        have HX := Lib.hid hx
        have HL2 := Lib.hid hL2
        have HF := Lib.hid hf
        clear hcx hb0 hx hL2 hf
        go_wp2_with (at_builtin; refine wpList_append_at _ rfl _ _ 47 rfl w.heap.size 3 i0 (.int .i64 0) 1 8 Tryd.underlying47 hi hz0 hz1 hz2 rfl (by decide) _ _ _ rfl (R2.alloc _) ⟨w2.heap.size, 0, none⟩ 1 1 [.int .i64 x] rfl (by decide) rfl ?c1 ?c2 ?c3 ?c4 ?c5 ?_)
        case c1 =>
          intro j u hu
          exact cell_one_new _ _ _ j u hu
        case c2 => simp [Value.oneCell']
        case c3 => unfold maxLen; omega
        case c4 => omega
        case c5 => simp; omega
        intro g3 cap3 w3 R3 grow3 hwh
        have hrel3 := HB0.out.push HS.out T2 B2 MS.out k2 HL2.out (by omega) HX.out R3 grow3 hwh
        have hcx3 : w3.cell? (ad.add k) = some (.string s) := by
          have h1 : (w2.alloc (.cells #[.int .i64 x] 3)).cell? (ad.add k) = some (.string s) := ((Below.refl w2.heap.size w2).alloc (Nat.le_refl _) _).cell (p := ad.add k) (by rw [add_block]; omega) |>.trans hcx2
          refine grow3.cell h1 ?_
          rw [add_block]
          intro e
          have := (HB0.out.row.lt _ e.symm).1
          omega
        have hS3 : Spans w3 := by
          obtain ⟨_, _, _, h⟩ := hrel3
          exact hS.below h.below hS.lt
        have HR := Lib.hid hrel3
        have hf := HF.out
        clear hrel3 hcx2 grow3 hwh R3
        go_wp2_with fail
        refine (May_any s hsz _ hS3).mono ?_
        rintro e w4 ⟨rfl, b4⟩
        go_wp2_with fail
        go_roundw
        case rel => 
          obtain ⟨r, l, m, h⟩ := HR.out
          exact ⟨k + 1, by omega, by go_num, r, l, m, h.keep b4⟩
        case measure => simp [intOf]; omega
      · obtain rfl : k = n := by omega
        obtain ⟨wo, rfl⟩ : ∃ wo : World, wo = wr := ⟨_, rfl⟩
        have HB0 := Lib.hid hb0
        clear hb0 hNk
        go_wp2_with fail
        go_loopw [9] (fun i wr => ∃ j : Nat, j ≤ k ∧ i = .int .i64 j ∧ Below wo.heap.size wo wr) (fun i _ => k - (intOf i).toNat)
        case atStart => exact ⟨0, Nat.zero_le _, rfl, Below.refl _ _⟩
        case round =>
          obtain ⟨j, hj, rfl, hbo⟩ := hrel
          have H1 := HB0.out.keep hbo
          have hS1 : Spans wr := hS.below H1.below hS.lt
          by_cases hlt2 : j < k
          · obtain ⟨s, hs⟩ : ∃ s, ss[j]? = some s := ⟨ss[j]'(by have := HL.out; omega), List.getElem?_eq_getElem _⟩
            obtain ⟨hsz, ad, rfl, had, hcell⟩ := HC.out j s hs
            have hcx : wr.cell? (ad.add j) = some (.string s) := (H1.below.cell (p := ad.add j) (by rw [add_block]; exact had)).trans hcell
            have hadr : (ad.add j).block < wr.heap.size := by rw [add_block]; have := H1.below.size; omega
            clear hcell
            cases hm : nameB s 2
            · have HM := Lib.hid (May_any s hsz wr hS1)
              rw [hm] at HM
              clear hm hs H1
              go_wp2_with fail
              refine HM.out.mono ?_
              rintro e w4 ⟨rfl, b4⟩
              go_wp2_with fail
              go_roundw
              case rel => exact ⟨j + 1, by omega, by go_num, hbo.trans (b4.mono hbo.size)⟩
              case measure => simp [intOf]; omega
            · obtain ⟨m, hN, hLm⟩ := H1.told j s hlt2 hs hm
              have HM := Lib.hid (May_any s hsz wr hS1)
              rw [hm] at HM
              obtain ⟨gN, rfl, hgN, hgl, hcN⟩ := row_at H1.row (k := j) (u := .int .i64 (m : Int)) (by simp [hN])
              have hfind : Instr.findNow .string (.string s) (ents L).toList 0 = some (some (m, .int .i64 (m : Int))) := by
                rcases ents_find L s with ⟨_, hmem⟩ | ⟨m', hn, hj'⟩
                · exact absurd (List.mem_of_getElem? hLm) hmem
                · have h1 := (List.getElem?_eq_some_iff.1 hj')
                  have h2 := (List.getElem?_eq_some_iff.1 hLm)
                  obtain rfl := (List.getElem?_inj h1.1 H1.tbl.nodup).1 (hj'.trans hLm.symm)
                  exact hn
              have hjN : j < N.length := by have := H1.len; omega
              have HFi := Lib.hid hfind
              have HH1 := Lib.hid H1
              have HLm := Lib.hid hLm
              have HNj := Lib.hid hN
              have HSj := Lib.hid hs
              have Hnm := Lib.hid hm
              clear hfind H1 hLm hN hs hm
              go_wp2_with fail
              refine HM.out.mono ?_
              rintro e w4 ⟨rfl, b4⟩
              have hcx4 := (b4.cell (p := ad.add j) hadr).trans hcx
              go_wp2_with fail
              refine (Put_hit (HH1.out.keep b4).tbl s (hS1.below b4 hS1.lt) Hnm.out m HFi.out).mono ?_
              rintro e w5 ⟨rfl, b5⟩
              have b5' := b4.trans (b5.mono b4.size)
              go_wp2_with fail
              refine (Text_at (HH1.out.keep b5').tbl m s HLm.out).mono ?_
              rintro e w6 ⟨rfl, rfl⟩
              have hcx5 := (b5'.cell (p := ad.add j) hadr).trans hcx
              have hcN5 := (b5'.cell (p := ⟨gN, j, none⟩) hgl).trans hcN
              clear hcx4 hcx hcN
              go_wp2_with fail
              obtain ⟨wi, rfl⟩ : ∃ wi : World, wi = w5 := ⟨_, rfl⟩
              have HI := HH1.out.keep b5'
              have HHI := Lib.hid HI
              have hSi : Spans wi := hS1.below b5' hS1.lt
              have hwi : wr.heap.size ≤ wi.heap.size := b5'.size
              have hgi : gN < wi.heap.size := by omega
              have hadi : (ad.add j).block < wi.heap.size := by omega
              clear HI
              go_loopw [14] (fun i ww => ∃ q : Nat, q ≤ j ∧ i = .int .i64 q ∧ Below wi.heap.size wi ww) (fun i _ => j - (intOf i).toNat)
              case atStart => exact ⟨0, Nat.zero_le _, rfl, Below.refl _ _⟩
              case round =>
                obtain ⟨q, hq, rfl, hbi⟩ := hrel
                by_cases hlt3 : q < j
                · obtain ⟨t, ht⟩ : ∃ t, ss[q]? = some t := ⟨ss[q]'(by have := HL.out; omega), List.getElem?_eq_getElem _⟩
                  obtain ⟨htsz, ad2, e2, had2, hcell2⟩ := HC.out q t ht
                  cases e2
                  have hi5 := HHI.out.below
                  have hcq : wi.cell? (ad.add q) = some (.string t) := (hi5.cell (p := ad.add q) (by rw [add_block]; exact had2)).trans hcell2
                  have hqN : q < N.length := by omega
                  have hcj : wi.cell? (ad.add j) = some (.string s) := hcx5
                  have hadq : (ad.add q).block < wi.heap.size := by rw [add_block]; rw [add_block] at hadi; exact hadi
                  cases hmt : nameB t 2
                  · have HS : Hid (∀ w' : World, Below wi.heap.size wi w' → w'.cell? (ad.add q) = some (.string t) ∧ Below wi.heap.size wi w') := fun w' h => ⟨(h.cell (p := ad.add q) hadq).trans hcq, h⟩
                    have HM2 : Hid (∀ w' : World, Below wi.heap.size wi w' → Calls Tryd.prog 7 #[.string t] w' fun e w'' => e = .returned (.bool false) ∧ w''.cell? (ad.add q) = some (.string t) ∧ Below wi.heap.size wi w'') := fun w' h => by
                      have hM := May_any t htsz w' (hSi.below h hSi.lt)
                      rw [hmt] at hM
                      exact hM.mono fun e w'' ⟨he, hb⟩ => ⟨he, HS.out w'' (h.trans (hb.mono h.size))⟩
                    have hqk : q < k := by omega
                    have hS0 : wr.drew.cell? (ad.add q) = some (.string t) ∧ Below wi.heap.size wi wr.drew := HS.out _ hbi.drew
                    clear hcell2 hcq hmt
                    go_wp2_with fail
                    refine wp_region_held (S := fun w' => w'.cell? (ad.add q) = some (.string t) ∧ Below wi.heap.size wi w') (by kernel_rfl) ?_
                    refine wpAnyH_take (i := 0) (oi := ⟨some 110, _, _, _, _, _⟩) (v := ?_) rfl (by kernel_rfl) (by kernel_rfl) (by kernel_rfl) (fun _ _ _ h => h) (Or.inl ⟨by kernel_rfl, ?_⟩) (by assumption) ?_; rotate_left; (intro w hSw; (try dsimp only at hSw); obtain ⟨hSw1, hSw2⟩ := hSw; go_simp; first | done | with_reducible rfl); (try simp only [Act.put, List.setIfInBounds_toArray, List.set_cons_zero, List.set_cons_succ])
                    refine wpAnyH_take (i := 1) (oi := ⟨some 111, _, _, _, _, _⟩) (v := ?_) rfl (by kernel_rfl) (by kernel_rfl) (by kernel_rfl) (fun _ _ _ h => h) (Or.inl ⟨by kernel_rfl, ?_⟩) (by assumption) ?_; rotate_left; (intro w hSw; (try dsimp only at hSw); obtain ⟨hSw1, hSw2⟩ := hSw; go_simp; first | done | with_reducible rfl); (try simp only [Act.put, List.setIfInBounds_toArray, List.set_cons_zero, List.set_cons_succ])
                    refine wpAnyH_take (i := 2) (oi := ⟨some 112, _, _, _, _, _⟩) (v := ?_) rfl (by kernel_rfl) (by kernel_rfl) (by kernel_rfl) (fun _ _ _ h => h) (Or.inl ⟨by kernel_rfl, ?_⟩) (by assumption) ?_; rotate_left; (intro w hSw; (try dsimp only at hSw); obtain ⟨hSw1, hSw2⟩ := hSw; go_simp; first | done | with_reducible rfl); (try simp only [Act.put, List.setIfInBounds_toArray, List.set_cons_zero, List.set_cons_succ])
                    refine wpAnyH_take (i := 3) (oi := ⟨some 113, _, _, _, _, _⟩) (v := ?_) rfl (by kernel_rfl) (by kernel_rfl) (by kernel_rfl) (fun _ _ _ h => h) (Or.inl ⟨by kernel_rfl, ?_⟩) (by assumption) ?_; rotate_left; (intro w hSw; (try dsimp only at hSw); obtain ⟨hSw1, hSw2⟩ := hSw; go_simp; first | done | with_reducible rfl); (try simp only [Act.put, List.setIfInBounds_toArray, List.set_cons_zero, List.set_cons_succ])
                    refine wpAnyH_ready (rs := [4]) (by kernel_rfl) (by simp) ?_
                    refine AllReadyH.cons (o := ⟨some 114, _, _, _, _, _⟩) rfl (fun K hK => ?_) AllReadyH.nil
                    rw [if_pos (by rfl)]
                    go_simp
                    refine (HM2.out _ hbi.drew).mono ?_; rintro e w7 ⟨rfl, hS7⟩
                    refine hK.out _ _ hS7 (fun _ => ?_)
                    clear hK K; (try simp only [Act.put, List.setIfInBounds_toArray, List.set_cons_zero, List.set_cons_succ])
                    refine wpAnyH_take (i := 5) (oi := ⟨some 115, _, _, _, _, _⟩) (v := ?_) rfl (by kernel_rfl) (by kernel_rfl) (by kernel_rfl) (fun _ _ _ h => h) (Or.inl ⟨by kernel_rfl, ?_⟩) (by assumption) ?_; rotate_left; (intro w hSw; (try dsimp only at hSw); obtain ⟨hSw1, hSw2⟩ := hSw; go_simp; first | done | with_reducible rfl); (try simp only [Act.put, List.setIfInBounds_toArray, List.set_cons_zero, List.set_cons_succ])
                    refine wpAnyH_take (i := 6) (oi := ⟨some 116, _, _, _, _, _⟩) (v := undef) rfl (by kernel_rfl) (by kernel_rfl) (by kernel_rfl) (fun _ _ _ h => h) (Or.inr ⟨by kernel_rfl, rfl⟩) (by assumption) ?_; (try simp only [Act.put, List.setIfInBounds_toArray, List.set_cons_zero, List.set_cons_succ])
                    refine wpAnyH_take (i := 7) (oi := ⟨some 117, _, _, _, _, _⟩) (v := undef) rfl (by kernel_rfl) (by kernel_rfl) (by kernel_rfl) (fun _ _ _ h => h) (Or.inr ⟨by kernel_rfl, rfl⟩) (by assumption) ?_; (try simp only [Act.put, List.setIfInBounds_toArray, List.set_cons_zero, List.set_cons_succ])
                    refine wpAnyH_take (i := 8) (oi := ⟨some 118, _, _, _, _, _⟩) (v := undef) rfl (by kernel_rfl) (by kernel_rfl) (by kernel_rfl) (fun _ _ _ h => h) (Or.inr ⟨by kernel_rfl, rfl⟩) (by assumption) ?_; (try simp only [Act.put, List.setIfInBounds_toArray, List.set_cons_zero, List.set_cons_succ])
                    refine wpAnyH_take (i := 9) (oi := ⟨some 119, _, _, _, _, _⟩) (v := undef) rfl (by kernel_rfl) (by kernel_rfl) (by kernel_rfl) (fun _ _ _ h => h) (Or.inr ⟨by kernel_rfl, rfl⟩) (by assumption) ?_; (try simp only [Act.put, List.setIfInBounds_toArray, List.set_cons_zero, List.set_cons_succ])
                    refine wpAnyH_take (i := 10) (oi := ⟨some 120, _, _, _, _, _⟩) (v := undef) rfl (by kernel_rfl) (by kernel_rfl) (by kernel_rfl) (fun _ _ _ h => h) (Or.inr ⟨by kernel_rfl, rfl⟩) (by assumption) ?_; (try simp only [Act.put, List.setIfInBounds_toArray, List.set_cons_zero, List.set_cons_succ])
                    refine wpAnyH_take (i := 11) (oi := ⟨some 121, _, _, _, _, _⟩) (v := undef) rfl (by kernel_rfl) (by kernel_rfl) (by kernel_rfl) (fun _ _ _ h => h) (Or.inr ⟨by kernel_rfl, rfl⟩) (by assumption) ?_; (try simp only [Act.put, List.setIfInBounds_toArray, List.set_cons_zero, List.set_cons_succ])
                    refine wpAnyH_take (i := 12) (oi := ⟨some 122, _, _, _, _, _⟩) (v := undef) rfl (by kernel_rfl) (by kernel_rfl) (by kernel_rfl) (fun _ _ _ h => h) (Or.inr ⟨by kernel_rfl, rfl⟩) (by assumption) ?_; (try simp only [Act.put, List.setIfInBounds_toArray, List.set_cons_zero, List.set_cons_succ])
                    refine wpAnyH_take (i := 13) (oi := ⟨some 123, _, _, _, _, _⟩) (v := undef) rfl (by kernel_rfl) (by kernel_rfl) (by kernel_rfl) (fun _ _ _ h => h) (Or.inr ⟨by kernel_rfl, rfl⟩) (by assumption) ?_; (try simp only [Act.put, List.setIfInBounds_toArray, List.set_cons_zero, List.set_cons_succ])
                    refine wpAnyH_take (i := 14) (oi := ⟨some 124, _, _, _, _, _⟩) (v := undef) rfl (by kernel_rfl) (by kernel_rfl) (by kernel_rfl) (fun _ _ _ h => h) (Or.inr ⟨by kernel_rfl, rfl⟩) (by assumption) ?_; (try simp only [Act.put, List.setIfInBounds_toArray, List.set_cons_zero, List.set_cons_succ])
                    refine wpAnyH_take (i := 15) (oi := ⟨some 125, _, _, _, _, _⟩) (v := undef) rfl (by kernel_rfl) (by kernel_rfl) (by kernel_rfl) (fun _ _ _ h => h) (Or.inr ⟨by kernel_rfl, rfl⟩) (by assumption) ?_; (try simp only [Act.put, List.setIfInBounds_toArray, List.set_cons_zero, List.set_cons_succ])
                    refine wpAnyH_take (i := 16) (oi := ⟨some 126, _, _, _, _, _⟩) (v := undef) rfl (by kernel_rfl) (by kernel_rfl) (by kernel_rfl) (fun _ _ _ h => h) (Or.inr ⟨by kernel_rfl, rfl⟩) (by assumption) ?_; (try simp only [Act.put, List.setIfInBounds_toArray, List.set_cons_zero, List.set_cons_succ])
                    refine wpAnyH_take (i := 17) (oi := ⟨some 127, _, _, _, _, _⟩) (v := undef) rfl (by kernel_rfl) (by kernel_rfl) (by kernel_rfl) (fun _ _ _ h => h) (Or.inr ⟨by kernel_rfl, rfl⟩) (by assumption) ?_; (try simp only [Act.put, List.setIfInBounds_toArray, List.set_cons_zero, List.set_cons_succ])
                    refine wpAnyH_take (i := 18) (oi := ⟨some 128, _, _, _, _, _⟩) (v := undef) rfl (by kernel_rfl) (by kernel_rfl) (by kernel_rfl) (fun _ _ _ h => h) (Or.inr ⟨by kernel_rfl, rfl⟩) (by assumption) ?_; (try simp only [Act.put, List.setIfInBounds_toArray, List.set_cons_zero, List.set_cons_succ])
                    refine wpAnyH_take (i := 19) (oi := ⟨some 129, _, _, _, _, _⟩) (v := undef) rfl (by kernel_rfl) (by kernel_rfl) (by kernel_rfl) (fun _ _ _ h => h) (Or.inr ⟨by kernel_rfl, rfl⟩) (by assumption) ?_; (try simp only [Act.put, List.setIfInBounds_toArray, List.set_cons_zero, List.set_cons_succ])
                    refine wpAnyH_take (i := 20) (oi := ⟨some 130, _, _, _, _, _⟩) (v := undef) rfl (by kernel_rfl) (by kernel_rfl) (by kernel_rfl) (fun _ _ _ h => h) (Or.inr ⟨by kernel_rfl, rfl⟩) (by assumption) ?_; (try simp only [Act.put, List.setIfInBounds_toArray, List.set_cons_zero, List.set_cons_succ])
                    refine wpAnyH_take (i := 21) (oi := ⟨some 131, _, _, _, _, _⟩) (v := undef) rfl (by kernel_rfl) (by kernel_rfl) (by kernel_rfl) (fun _ _ _ h => h) (Or.inr ⟨by kernel_rfl, rfl⟩) (by assumption) ?_; (try simp only [Act.put, List.setIfInBounds_toArray, List.set_cons_zero, List.set_cons_succ])
                    refine wpAnyH_take (i := 22) (oi := ⟨some 132, _, _, _, _, _⟩) (v := undef) rfl (by kernel_rfl) (by kernel_rfl) (by kernel_rfl) (fun _ _ _ h => h) (Or.inr ⟨by kernel_rfl, rfl⟩) (by assumption) ?_; (try simp only [Act.put, List.setIfInBounds_toArray, List.set_cons_zero, List.set_cons_succ])
                    refine wpAnyH_take (i := 23) (oi := ⟨some 133, _, _, _, _, _⟩) (v := undef) rfl (by kernel_rfl) (by kernel_rfl) (by kernel_rfl) (fun _ _ _ h => h) (Or.inr ⟨by kernel_rfl, rfl⟩) (by assumption) ?_; (try simp only [Act.put, List.setIfInBounds_toArray, List.set_cons_zero, List.set_cons_succ])
                    refine wpAnyH_take (i := 24) (oi := ⟨some 134, _, _, _, _, _⟩) (v := undef) rfl (by kernel_rfl) (by kernel_rfl) (by kernel_rfl) (fun _ _ _ h => h) (Or.inr ⟨by kernel_rfl, rfl⟩) (by assumption) ?_; (try simp only [Act.put, List.setIfInBounds_toArray, List.set_cons_zero, List.set_cons_succ])
                    refine wpAnyH_take (i := 25) (oi := ⟨some 135, _, _, _, _, _⟩) (v := ?_) rfl (by kernel_rfl) (by kernel_rfl) (by kernel_rfl) (fun _ _ _ h => h) (Or.inl ⟨by kernel_rfl, ?_⟩) (by assumption) ?_; rotate_left; (intro w hSw; (try dsimp only at hSw); obtain ⟨hSw1, hSw2⟩ := hSw; go_simp; first | done | with_reducible rfl); (try simp only [Act.put, List.setIfInBounds_toArray, List.set_cons_zero, List.set_cons_succ])
                    refine wpAnyH_done (by kernel_rfl) ?_ _
                    go_wp2_with fail
                    go_roundw
                    case rel => exact ⟨q + 1, by omega, by go_num, hS7.2⟩
                    case measure => simp [intOf]; omega
                  · obtain ⟨mq, hNq, hLq⟩ := HHI.out.told q t (by omega) ht hmt
                    have hcNq : wi.cell? ⟨gN, q, none⟩ = some (.int .i64 (mq : Int)) := by
                      obtain ⟨g9, e9, _, _, h9⟩ := row_at HHI.out.row (k := q) (u := .int .i64 (mq : Int)) (by simp [hNq])
                      cases e9
                      exact h9
                    have hcNj : wi.cell? ⟨gN, j, none⟩ = some (.int .i64 (m : Int)) := hcN5
                    have HS : Hid (∀ w' : World, Below wi.heap.size wi w' → w'.cell? (ad.add q) = some (.string t) ∧ w'.cell? (ad.add j) = some (.string s) ∧ w'.cell? ⟨gN, q, none⟩ = some (.int .i64 (mq : Int)) ∧ w'.cell? ⟨gN, j, none⟩ = some (.int .i64 (m : Int)) ∧ Below wi.heap.size wi w') := fun w' h => ⟨(h.cell (p := ad.add q) hadq).trans hcq, (h.cell (p := ad.add j) hadi).trans hcj, (h.cell (p := ⟨gN, q, none⟩) hgi).trans hcNq, (h.cell (p := ⟨gN, j, none⟩) hgi).trans hcNj, h⟩
                    have HM2 : Hid (∀ w' : World, Below wi.heap.size wi w' → Calls Tryd.prog 7 #[.string t] w' fun e w'' => e = .returned (.bool true) ∧ w''.cell? (ad.add q) = some (.string t) ∧ w''.cell? (ad.add j) = some (.string s) ∧ w''.cell? ⟨gN, q, none⟩ = some (.int .i64 (mq : Int)) ∧ w''.cell? ⟨gN, j, none⟩ = some (.int .i64 (m : Int)) ∧ Below wi.heap.size wi w'') := fun w' h => by
                      have hM := May_any t htsz w' (hSi.below h hSi.lt)
                      rw [hmt] at hM
                      exact hM.mono fun e w'' ⟨he, hb⟩ => ⟨he, HS.out w'' (h.trans (hb.mono h.size))⟩
                    have hqk : q < k := by omega
                    have hS0 : wr.drew.cell? (ad.add q) = some (.string t) ∧ wr.drew.cell? (ad.add j) = some (.string s) ∧ wr.drew.cell? ⟨gN, q, none⟩ = some (.int .i64 (mq : Int)) ∧ wr.drew.cell? ⟨gN, j, none⟩ = some (.int .i64 (m : Int)) ∧ Below wi.heap.size wi wr.drew := HS.out _ hbi.drew
                    have same : (mq = m) ↔ (t = s) := by
                      constructor
                      · rintro rfl
                        exact Option.some.inj (hLq.symm.trans HLm.out)
                      · rintro rfl
                        exact (List.getElem?_inj (List.getElem?_eq_some_iff.1 hLq).1 HHI.out.tbl.nodup).1 (hLq.trans HLm.out.symm)
                    clear hcell2 hcq hmt hcNq hcNj hNq hLq ht hcN5 hcx5 hcj
                    by_cases hts : t = s
                    · obtain rfl := same.2 hts
                      subst hts
                      clear same
                      go_wp2_with fail
                      refine wp_region_held (S := fun w' => w'.cell? (ad.add q) = some (.string t) ∧ w'.cell? (ad.add j) = some (.string t) ∧ w'.cell? ⟨gN, q, none⟩ = some (.int .i64 (mq : Int)) ∧ w'.cell? ⟨gN, j, none⟩ = some (.int .i64 (mq : Int)) ∧ Below wi.heap.size wi w') (by kernel_rfl) ?_
                      refine wpAnyH_take (i := 0) (oi := ⟨some 110, _, _, _, _, _⟩) (v := ?_) rfl (by kernel_rfl) (by kernel_rfl) (by kernel_rfl) (fun _ _ _ h => h) (Or.inl ⟨by kernel_rfl, ?_⟩) (by assumption) ?_; rotate_left; (intro w hSw; (try dsimp only at hSw); obtain ⟨hSw1, hSw2, hSw3, hSw4, hSw5⟩ := hSw; go_simp; first | done | with_reducible rfl); (try simp only [Act.put, List.setIfInBounds_toArray, List.set_cons_zero, List.set_cons_succ])
                      refine wpAnyH_take (i := 1) (oi := ⟨some 111, _, _, _, _, _⟩) (v := ?_) rfl (by kernel_rfl) (by kernel_rfl) (by kernel_rfl) (fun _ _ _ h => h) (Or.inl ⟨by kernel_rfl, ?_⟩) (by assumption) ?_; rotate_left; (intro w hSw; (try dsimp only at hSw); obtain ⟨hSw1, hSw2, hSw3, hSw4, hSw5⟩ := hSw; go_simp; first | done | with_reducible rfl); (try simp only [Act.put, List.setIfInBounds_toArray, List.set_cons_zero, List.set_cons_succ])
                      refine wpAnyH_take (i := 2) (oi := ⟨some 112, _, _, _, _, _⟩) (v := ?_) rfl (by kernel_rfl) (by kernel_rfl) (by kernel_rfl) (fun _ _ _ h => h) (Or.inl ⟨by kernel_rfl, ?_⟩) (by assumption) ?_; rotate_left; (intro w hSw; (try dsimp only at hSw); obtain ⟨hSw1, hSw2, hSw3, hSw4, hSw5⟩ := hSw; go_simp; first | done | with_reducible rfl); (try simp only [Act.put, List.setIfInBounds_toArray, List.set_cons_zero, List.set_cons_succ])
                      refine wpAnyH_take (i := 3) (oi := ⟨some 113, _, _, _, _, _⟩) (v := ?_) rfl (by kernel_rfl) (by kernel_rfl) (by kernel_rfl) (fun _ _ _ h => h) (Or.inl ⟨by kernel_rfl, ?_⟩) (by assumption) ?_; rotate_left; (intro w hSw; (try dsimp only at hSw); obtain ⟨hSw1, hSw2, hSw3, hSw4, hSw5⟩ := hSw; go_simp; first | done | with_reducible rfl); (try simp only [Act.put, List.setIfInBounds_toArray, List.set_cons_zero, List.set_cons_succ])
                      refine wpAnyH_ready (rs := [4]) (by kernel_rfl) (by simp) ?_
                      refine AllReadyH.cons (o := ⟨some 114, _, _, _, _, _⟩) rfl (fun K hK => ?_) AllReadyH.nil
                      rw [if_pos (by rfl)]
                      go_simp
                      refine (HM2.out _ hbi.drew).mono ?_; rintro e w7 ⟨rfl, hS7⟩
                      refine hK.out _ _ hS7 (fun _ => ?_)
                      clear hK K; (try simp only [Act.put, List.setIfInBounds_toArray, List.set_cons_zero, List.set_cons_succ])
                      refine wpAnyH_take (i := 5) (oi := ⟨some 115, _, _, _, _, _⟩) (v := ?_) rfl (by kernel_rfl) (by kernel_rfl) (by kernel_rfl) (fun _ _ _ h => h) (Or.inl ⟨by kernel_rfl, ?_⟩) (by assumption) ?_; rotate_left; (intro w hSw; (try dsimp only at hSw); obtain ⟨hSw1, hSw2, hSw3, hSw4, hSw5⟩ := hSw; go_simp; first | done | with_reducible rfl); (try simp only [Act.put, List.setIfInBounds_toArray, List.set_cons_zero, List.set_cons_succ])
                      refine wpAnyH_take (i := 6) (oi := ⟨some 116, _, _, _, _, _⟩) (v := ?_) rfl (by kernel_rfl) (by kernel_rfl) (by kernel_rfl) (fun _ _ _ h => h) (Or.inl ⟨by kernel_rfl, ?_⟩) (by assumption) ?_; rotate_left; (intro w hSw; (try dsimp only at hSw); obtain ⟨hSw1, hSw2, hSw3, hSw4, hSw5⟩ := hSw; go_simp; first | done | with_reducible rfl); (try simp only [Act.put, List.setIfInBounds_toArray, List.set_cons_zero, List.set_cons_succ])
                      refine wpAnyH_take (i := 7) (oi := ⟨some 117, _, _, _, _, _⟩) (v := ?_) rfl (by kernel_rfl) (by kernel_rfl) (by kernel_rfl) (fun _ _ _ h => h) (Or.inl ⟨by kernel_rfl, ?_⟩) (by assumption) ?_; rotate_left; (intro w hSw; (try dsimp only at hSw); obtain ⟨hSw1, hSw2, hSw3, hSw4, hSw5⟩ := hSw; go_simp; first | done | with_reducible rfl); (try simp only [Act.put, List.setIfInBounds_toArray, List.set_cons_zero, List.set_cons_succ])
                      refine wpAnyH_take (i := 8) (oi := ⟨some 118, _, _, _, _, _⟩) (v := ?_) rfl (by kernel_rfl) (by kernel_rfl) (by kernel_rfl) (fun _ _ _ h => h) (Or.inl ⟨by kernel_rfl, ?_⟩) (by assumption) ?_; rotate_left; (intro w hSw; (try dsimp only at hSw); obtain ⟨hSw1, hSw2, hSw3, hSw4, hSw5⟩ := hSw; go_simp; first | done | with_reducible rfl); (try simp only [Act.put, List.setIfInBounds_toArray, List.set_cons_zero, List.set_cons_succ])
                      refine wpAnyH_take (i := 9) (oi := ⟨some 119, _, _, _, _, _⟩) (v := ?_) rfl (by kernel_rfl) (by kernel_rfl) (by kernel_rfl) (fun _ _ _ h => h) (Or.inl ⟨by kernel_rfl, ?_⟩) (by assumption) ?_; rotate_left; (intro w hSw; (try dsimp only at hSw); obtain ⟨hSw1, hSw2, hSw3, hSw4, hSw5⟩ := hSw; go_simp; first | done | with_reducible rfl); (try simp only [Act.put, List.setIfInBounds_toArray, List.set_cons_zero, List.set_cons_succ])
                      refine wpAnyH_take (i := 10) (oi := ⟨some 120, _, _, _, _, _⟩) (v := ?_) rfl (by kernel_rfl) (by kernel_rfl) (by kernel_rfl) (fun _ _ _ h => h) (Or.inl ⟨by kernel_rfl, ?_⟩) (by assumption) ?_; rotate_left; (intro w hSw; (try dsimp only at hSw); obtain ⟨hSw1, hSw2, hSw3, hSw4, hSw5⟩ := hSw; go_simp; first | done | with_reducible rfl); (try simp only [Act.put, List.setIfInBounds_toArray, List.set_cons_zero, List.set_cons_succ])
                      refine wpAnyH_take (i := 11) (oi := ⟨some 121, _, _, _, _, _⟩) (v := ?_) rfl (by kernel_rfl) (by kernel_rfl) (by kernel_rfl) (fun _ _ _ h => h) (Or.inl ⟨by kernel_rfl, ?_⟩) (by assumption) ?_; rotate_left; (intro w hSw; (try dsimp only at hSw); obtain ⟨hSw1, hSw2, hSw3, hSw4, hSw5⟩ := hSw; go_simp; first | done | with_reducible rfl); (try simp only [Act.put, List.setIfInBounds_toArray, List.set_cons_zero, List.set_cons_succ])
                      refine wpAnyH_take (i := 12) (oi := ⟨some 122, _, _, _, _, _⟩) (v := ?_) rfl (by kernel_rfl) (by kernel_rfl) (by kernel_rfl) (fun _ _ _ h => h) (Or.inl ⟨by kernel_rfl, ?_⟩) (by assumption) ?_; rotate_left; (intro w hSw; (try dsimp only at hSw); obtain ⟨hSw1, hSw2, hSw3, hSw4, hSw5⟩ := hSw; go_simp; first | done | with_reducible rfl); (try simp only [Act.put, List.setIfInBounds_toArray, List.set_cons_zero, List.set_cons_succ])
                      refine wpAnyH_take (i := 13) (oi := ⟨some 123, _, _, _, _, _⟩) (v := ?_) rfl (by kernel_rfl) (by kernel_rfl) (by kernel_rfl) (fun _ _ _ h => h) (Or.inl ⟨by kernel_rfl, ?_⟩) (by assumption) ?_; rotate_left; (intro w hSw; (try dsimp only at hSw); obtain ⟨hSw1, hSw2, hSw3, hSw4, hSw5⟩ := hSw; go_simp; first | done | with_reducible rfl); (try simp only [Act.put, List.setIfInBounds_toArray, List.set_cons_zero, List.set_cons_succ])
                      refine wpAnyH_take (i := 14) (oi := ⟨some 124, _, _, _, _, _⟩) (v := ?_) rfl (by kernel_rfl) (by kernel_rfl) (by kernel_rfl) (fun _ _ _ h => h) (Or.inl ⟨by kernel_rfl, ?_⟩) (by assumption) ?_; rotate_left; (intro w hSw; (try dsimp only at hSw); obtain ⟨hSw1, hSw2, hSw3, hSw4, hSw5⟩ := hSw; go_simp; first | done | with_reducible rfl); (try simp only [Act.put, List.setIfInBounds_toArray, List.set_cons_zero, List.set_cons_succ])
                      refine wpAnyH_take (i := 15) (oi := ⟨some 125, _, _, _, _, _⟩) (v := ?_) rfl (by kernel_rfl) (by kernel_rfl) (by kernel_rfl) (fun _ _ _ h => h) (Or.inl ⟨by kernel_rfl, ?_⟩) (by assumption) ?_; rotate_left; (intro w hSw; (try dsimp only at hSw); obtain ⟨hSw1, hSw2, hSw3, hSw4, hSw5⟩ := hSw; go_simp; first | done | with_reducible rfl); (try simp only [Act.put, List.setIfInBounds_toArray, List.set_cons_zero, List.set_cons_succ])
                      refine wpAnyH_take (i := 16) (oi := ⟨some 126, _, _, _, _, _⟩) (v := ?_) rfl (by kernel_rfl) (by kernel_rfl) (by kernel_rfl) (fun _ _ _ h => h) (Or.inl ⟨by kernel_rfl, ?_⟩) (by assumption) ?_; rotate_left; (intro w hSw; (try dsimp only at hSw); obtain ⟨hSw1, hSw2, hSw3, hSw4, hSw5⟩ := hSw; go_simp; first | done | with_reducible rfl); (try simp only [Act.put, List.setIfInBounds_toArray, List.set_cons_zero, List.set_cons_succ])
                      refine wpAnyH_take (i := 17) (oi := ⟨some 127, _, _, _, _, _⟩) (v := ?_) rfl (by kernel_rfl) (by kernel_rfl) (by kernel_rfl) (fun _ _ _ h => h) (Or.inl ⟨by kernel_rfl, ?_⟩) (by assumption) ?_; rotate_left; (intro w hSw; (try dsimp only at hSw); obtain ⟨hSw1, hSw2, hSw3, hSw4, hSw5⟩ := hSw; go_simp; first | done | with_reducible rfl); (try simp only [Act.put, List.setIfInBounds_toArray, List.set_cons_zero, List.set_cons_succ])
                      refine wpAnyH_take (i := 18) (oi := ⟨some 128, _, _, _, _, _⟩) (v := ?_) rfl (by kernel_rfl) (by kernel_rfl) (by kernel_rfl) (fun _ _ _ h => h) (Or.inl ⟨by kernel_rfl, ?_⟩) (by assumption) ?_; rotate_left; (intro w hSw; (try dsimp only at hSw); obtain ⟨hSw1, hSw2, hSw3, hSw4, hSw5⟩ := hSw; go_simp; first | done | with_reducible rfl); (try simp only [Act.put, List.setIfInBounds_toArray, List.set_cons_zero, List.set_cons_succ])
                      refine wpAnyH_take (i := 19) (oi := ⟨some 129, _, _, _, _, _⟩) (v := ?_) rfl (by kernel_rfl) (by kernel_rfl) (by kernel_rfl) (fun _ _ _ h => h) (Or.inl ⟨by kernel_rfl, ?_⟩) (by assumption) ?_; rotate_left; (intro w hSw; (try dsimp only at hSw); obtain ⟨hSw1, hSw2, hSw3, hSw4, hSw5⟩ := hSw; go_simp; first | done | with_reducible rfl); (try simp only [Act.put, List.setIfInBounds_toArray, List.set_cons_zero, List.set_cons_succ])
                      refine wpAnyH_take (i := 20) (oi := ⟨some 130, _, _, _, _, _⟩) (v := ?_) rfl (by kernel_rfl) (by kernel_rfl) (by kernel_rfl) (fun _ _ _ h => h) (Or.inl ⟨by kernel_rfl, ?_⟩) (by assumption) ?_; rotate_left; (intro w hSw; (try dsimp only at hSw); obtain ⟨hSw1, hSw2, hSw3, hSw4, hSw5⟩ := hSw; go_simp; first | done | with_reducible rfl); (try simp only [Act.put, List.setIfInBounds_toArray, List.set_cons_zero, List.set_cons_succ])
                      refine wpAnyH_take (i := 21) (oi := ⟨some 131, _, _, _, _, _⟩) (v := ?_) rfl (by kernel_rfl) (by kernel_rfl) (by kernel_rfl) (fun _ _ _ h => h) (Or.inl ⟨by kernel_rfl, ?_⟩) (by assumption) ?_; rotate_left; (intro w hSw; (try dsimp only at hSw); obtain ⟨hSw1, hSw2, hSw3, hSw4, hSw5⟩ := hSw; go_simp; first | done | with_reducible rfl); (try simp only [Act.put, List.setIfInBounds_toArray, List.set_cons_zero, List.set_cons_succ])
                      refine wpAnyH_take (i := 22) (oi := ⟨some 132, _, _, _, _, _⟩) (v := ?_) rfl (by kernel_rfl) (by kernel_rfl) (by kernel_rfl) (fun _ _ _ h => h) (Or.inl ⟨by kernel_rfl, ?_⟩) (by assumption) ?_; rotate_left; (intro w hSw; (try dsimp only at hSw); obtain ⟨hSw1, hSw2, hSw3, hSw4, hSw5⟩ := hSw; go_simp; first | done | with_reducible rfl); (try simp only [Act.put, List.setIfInBounds_toArray, List.set_cons_zero, List.set_cons_succ])
                      refine wpAnyH_take (i := 23) (oi := ⟨some 133, _, _, _, _, _⟩) (v := ?_) rfl (by kernel_rfl) (by kernel_rfl) (by kernel_rfl) (fun _ _ _ h => h) (Or.inl ⟨by kernel_rfl, ?_⟩) (by assumption) ?_; rotate_left; (intro w hSw; (try dsimp only at hSw); obtain ⟨hSw1, hSw2, hSw3, hSw4, hSw5⟩ := hSw; go_simp; first | done | with_reducible rfl); (try simp only [Act.put, List.setIfInBounds_toArray, List.set_cons_zero, List.set_cons_succ])
                      refine wpAnyH_take (i := 24) (oi := ⟨some 134, _, _, _, _, _⟩) (v := ?_) rfl (by kernel_rfl) (by kernel_rfl) (by kernel_rfl) (fun _ _ _ h => h) (Or.inl ⟨by kernel_rfl, ?_⟩) (by assumption) ?_; rotate_left; (intro w hSw; (try dsimp only at hSw); obtain ⟨hSw1, hSw2, hSw3, hSw4, hSw5⟩ := hSw; go_simp; first | done | with_reducible rfl); (try simp only [Act.put, List.setIfInBounds_toArray, List.set_cons_zero, List.set_cons_succ])
                      refine wpAnyH_take (i := 25) (oi := ⟨some 135, _, _, _, _, _⟩) (v := ?_) rfl (by kernel_rfl) (by kernel_rfl) (by kernel_rfl) (fun _ _ _ h => h) (Or.inl ⟨by kernel_rfl, ?_⟩) (by assumption) ?_; rotate_left; (intro w hSw; (try dsimp only at hSw); obtain ⟨hSw1, hSw2, hSw3, hSw4, hSw5⟩ := hSw; go_simp; first | done | with_reducible rfl); (try simp only [Act.put, List.setIfInBounds_toArray, List.set_cons_zero, List.set_cons_succ])
                      refine wpAnyH_done (by kernel_rfl) ?_ _
                      go_wp2_with fail
                      go_roundw
                      case rel => exact ⟨q + 1, by omega, by go_num, hS7.2.2.2.2⟩
                      case measure => simp [intOf]; omega
                    · have hne : ¬ mq = m := fun e => hts (same.1 e)
                      have hE1 : ((mq : Int) == (m : Int)) = false := by rw [beq_eq_false_iff_ne]; omega
                      have hE2 : (t.toList == s.toList) = false := by
                        rw [beq_eq_false_iff_ne]
                        intro e
                        exact hts (ByteArray.ext (Array.ext' (by rw [← ByteArray.toList_eq, ← ByteArray.toList_eq]; exact e)))
                      clear same
                      go_wp2_with fail
                      refine wp_region_held (S := fun w' => w'.cell? (ad.add q) = some (.string t) ∧ w'.cell? (ad.add j) = some (.string s) ∧ w'.cell? ⟨gN, q, none⟩ = some (.int .i64 (mq : Int)) ∧ w'.cell? ⟨gN, j, none⟩ = some (.int .i64 (m : Int)) ∧ Below wi.heap.size wi w') (by kernel_rfl) ?_
                      refine wpAnyH_take (i := 0) (oi := ⟨some 110, _, _, _, _, _⟩) (v := ?_) rfl (by kernel_rfl) (by kernel_rfl) (by kernel_rfl) (fun _ _ _ h => h) (Or.inl ⟨by kernel_rfl, ?_⟩) (by assumption) ?_; rotate_left; (intro w hSw; (try dsimp only at hSw); obtain ⟨hSw1, hSw2, hSw3, hSw4, hSw5⟩ := hSw; go_simp; first | done | with_reducible rfl); (try simp only [Act.put, List.setIfInBounds_toArray, List.set_cons_zero, List.set_cons_succ])
                      refine wpAnyH_take (i := 1) (oi := ⟨some 111, _, _, _, _, _⟩) (v := ?_) rfl (by kernel_rfl) (by kernel_rfl) (by kernel_rfl) (fun _ _ _ h => h) (Or.inl ⟨by kernel_rfl, ?_⟩) (by assumption) ?_; rotate_left; (intro w hSw; (try dsimp only at hSw); obtain ⟨hSw1, hSw2, hSw3, hSw4, hSw5⟩ := hSw; go_simp; first | done | with_reducible rfl); (try simp only [Act.put, List.setIfInBounds_toArray, List.set_cons_zero, List.set_cons_succ])
                      refine wpAnyH_take (i := 2) (oi := ⟨some 112, _, _, _, _, _⟩) (v := ?_) rfl (by kernel_rfl) (by kernel_rfl) (by kernel_rfl) (fun _ _ _ h => h) (Or.inl ⟨by kernel_rfl, ?_⟩) (by assumption) ?_; rotate_left; (intro w hSw; (try dsimp only at hSw); obtain ⟨hSw1, hSw2, hSw3, hSw4, hSw5⟩ := hSw; go_simp; first | done | with_reducible rfl); (try simp only [Act.put, List.setIfInBounds_toArray, List.set_cons_zero, List.set_cons_succ])
                      refine wpAnyH_take (i := 3) (oi := ⟨some 113, _, _, _, _, _⟩) (v := ?_) rfl (by kernel_rfl) (by kernel_rfl) (by kernel_rfl) (fun _ _ _ h => h) (Or.inl ⟨by kernel_rfl, ?_⟩) (by assumption) ?_; rotate_left; (intro w hSw; (try dsimp only at hSw); obtain ⟨hSw1, hSw2, hSw3, hSw4, hSw5⟩ := hSw; go_simp; first | done | with_reducible rfl); (try simp only [Act.put, List.setIfInBounds_toArray, List.set_cons_zero, List.set_cons_succ])
                      refine wpAnyH_ready (rs := [4]) (by kernel_rfl) (by simp) ?_
                      refine AllReadyH.cons (o := ⟨some 114, _, _, _, _, _⟩) rfl (fun K hK => ?_) AllReadyH.nil
                      rw [if_pos (by rfl)]
                      go_simp
                      refine (HM2.out _ hbi.drew).mono ?_; rintro e w7 ⟨rfl, hS7⟩
                      refine hK.out _ _ hS7 (fun _ => ?_)
                      clear hK K; (try simp only [Act.put, List.setIfInBounds_toArray, List.set_cons_zero, List.set_cons_succ])
                      refine wpAnyH_take (i := 5) (oi := ⟨some 115, _, _, _, _, _⟩) (v := ?_) rfl (by kernel_rfl) (by kernel_rfl) (by kernel_rfl) (fun _ _ _ h => h) (Or.inl ⟨by kernel_rfl, ?_⟩) (by assumption) ?_; rotate_left; (intro w hSw; (try dsimp only at hSw); obtain ⟨hSw1, hSw2, hSw3, hSw4, hSw5⟩ := hSw; go_simp; first | done | with_reducible rfl); (try simp only [Act.put, List.setIfInBounds_toArray, List.set_cons_zero, List.set_cons_succ])
                      refine wpAnyH_take (i := 6) (oi := ⟨some 116, _, _, _, _, _⟩) (v := ?_) rfl (by kernel_rfl) (by kernel_rfl) (by kernel_rfl) (fun _ _ _ h => h) (Or.inl ⟨by kernel_rfl, ?_⟩) (by assumption) ?_; rotate_left; (intro w hSw; (try dsimp only at hSw); obtain ⟨hSw1, hSw2, hSw3, hSw4, hSw5⟩ := hSw; go_simp; first | done | with_reducible rfl); (try simp only [Act.put, List.setIfInBounds_toArray, List.set_cons_zero, List.set_cons_succ])
                      refine wpAnyH_take (i := 7) (oi := ⟨some 117, _, _, _, _, _⟩) (v := ?_) rfl (by kernel_rfl) (by kernel_rfl) (by kernel_rfl) (fun _ _ _ h => h) (Or.inl ⟨by kernel_rfl, ?_⟩) (by assumption) ?_; rotate_left; (intro w hSw; (try dsimp only at hSw); obtain ⟨hSw1, hSw2, hSw3, hSw4, hSw5⟩ := hSw; go_simp; first | done | with_reducible rfl); (try simp only [Act.put, List.setIfInBounds_toArray, List.set_cons_zero, List.set_cons_succ])
                      refine wpAnyH_take (i := 8) (oi := ⟨some 118, _, _, _, _, _⟩) (v := ?_) rfl (by kernel_rfl) (by kernel_rfl) (by kernel_rfl) (fun _ _ _ h => h) (Or.inl ⟨by kernel_rfl, ?_⟩) (by assumption) ?_; rotate_left; (intro w hSw; (try dsimp only at hSw); obtain ⟨hSw1, hSw2, hSw3, hSw4, hSw5⟩ := hSw; go_simp; first | done | with_reducible rfl); (try simp only [Act.put, List.setIfInBounds_toArray, List.set_cons_zero, List.set_cons_succ])
                      refine wpAnyH_take (i := 9) (oi := ⟨some 119, _, _, _, _, _⟩) (v := ?_) rfl (by kernel_rfl) (by kernel_rfl) (by kernel_rfl) (fun _ _ _ h => h) (Or.inl ⟨by kernel_rfl, ?_⟩) (by assumption) ?_; rotate_left; (intro w hSw; (try dsimp only at hSw); obtain ⟨hSw1, hSw2, hSw3, hSw4, hSw5⟩ := hSw; go_simp; first | done | with_reducible rfl); (try simp only [Act.put, List.setIfInBounds_toArray, List.set_cons_zero, List.set_cons_succ])
                      refine wpAnyH_take (i := 10) (oi := ⟨some 120, _, _, _, _, _⟩) (v := ?_) rfl (by kernel_rfl) (by kernel_rfl) (by kernel_rfl) (fun _ _ _ h => h) (Or.inl ⟨by kernel_rfl, ?_⟩) (by assumption) ?_; rotate_left; (intro w hSw; (try dsimp only at hSw); obtain ⟨hSw1, hSw2, hSw3, hSw4, hSw5⟩ := hSw; go_simp; first | done | with_reducible rfl); (try simp only [Act.put, List.setIfInBounds_toArray, List.set_cons_zero, List.set_cons_succ])
                      refine wpAnyH_take (i := 11) (oi := ⟨some 121, _, _, _, _, _⟩) (v := ?_) rfl (by kernel_rfl) (by kernel_rfl) (by kernel_rfl) (fun _ _ _ h => h) (Or.inl ⟨by kernel_rfl, ?_⟩) (by assumption) ?_; rotate_left; (intro w hSw; (try dsimp only at hSw); obtain ⟨hSw1, hSw2, hSw3, hSw4, hSw5⟩ := hSw; go_simp; first | done | with_reducible rfl); (try simp only [Act.put, List.setIfInBounds_toArray, List.set_cons_zero, List.set_cons_succ])
                      refine wpAnyH_take (i := 12) (oi := ⟨some 122, _, _, _, _, _⟩) (v := ?_) rfl (by kernel_rfl) (by kernel_rfl) (by kernel_rfl) (fun _ _ _ h => h) (Or.inl ⟨by kernel_rfl, ?_⟩) (by assumption) ?_; rotate_left; (intro w hSw; (try dsimp only at hSw); obtain ⟨hSw1, hSw2, hSw3, hSw4, hSw5⟩ := hSw; go_simp; first | done | with_reducible rfl); (try simp only [Act.put, List.setIfInBounds_toArray, List.set_cons_zero, List.set_cons_succ])
                      refine wpAnyH_take (i := 13) (oi := ⟨some 123, _, _, _, _, _⟩) (v := ?_) rfl (by kernel_rfl) (by kernel_rfl) (by kernel_rfl) (fun _ _ _ h => h) (Or.inl ⟨by kernel_rfl, ?_⟩) (by assumption) ?_; rotate_left; (intro w hSw; (try dsimp only at hSw); obtain ⟨hSw1, hSw2, hSw3, hSw4, hSw5⟩ := hSw; go_simp; first | done | with_reducible rfl); (try simp only [Act.put, List.setIfInBounds_toArray, List.set_cons_zero, List.set_cons_succ])
                      refine wpAnyH_take (i := 14) (oi := ⟨some 124, _, _, _, _, _⟩) (v := ?_) rfl (by kernel_rfl) (by kernel_rfl) (by kernel_rfl) (fun _ _ _ h => h) (Or.inl ⟨by kernel_rfl, ?_⟩) (by assumption) ?_; rotate_left; (intro w hSw; (try dsimp only at hSw); obtain ⟨hSw1, hSw2, hSw3, hSw4, hSw5⟩ := hSw; go_simp; first | done | with_reducible rfl); (try simp only [Act.put, List.setIfInBounds_toArray, List.set_cons_zero, List.set_cons_succ])
                      refine wpAnyH_take (i := 15) (oi := ⟨some 125, _, _, _, _, _⟩) (v := ?_) rfl (by kernel_rfl) (by kernel_rfl) (by kernel_rfl) (fun _ _ _ h => h) (Or.inl ⟨by kernel_rfl, ?_⟩) (by assumption) ?_; rotate_left; (intro w hSw; (try dsimp only at hSw); obtain ⟨hSw1, hSw2, hSw3, hSw4, hSw5⟩ := hSw; go_simp; first | done | with_reducible rfl); (try simp only [Act.put, List.setIfInBounds_toArray, List.set_cons_zero, List.set_cons_succ])
                      refine wpAnyH_take (i := 16) (oi := ⟨some 126, _, _, _, _, _⟩) (v := ?_) rfl (by kernel_rfl) (by kernel_rfl) (by kernel_rfl) (fun _ _ _ h => h) (Or.inl ⟨by kernel_rfl, ?_⟩) (by assumption) ?_; rotate_left; (intro w hSw; (try dsimp only at hSw); obtain ⟨hSw1, hSw2, hSw3, hSw4, hSw5⟩ := hSw; go_simp; first | done | with_reducible rfl); (try simp only [Act.put, List.setIfInBounds_toArray, List.set_cons_zero, List.set_cons_succ])
                      refine wpAnyH_take (i := 17) (oi := ⟨some 127, _, _, _, _, _⟩) (v := ?_) rfl (by kernel_rfl) (by kernel_rfl) (by kernel_rfl) (fun _ _ _ h => h) (Or.inl ⟨by kernel_rfl, ?_⟩) (by assumption) ?_; rotate_left; (intro w hSw; (try dsimp only at hSw); obtain ⟨hSw1, hSw2, hSw3, hSw4, hSw5⟩ := hSw; go_simp; first | done | with_reducible rfl); (try simp only [Act.put, List.setIfInBounds_toArray, List.set_cons_zero, List.set_cons_succ])
                      refine wpAnyH_take (i := 18) (oi := ⟨some 128, _, _, _, _, _⟩) (v := ?_) rfl (by kernel_rfl) (by kernel_rfl) (by kernel_rfl) (fun _ _ _ h => h) (Or.inl ⟨by kernel_rfl, ?_⟩) (by assumption) ?_; rotate_left; (intro w hSw; (try dsimp only at hSw); obtain ⟨hSw1, hSw2, hSw3, hSw4, hSw5⟩ := hSw; go_simp; first | done | with_reducible rfl); (try simp only [Act.put, List.setIfInBounds_toArray, List.set_cons_zero, List.set_cons_succ])
                      refine wpAnyH_take (i := 19) (oi := ⟨some 129, _, _, _, _, _⟩) (v := ?_) rfl (by kernel_rfl) (by kernel_rfl) (by kernel_rfl) (fun _ _ _ h => h) (Or.inl ⟨by kernel_rfl, ?_⟩) (by assumption) ?_; rotate_left; (intro w hSw; (try dsimp only at hSw); obtain ⟨hSw1, hSw2, hSw3, hSw4, hSw5⟩ := hSw; go_simp; first | done | with_reducible rfl); (try simp only [Act.put, List.setIfInBounds_toArray, List.set_cons_zero, List.set_cons_succ])
                      refine wpAnyH_take (i := 20) (oi := ⟨some 130, _, _, _, _, _⟩) (v := ?_) rfl (by kernel_rfl) (by kernel_rfl) (by kernel_rfl) (fun _ _ _ h => h) (Or.inl ⟨by kernel_rfl, ?_⟩) (by assumption) ?_; rotate_left; (intro w hSw; (try dsimp only at hSw); obtain ⟨hSw1, hSw2, hSw3, hSw4, hSw5⟩ := hSw; go_simp; first | done | with_reducible rfl); (try simp only [Act.put, List.setIfInBounds_toArray, List.set_cons_zero, List.set_cons_succ])
                      refine wpAnyH_take (i := 21) (oi := ⟨some 131, _, _, _, _, _⟩) (v := ?_) rfl (by kernel_rfl) (by kernel_rfl) (by kernel_rfl) (fun _ _ _ h => h) (Or.inl ⟨by kernel_rfl, ?_⟩) (by assumption) ?_; rotate_left; (intro w hSw; (try dsimp only at hSw); obtain ⟨hSw1, hSw2, hSw3, hSw4, hSw5⟩ := hSw; go_simp; first | done | with_reducible rfl); (try simp only [Act.put, List.setIfInBounds_toArray, List.set_cons_zero, List.set_cons_succ])
                      refine wpAnyH_take (i := 22) (oi := ⟨some 132, _, _, _, _, _⟩) (v := ?_) rfl (by kernel_rfl) (by kernel_rfl) (by kernel_rfl) (fun _ _ _ h => h) (Or.inl ⟨by kernel_rfl, ?_⟩) (by assumption) ?_; rotate_left; (intro w hSw; (try dsimp only at hSw); obtain ⟨hSw1, hSw2, hSw3, hSw4, hSw5⟩ := hSw; go_simp; first | done | with_reducible rfl); (try simp only [Act.put, List.setIfInBounds_toArray, List.set_cons_zero, List.set_cons_succ])
                      refine wpAnyH_take (i := 23) (oi := ⟨some 133, _, _, _, _, _⟩) (v := ?_) rfl (by kernel_rfl) (by kernel_rfl) (by kernel_rfl) (fun _ _ _ h => h) (Or.inl ⟨by kernel_rfl, ?_⟩) (by assumption) ?_; rotate_left; (intro w hSw; (try dsimp only at hSw); obtain ⟨hSw1, hSw2, hSw3, hSw4, hSw5⟩ := hSw; go_simp; first | done | with_reducible rfl); (try simp only [Act.put, List.setIfInBounds_toArray, List.set_cons_zero, List.set_cons_succ])
                      refine wpAnyH_take (i := 24) (oi := ⟨some 134, _, _, _, _, _⟩) (v := ?_) rfl (by kernel_rfl) (by kernel_rfl) (by kernel_rfl) (fun _ _ _ h => h) (Or.inl ⟨by kernel_rfl, ?_⟩) (by assumption) ?_; rotate_left; (intro w hSw; (try dsimp only at hSw); obtain ⟨hSw1, hSw2, hSw3, hSw4, hSw5⟩ := hSw; go_simp; first | done | with_reducible rfl); (try simp only [Act.put, List.setIfInBounds_toArray, List.set_cons_zero, List.set_cons_succ])
                      refine wpAnyH_take (i := 25) (oi := ⟨some 135, _, _, _, _, _⟩) (v := ?_) rfl (by kernel_rfl) (by kernel_rfl) (by kernel_rfl) (fun _ _ _ h => h) (Or.inl ⟨by kernel_rfl, ?_⟩) (by assumption) ?_; rotate_left; (intro w hSw; (try dsimp only at hSw); obtain ⟨hSw1, hSw2, hSw3, hSw4, hSw5⟩ := hSw; go_simp; first | done | with_reducible rfl); (try simp only [Act.put, List.setIfInBounds_toArray, List.set_cons_zero, List.set_cons_succ])
                      refine wpAnyH_done (by kernel_rfl) ?_ _
                      go_wp2_with fail
                      go_roundw
                      case rel => exact ⟨q + 1, by omega, by go_num, hS7.2.2.2.2⟩
                      case measure => simp [intOf]; omega
                · go_wp2_with fail
                  go_roundw
                  case rel => exact ⟨j + 1, by omega, by go_num, hbo.trans ((b5'.trans (hbi.mono hwi)).mono hbo.size)⟩
                  case measure => simp [intOf]; omega
          · go_wp2_with fail
            refine (wakes_any _ hS1).mono ?_
            rintro e w4 ⟨rfl, b4⟩
            go_wp2_with fail
            go_ret
            exact ⟨rfl, H1.below.trans (b4.mono H1.below.size)⟩
end Go.Proofs.YtjimnkbgnblanaaDoor
