/- slices.Sorted(maps.Keys(m)) at a map of a call's own, from ints, whose entries are known. collect.reached: the places that are reached. collect.Reached and collect.Run. collect.Run. pleachlaw05: leaf, cell, wakes. -/
import Derived.Test.YtaemfjmmklpjeaaGreatDoorIterI
import Derived.Test.YtaemfjmmklpjeaaGreatDoorCoD
import Derived.WalkKit
import Derived.Test.YtaemfjmmklpjeaaGreatDoorCellA
import Derived.LoopTactic
import Derived.LoopNIn
import Derived.Test.YtaemfjmmklpjeaaGreatDoorCoCol
set_option linter.unusedVariables false
namespace Go.Proofs.YtaemfjmmklpjeaaGreatDoor
open Go.RowKit Go.Maps Go.Sort Go.Shelf

def intVal : Value → Int
  | .int _ a => a
  | _ => 0
theorem intsK : Tryz.prog.underlying 3 = some (.int .i64) := Tryz.underlying3
theorem nat_wf {n : Nat} (h : n < 4611686018427387904) : (Lit.int .i64 (n : Int)).wf = true := by
  unfold Lit.wf
  simp only [Bool.and_eq_true, decide_eq_true_eq]
  exact ⟨(by show (-9223372036854775808 : Int) ≤ n; omega), (by show (n : Int) ≤ 9223372036854775807; omega)⟩
theorem set_owned {W : World} {m : Nat} {S : List Nat} (hS : S.Nodup) (hlt : ∀ n ∈ S, n < 4611686018427387904) (hl : S.length ≤ 2000000) (h : W.heap[m]? = some (.map (entsV (setV S)) S.length)) :
    ∃ D0 : DataW Unit, W.ownsMap Tryz.prog 3 (fun _ => some (.nil, [])) m S.length D0 ∧ (intKeys D0).Perm (S.map fun n : Nat => (n : Int)) ∧ Maps.size D0 = S.length := by
  have hrd : ∀ x ∈ (entsV (setV S)).toList, ∃ n ∈ S, x.key = .int .i64 n ∧ WideElems.rd (H := Unit) Tryz.prog 3 (fun _ => some (.nil, [])) x = some (.int .i64 n, .nil) := by
    intro x hx
    obtain ⟨n, hn, hk, _⟩ := setV_at hx
    refine ⟨n, hn, hk, ?_⟩
    unfold WideElems.rd
    rw [hk]
    have : keyOf Tryz.prog 3 (.int .i64 (n : Int)) = some (.int .i64 n) := by
      unfold keyOf
      simp only [intsK]
      unfold mapKey
      simp only [intsK]
      rw [if_pos ⟨trivial, nat_wf (hlt n hn)⟩]
    rw [this]
    rfl
  have hsz : (entsV (setV S)).size = S.length := by simp [entsV, setV]
  refine ⟨_, ⟨entsV (setV S), S.length, h, ⟨by rw [hsz]; unfold maxLen; omega, ⟨fun x hx => by obtain ⟨_, _, _, hb⟩ := setV_at hx; exact hb, by rw [setV_borns]; exact List.nodup_range, ?_⟩, fun x hx => by obtain ⟨n, _, _, hr⟩ := hrd x hx; exact ⟨_, hr⟩⟩, by rw [hsz]; exact Nat.le_refl _, rfl⟩, ?_, ?_⟩
  · rw [setV_keys]
    refine (List.pairwise_map.2 (hS.imp fun {a b} hab e => hab ?_))
    simp at e
    omega
  · have hp := (WideShapes.sorted_perm ((entsV (setV S)).toList.map (WideElems.rg (H := Unit) Tryz.prog 3 (fun _ => some (.nil, []))))).map (fun p : Lit × DataW Unit => Go.intOf p.1)
    refine hp.trans ?_
    rw [List.map_map]
    have : (entsV (setV S)).toList.map ((fun p : Lit × DataW Unit => Go.intOf p.1) ∘ WideElems.rg (H := Unit) Tryz.prog 3 (fun _ => some (.nil, []))) = S.map fun n : Nat => (n : Int) := by
      have h1 : ∀ x ∈ (entsV (setV S)).toList, ((fun p : Lit × DataW Unit => Go.intOf p.1) ∘ WideElems.rg (H := Unit) Tryz.prog 3 (fun _ => some (.nil, []))) x = intVal x.key := by
        intro x hx
        obtain ⟨n, _, hk, hr⟩ := hrd x hx
        simp only [Function.comp]
        rw [WideElems.rg_of hr, hk]
        rfl
      rw [List.map_congr_left h1, show (fun a : MapEntry => intVal a.key) = intVal ∘ (fun a : MapEntry => a.key) from rfl, ← List.map_map, setV_keys, List.map_map]
      rfl
    rw [this]
  · show (List.foldr DataW.insert [] _).length = _
    rw [(WideShapes.sorted_perm _).length_eq, List.length_map, Array.length_toList, hsz]

theorem keys5_any (mb : Option Nat) (W : World) : Calls Tryz.prog 58 #[.map mb] W fun e w' => e = .returned (.func (.func 76) #[] #[.pointer (some ⟨W.heap.size, 0, none⟩)]) ∧ w' = W.alloc (.cells #[.map mb] 104) :=
  callsIn_wide.1 (AnyZI.keys_in Tryz.keysA Fence.wide 6 trivial rfl mb W)
theorem sorts5 (m : Nat) : AnyZI.SortsIn Tryz.prog Tryz.sortedA_ren Fence.wide m :=
  ⟨fun blk off cap ss W hH hblk hsz => callsIn_wide.2 (AnyM.slices_Sort_int Tryz.sortA blk off cap ss W hH hblk hsz),
   fun p cap W => callsIn_wide.2 (AnyM.slices_Sort_int_none Tryz.sortA p cap W)⟩

theorem sorted5_any (m : Nat) (S : List Nat) (w : World) (hS : S.Nodup) (hlt : ∀ n ∈ S, n < 4611686018427387904) (hl : S.length ≤ 2000000) (h : w.heap[m]? = some (.map (entsV (setV S)) S.length)) :
    Calls Tryz.prog 57 #[.func (.func 76) #[] #[.pointer (some ⟨w.heap.size, 0, none⟩)]] (w.alloc (.cells #[.map (some m)] 104)) fun e w' =>
      ∃ (v : Value) (ss : List Nat), e = .returned v ∧ ss.Pairwise (· < ·) ∧ (∀ n, n ∈ ss ↔ n ∈ S) ∧ w'.ownsRow w.heap.size 3 1 v ss.length (ss.map fun n : Nat => Value.int .i64 (n : Int)) ∧ Below w.heap.size w w' := by
  obtain ⟨D0, hown, hperm, hsize⟩ := set_owned hS hlt hl h
  have hbl := hown.lt
  have hseq : SeqGives Fence.wide 2 Tryz.prog 76 #[.pointer (some ⟨w.heap.size, 0, none⟩)] encZ (fun ss => ss.Perm (intKeys D0)) (Maps.size D0) (w.alloc (.cells #[.map (some m)] 104)) :=
    AnyZI.keys_gives (ρ := Tryz.keysA_ren) { Tryz.keysA with } Fence.wide _ trivial rfl (by omega) w.heap.size m S.length D0 _ (by simp) (by simp) (by
      obtain ⟨es, clock, hb, Ft, hs, hD⟩ := hown
      exact ⟨es, clock, (Below.heap_alloc _ _ m hbl).trans hb, Ft, hs, hD⟩)
  have cS := AnyZI.sorted_in Tryz.sortedA Fence.wide 5 trivial trivial trivial trivial rfl (by omega) (sorts5 _) (enters_of Tryz.func75 (by kernel_rfl) rfl) 76 #[.pointer (some ⟨w.heap.size, 0, none⟩)] trivial (enters_of Tryz.func76 (by kernel_rfl) rfl) _ _ (by rw [hsize]; unfold maxLen; omega) (by rw [hsize]; omega) _ hseq
  change CallsIn _ _ Tryz.prog 57 _ _ _ at cS
  refine (callsIn_wide.1 cS).mono ?_
  rintro e w' ⟨v, ss, rfl, hp, hrow, hnil, hb⟩
  have tr : ∀ a b c : Int, leI a b = true → leI b c = true → leI a c = true := fun a b c h1 h2 => by simp only [leI, decide_eq_true_eq] at *; exact Int.le_trans h1 h2
  have tot : ∀ a b : Int, (leI a b || leI b a) = true := fun a b => by simp only [leI, Bool.or_eq_true, decide_eq_true_eq]; exact Int.le_total a b
  obtain ⟨q, hq⟩ : ∃ q, q = ss.mergeSort leI := ⟨_, rfl⟩
  have hqp : q.Perm (S.map fun n : Nat => (n : Int)) := by rw [hq]; exact (List.mergeSort_perm ss leI).trans (hp.trans hperm)
  have hqs : q.Pairwise (fun a b => leI a b = true) := by rw [hq]; exact List.pairwise_mergeSort tr tot ss
  have hqm : ∀ z, z ∈ q ↔ ∃ n ∈ S, (n : Int) = z := fun z => by rw [hqp.mem_iff, List.mem_map]
  have hqn : q.Nodup := hqp.symm.nodup (List.pairwise_map.2 (hS.imp fun {a b} hab e => hab (by omega)))
  refine ⟨v, q.map Int.toNat, rfl, ?_, fun n => ?_, ?_, ((Below.refl _ w).alloc (Nat.le_refl _) _).trans (hb.mono (by simp))⟩
  · refine List.pairwise_map.2 ?_
    have hboth := hqs.and hqn
    refine hboth.imp_of_mem fun {a b} ha hb hab => ?_
    obtain ⟨n, _, rfl⟩ := (hqm a).1 ha
    obtain ⟨k, _, rfl⟩ := (hqm b).1 hb
    have h1 := hab.1
    have h2 := hab.2
    simp only [leI, decide_eq_true_eq] at h1
    show ((n : Int)).toNat < ((k : Int)).toNat
    have : n ≠ k := fun e => h2 (by rw [e])
    omega
  · rw [List.mem_map]
    constructor
    · rintro ⟨z, hz, rfl⟩
      obtain ⟨k, hk, rfl⟩ := (hqm z).1 hz
      simpa using hk
    · intro hn
      exact ⟨(n : Int), (hqm _).2 ⟨n, hn, rfl⟩, by simp⟩
  · have hmap : (q.map Int.toNat).map (fun n : Nat => Value.int .i64 (n : Int)) = q.map encZ := by
      rw [List.map_map]
      refine List.map_congr_left fun z hz => ?_
      obtain ⟨k, _, rfl⟩ := (hqm z).1 hz
      simp [encZ]
    have hlen : (q.map Int.toNat).length = ss.length := by rw [List.length_map, hq, List.length_mergeSort]
    rw [hmap, hlen]
    have hr2 : w'.ownsRow (w.alloc (.cells #[.map (some m)] 104)).heap.size 3 1 v ss.length (q.map encZ) := by rw [hq]; exact hrow
    exact ownsRow_base_a hr2 (by simp)
end Go.Proofs.YtaemfjmmklpjeaaGreatDoor
set_option linter.unusedVariables false
namespace Go.Proofs.YtaemfjmmklpjeaaGreatDoor
open Go.RowKit

theorem seeRow_cells {w : World} {g : Nat} {L : List HW} (hg : g < w.heap.size) (h : WordsIn w g L) : SeeRow w (some ⟨g, 0, none⟩) (L.map hwq) := by
  intro j q hq
  rw [List.getElem?_map] at hq
  cases hx : L[j]? with
  | none => rw [hx] at hq; cases hq
  | some x =>
    rw [hx] at hq
    cases hq
    have key : ∀ c0 c1 c2 c3 c4 c5 c6, x.cells = [c0, c1, c2, c3, c4, c5, c6] → ElemW w ⟨g, 0, none⟩ j (.agg #[c0, c1, c2, c3, c4, c5, c6]) := by
      intro c0 c1 c2 c3 c4 c5 c6 hc
      have ha : (⟨g, 0, none⟩ : Addr).add (j * 7) = ⟨g, j * 7, none⟩ := by unfold Addr.add; split <;> simp_all
      refine ⟨c0, c1, c2, c3, c4, c5, c6, rfl, ?_, ?_, ?_, ?_, ?_, ?_, ?_⟩
      · rw [ha]; exact h j x hx 0 c0 (by rw [hc]; rfl)
      · rw [ha]; exact h j x hx 1 c1 (by rw [hc]; rfl)
      · rw [ha]; exact h j x hx 2 c2 (by rw [hc]; rfl)
      · rw [ha]; exact h j x hx 3 c3 (by rw [hc]; rfl)
      · rw [ha]; exact h j x hx 4 c4 (by rw [hc]; rfl)
      · rw [ha]; exact h j x hx 5 c5 (by rw [hc]; rfl)
      · rw [ha]; exact h j x hx 6 c6 (by rw [hc]; rfl)
    cases x with
    | ref a => exact ⟨_, _, rfl, hg, key _ _ _ _ _ _ _ rfl, 0, 0, ⟨#[]⟩, ⟨#[]⟩, none, 0, 0, rfl⟩
    | leaf x => exact ⟨_, _, rfl, hg, key _ _ _ _ _ _ _ rfl, x.k, x.n, x.s, x.t, none, 0, 0, rfl⟩

theorem own_low {w : World} {base base' : Nat} {e : TypeId} {size : Nat} {v : Value} {n : Nat} {xs : List Value} (h : w.ownsRow base e size v n xs) (hb : base' ≤ base) : w.ownsRow base' e size v n xs := by
  refine ⟨h.1, h.2.imp id ?_⟩
  rintro ⟨g, cap, cur, rfl, h1, h2⟩
  exact ⟨g, cap, cur, rfl, Nat.le_trans hb h1, h2⟩
theorem own_take {w : World} {base g n cap : Nat} {e : TypeId} {xs : List Value} {x : Value} (h : w.ownsRow base e 1 (.slice (some ⟨g, 0, none⟩) (n + 1) cap) (n + 1) (xs ++ [x])) (hl : xs.length = n) : w.ownsRow base e 1 (.slice (some ⟨g, 0, none⟩) n cap) n xs := by
  refine ⟨by omega, .inr ?_⟩
  rcases h.2 with ⟨e, _⟩ | ⟨g', cap', cur, e, h1, h2, h3, h4, h5, h6⟩
  · cases e
  · cases e
    refine ⟨g, cap, cur, rfl, h1, h2, by omega, h4, h5, ?_⟩
    have e1 : cur.toList.take n = (cur.toList.take (n + 1)).take n := by rw [List.take_take, Nat.min_eq_left (Nat.le_succ n)]
    rw [Nat.mul_one] at h6
    rw [Nat.mul_one, e1, h6, ← hl]
    exact List.take_left' rfl
theorem mkmap5 (w : World) : Sem.run Tryz.prog (Instr.makeMap 104 none) w = .ok (.map (some w.heap.size)) (w.alloc (.map #[] 0)) := by kernel_rfl
def coMu (N m ob : Nat) (W : World) : Nat := (match W.heap[m]? with | some (.map es _) => 2 * (N - es.size) | _ => 0) + (match W.heap[ob]? with | some (.cells cs _ _) => (match cs[0]? with | some (Value.slice _ n _) => n | _ => 0) | _ => 0)
theorem coMu_at {N B : Nat} {W : World} {sb ob m : Nat} {A : Option Addr} {n cap : Nat} {S O : List Nat} (h : SeeAt B W sb ob m (.slice A n cap) S O) : coMu N m ob W = 2 * (N - S.length) + n := by
  unfold coMu
  rw [h.mp, h.obx]
  simp [entsV, setV]
theorem SeeAt.len {B : Nat} {W : World} {sb ob m : Nat} {ov : Value} {S O : List Nat} (h : SeeAt B W sb ob m ov S O) : ∃ A cap, ov = .slice A O.length cap := by
  rcases h.row.2 with ⟨rfl, h0⟩ | ⟨g, cap, cur, rfl, _⟩
  · exact ⟨none, 0, by rw [h0]⟩
  · exact ⟨_, _, rfl⟩

set_option maxRecDepth 100000 in
set_option maxHeartbeats 8000000 in
theorem reached_any {base hb : Nat} {s : HSt} (hg : HGood s.cs) (RL : List (Bool × Nat)) (rs : List Nat) (hr : ∀ n, (true, n) ∈ RL ↔ n ∈ rs) (hlt : ∀ n ∈ rs, n < s.cs.length) (A : Option Addr) (cap : Nat) (w : World) (h : s.At base w hb) (hR : SeeRow w A RL) (hl : RL.length ≤ 1000000)
    (ha : ∀ q ∈ RL, q.2 < 4611686018427387904) :
    Calls Tryz.prog 36 #[.pointer (some ⟨hb, 0, none⟩), .slice A RL.length cap] w fun e w' => ∃ v, e = .returned v ∧ w'.ownsRow w.heap.size 3 1 v (reachL s.cs rs).length ((reachL s.cs rs).map fun n : Nat => Value.int .i64 (n : Int)) ∧ Below w.heap.size w w' := by
  have hmf : ∀ (fn : Fn) (first cap : Array Value) (w : World), (Instr.makeFunc fn first cap).run Tryz.prog w = .ok (.func fn first cap) w := fun _ _ _ _ => rfl
  have hmm := mkmap5
  obtain ⟨w1, hw1⟩ : ∃ w1, w1 = w.alloc (.map #[] 0) := ⟨_, rfl⟩
  obtain ⟨w2, hw2⟩ : ∃ w2, w2 = w1.alloc (.cells #[.map (some w.heap.size)] 104) := ⟨_, rfl⟩
  obtain ⟨w3, hw3⟩ : ∃ w3, w3 = w2.alloc (.cells #[.slice none 0 0] 44) := ⟨_, rfl⟩
  have hs1 : w1.heap.size = w.heap.size + 1 := by rw [hw1]; simp
  have hs2 : w2.heap.size = w.heap.size + 1 + 1 := by rw [hw2]; simp [hs1]
  have b3 : Below w.heap.size w w3 := by rw [hw3, hw2, hw1]; exact (((Below.refl _ w).alloc (Nat.le_refl _) _).alloc (by simp) _).alloc (by simp; omega) _
  have g1 : w3.heap[w.heap.size]? = some (.map #[] 0) := by
    rw [hw3, Below.heap_alloc _ _ _ (by omega), hw2, Below.heap_alloc _ _ _ (by omega), hw1]; exact block_alloc _ _
  have g2 : w3.heap[w.heap.size + 1]? = some (.cells #[.map (some w.heap.size)] 104) := by
    rw [hw3, Below.heap_alloc _ _ _ (by omega), hw2, ← hs1]; exact block_alloc _ _
  have g3 : w3.heap[w.heap.size + 1 + 1]? = some (.cells #[.slice none 0 0] 44) := by rw [hw3, ← hs2]; exact block_alloc _ _
  have hsee : SeeAt w.heap.size w3 (w.heap.size + 1) (w.heap.size + 1 + 1) w.heap.size (.slice none 0 0) [] [] :=
    ⟨g2, g1, g3, ⟨rfl, .inl ⟨rfl, rfl⟩⟩, ⟨by omega, by omega, by omega⟩, by omega, fun k hk => by cases hk⟩
  have hR3 : SeeRow w3 A RL := fun j q hq => by
    obtain ⟨ad, v, e, hlt, hE, hW⟩ := hR j q hq
    exact ⟨ad, v, e, Nat.lt_of_lt_of_le hlt b3.size, hE.keep (b3.block _ hlt), hW⟩
  have HSEE := Lib.hid (see_any A cap RL w3 hsee hR3 (fun ad hA hl0 hf => by
    obtain ⟨ad', v, e, hlt, _⟩ := hR 0 _ (List.getElem?_eq_getElem hl0)
    rw [hA] at e
    cases e
    have := hsee.fp_ge hf
    omega) hl (by simp) b3.size ha)
  have HB := Lib.hid b3
  have HSE := Lib.hid hsee
  have HH := Lib.hid h
  have HG := Lib.hid hg
  have HRR := Lib.hid (And.intro hr hlt)
  clear g1 g2 g3 hs1 hs2 hsee hR3 b3 h hg hr hlt hR ha
  go_enter Tryz.func36, Tryz.ntmps36
  go_upto_region 4 with fail
  rw [← hw1, ← hw2, ← hw3]
  clear hw1 hw2 hw3 hmm
  go_wp2_with fail
  refine HSEE.out.mono ?_
  rintro e w4 ⟨rfl, ov4, hs4, hm4, ho4⟩
  have HX4 : Hid (SeeAt w.heap.size w4 (w.heap.size + 1) (w.heap.size + 1 + 1) w.heap.size ov4 (seeF ([], []) RL).1 (seeF ([], []) RL).2 ∧ Dfs s.cs rs (seeF ([], []) RL).1 (seeF ([], []) RL).2 ∧ Below w.heap.size w w4) :=
    ⟨hs4, dfs_start RL HRR.out.1, HB.out.trans (hm4.below HB.out.size (fun i hi => HSE.out.fp_ge hi))⟩
  clear hs4 hm4 ho4
  go_wp2_with fail
  go_loopw [] (fun wr => ∃ ov S O, Hid (SeeAt w.heap.size wr (w.heap.size + 1) (w.heap.size + 1 + 1) w.heap.size ov S O ∧ Dfs s.cs rs S O ∧ Below w.heap.size w wr)) (fun wr => coMu s.cs.length w.heap.size (w.heap.size + 1 + 1) wr)
  case atStart => exact ⟨ov4, _, _, HX4.out⟩
  case round =>
    obtain ⟨ov, S, O, HX⟩ := hrel
    obtain ⟨wq, hwq⟩ : ∃ wq, wq = wr := ⟨_, rfl⟩
    subst hwq
    obtain ⟨A1, cap1, hov⟩ := HX.out.1.len
    subst hov
    have t0 : wq.cell? ⟨w.heap.size + 1 + 1, 0, none⟩ = some (.slice A1 O.length cap1) := cell_of_row HX.out.1.obx rfl
    by_cases h0 : O = []
    · subst h0
      have s0 : wq.cell? ⟨w.heap.size + 1, 0, none⟩ = some (.map (some w.heap.size)) := cell_of_row HX.out.1.sbx rfl
      go_wp2_with fail
      refine (keys5_any _ _).mono ?_
      rintro e w5 ⟨rfl, rfl⟩
      clear t0 s0
      have hSlt : ∀ n ∈ S, n < s.cs.length := fun n hn => (HX.out.2.1.rch n hn).lt HG.out HRR.out.2
      have hlen := nodup_len _ _ HX.out.2.1.nodup hSlt
      have hcs := HG.out.len
      have HSO := Lib.hid (sorted5_any w.heap.size S wq HX.out.2.1.nodup (fun n hn => by have := hSlt n hn; omega) (by omega) HX.out.1.mp)
      clear hSlt
      go_wp2_with fail
      refine HSO.out.mono ?_
      rintro e w6 ⟨v, ss, rfl, hup, hmem, hrow, hb⟩
      have hss : ss = reachL s.cs rs := up_ext hup (reachL_up _ _) (fun n => by rw [hmem, dfs_end HX.out.2.1 n, reachL_mem HG.out HRR.out.2])
      subst hss
      have HRW := Lib.hid (own_low hrow HX.out.2.2.size)
      have HB6 := Lib.hid (HX.out.2.2.trans (hb.mono HX.out.2.2.size))
      clear hrow hb hup hmem
      go_wp2_with fail
      go_ret
      exact ⟨v, rfl, HRW.out, HB6.out⟩
    · obtain ⟨O2, a, rfl⟩ : ∃ O2 a, O = O2 ++ [a] := ⟨O.dropLast, O.getLast h0, (List.dropLast_concat_getLast h0).symm⟩
      obtain ⟨g, hA1⟩ : ∃ g, A1 = some ⟨g, 0, none⟩ := by
        rcases HX.out.1.row.2 with ⟨e, h1⟩ | ⟨g, cap, cur, e, _⟩
        · simp at h1
        · cases e; exact ⟨g, rfl⟩
      subst hA1
      obtain ⟨N1, hN1⟩ : ∃ N1, N1 = O2.length := ⟨_, rfl⟩
      have hlen : (O2 ++ [a]).length = N1 + 1 := by simp [hN1]
      rw [hlen] at t0
      have hca : wq.cell? ((⟨g, 0, none⟩ : Addr).add N1) = some (.int .i64 a) := HX.out.1.row.cells (g := g) rfl N1 _ (by rw [hN1, List.map_append, List.getElem?_append_right (by simp)]; simp)
      rw [show (⟨g, 0, none⟩ : Addr).add N1 = ⟨g, N1, none⟩ by unfold Addr.add; split <;> simp_all] at hca
      have haS := HX.out.2.1.sub a (by simp)
      have haN : a < s.cs.length := (HX.out.2.1.rch a haS).lt HG.out HRR.out.2
      have hbN : N1 + 1 ≤ 1048576 := by
        have h1 := nodup_len _ _ HX.out.2.1.ond (fun n hn => (HX.out.2.1.rch n (HX.out.2.1.sub n hn)).lt HG.out HRR.out.2)
        rw [hlen] at h1
        have := HG.out.len
        omega
      obtain ⟨c, hc⟩ : ∃ c, s.cs[a]? = some c := ⟨s.cs[a], List.getElem?_eq_getElem haN⟩
      have hcl := HG.out.len_le hc
      have HC := Lib.hid (Cell_any wq (HeapAt.under HH.out HX.out.2.2) a c hc (by omega))
      have HCC := Lib.hid hc
      have HNL := Lib.hid (And.intro hN1 hlen)
      clear hN1 hlen haS hc
      go_wp2_with fail
      refine HC.out.mono ?_
      rintro e w5 ⟨A5, cap5, rfl, b5, hw5⟩
      have h5 := HX.out.1.under b5
      have t5 : w5.cell? ⟨w.heap.size + 1 + 1, 0, none⟩ = some (.slice (some ⟨g, 0, none⟩) (N1 + 1) cap1) := by rw [← HNL.out.2]; exact cell_of_row h5.obx rfl
      have H5 := Lib.hid h5
      have B5 := Lib.hid b5
      have HW5 := Lib.hid hw5
      clear h5 b5 hw5 t0 hca
      have z0 : (w5.alloc (.cells #[.int .i8 0, .int .i64 0, .slice none 0 0] 62)).cell? ⟨w5.heap.size, 0, none⟩ = some (.int .i8 0) := cell_of_row (block_alloc _ _) rfl
      have zf0 : (w5.alloc (.cells #[.int .i8 0, .int .i64 0, .slice none 0 0] 62)).frozen? ⟨w5.heap.size, 0, none⟩ = false := free_of_row (block_alloc _ _)
      have z1 : (w5.alloc (.cells #[.int .i8 0, .int .i64 0, .slice none 0 0] 62)).cell? ⟨w5.heap.size, 1, none⟩ = some (.int .i64 0) := cell_of_row (block_alloc _ _) rfl
      have zf1 : (w5.alloc (.cells #[.int .i8 0, .int .i64 0, .slice none 0 0] 62)).frozen? ⟨w5.heap.size, 1, none⟩ = false := free_of_row (block_alloc _ _)
      have z2 : (w5.alloc (.cells #[.int .i8 0, .int .i64 0, .slice none 0 0] 62)).cell? ⟨w5.heap.size, 2, none⟩ = some (.slice none 0 0) := cell_of_row (block_alloc _ _) rfl
      have zf2 : (w5.alloc (.cells #[.int .i8 0, .int .i64 0, .slice none 0 0] 62)).frozen? ⟨w5.heap.size, 2, none⟩ = false := free_of_row (block_alloc _ _)
      go_upto_region 8 with fail
      have b6 : Below w5.heap.size w5 (w5.alloc (.cells #[.int .i8 c.k, .int .i64 c.size, .slice A5 c.L.length cap5] 62)) := (Below.refl _ _).alloc (Nat.le_refl _) _
      have g6 : (w5.alloc (.cells #[.int .i8 c.k, .int .i64 c.size, .slice A5 c.L.length cap5] 62)).heap[w5.heap.size]? = some (.cells #[.int .i8 c.k, .int .i64 c.size, .slice A5 c.L.length cap5] 62) := block_alloc _ _
      generalize (w5.alloc (.cells #[.int .i8 c.k, .int .i64 c.size, .slice A5 c.L.length cap5] 62)) = w6 at b6 g6 ⊢
      have h6 := H5.out.under b6
      have hbw5 : wq.heap.size ≤ w5.heap.size := B5.out.size
      have t6 : w6.cell? ⟨w.heap.size + 1 + 1, 0, none⟩ = some (.slice (some ⟨g, 0, none⟩) (N1 + 1) cap1) := by rw [← HNL.out.2]; exact cell_of_row h6.obx rfl
      have tf6 : w6.frozen? ⟨w.heap.size + 1 + 1, 0, none⟩ = false := free_of_row h6.obx
      have hcap : N1 + 1 ≤ cap1 := by
        rcases h6.row.2 with ⟨e, _⟩ | ⟨g', cap', cur, e, _, _, e2, _⟩
        · cases e
        · cases e; rw [HNL.out.2] at e2; exact e2
      have H6 := Lib.hid h6
      have B6 := Lib.hid b6
      have G6 := Lib.hid g6
      clear z0 zf0 z1 zf1 z2 zf2 t5 h6 b6 g6
      go_upto_region 9 with fail
      obtain ⟨w7, hw7⟩ : ∃ w7, w7 = (w6.setCell ⟨w.heap.size + 1 + 1, 0, none⟩ (.slice (some ⟨g, 0, none⟩) N1 cap1)) := ⟨_, rfl⟩
      rw [← hw7]
      have hoth : ∀ k, k ≠ w.heap.size + 1 + 1 → w7.heap[k]? = w6.heap[k]? := fun k hk => by rw [hw7]; exact Below.heap_setCell _ _ _ _ (fun e => hk e)
      have hob := heap_lt HX.out.1.obx
      have hgo := H6.out.apart g rfl
      have h7 : SeeAt w.heap.size w7 (w.heap.size + 1) (w.heap.size + 1 + 1) w.heap.size (.slice (some ⟨g, 0, none⟩) N1 cap1) S O2 := by
        refine ⟨(hoth _ (by omega)).trans H6.out.sbx, (hoth _ (by omega)).trans H6.out.mp, by rw [hw7]; exact set_row _ H6.out.obx, ?_, H6.out.low, H6.out.ne, fun k hk => ?_⟩
        · have hr := H6.out.row
          rw [HNL.out.2] at hr
          rw [List.map_append] at hr
          have hr2 := own_take hr (by rw [List.length_map]; exact HNL.out.1.symm)
          rw [← HNL.out.1, hw7]
          exact (Mod.setCell (F := fun k => k = w.heap.size + 1 + 1) w6 ⟨w.heap.size + 1 + 1, 0, none⟩ _ (.inl rfl)).row hr2 (fun k hk e => by simp [Value.ownBlock] at hk; exact hgo.2 (hk.trans e))
        · simp [Value.ownBlock] at hk
          subst hk
          exact hgo
      have x7 : w7.cell? ⟨w5.heap.size, 2, none⟩ = some (.slice A5 c.L.length cap5) := cell_of_row ((hoth _ (by omega)).trans G6.out) rfl
      have hsz7 : w7.heap.size = w6.heap.size := by rw [hw7]; simp [World.setCell]
      have hlow7 : w.heap.size ≤ w7.heap.size := by rw [hsz7]; exact Nat.le_trans HX.out.2.2.size (Nat.le_trans B5.out.size B6.out.size)
      have hRow : SeeRow w7 A5 (c.L.map hwq) ∧ ∀ ad, A5 = some ad → 0 < (c.L.map hwq).length → ¬ SFP w.heap.size (w.heap.size + 1 + 1) (.slice (some ⟨g, 0, none⟩) N1 cap1) ad.block := by
        by_cases hL : c.L = []
        · rw [hL]
          exact ⟨(fun j q hq => by simp at hq), (fun ad _ h => by simp at h)⟩
        · obtain ⟨g5, e5, h51, h52, hin⟩ := HW5.out hL
          subst e5
          have hg5 : g5 ≠ w.heap.size + 1 + 1 := by omega
          refine ⟨seeRow_cells (by rw [hsz7]; exact Nat.lt_of_lt_of_le h52 B6.out.size) (hin.keep ((hoth _ hg5).trans (B6.out.block _ h52))), fun ad hA _ hf => ?_⟩
          cases hA
          have hgl := (HX.out.1.ownlt g rfl).1
          rcases hf with e | e | e
          · have : g5 = w.heap.size := e
            omega
          · exact hg5 e
          · simp [Value.ownBlock] at e
            have : g = g5 := e
            omega
      have HS7 := see_any A5 cap5 (c.L.map hwq) w7 h7 hRow.1 hRow.2 (by rw [List.length_map]; omega) (by rw [← HNL.out.1]; omega) hlow7 (fun q hq => by
        obtain ⟨y, hy, rfl⟩ := List.mem_map.1 hq
        cases y with
        | leaf x => show (0 : Nat) < _; omega
        | ref b => have h1 : b < a := HG.out.low a c HCC.out _ hy; have h2 := HG.out.len; show b < _; omega)
      rw [List.length_map] at HS7
      have HSS := Lib.hid HS7
      have H7 := Lib.hid h7
      have B7 : Hid (Below w.heap.size w w7) := by show Below _ _ _; rw [hw7]; exact ((HX.out.2.2.trans (B5.out.mono HX.out.2.2.size)).trans (B6.out.mono (Nat.le_trans HX.out.2.2.size B5.out.size))).setCell (by show w.heap.size ≤ w.heap.size + 1 + 1; omega) _
      clear hRow HS7 h7 hw7 t6 tf6 hoth hgo hsz7
      go_wp2_with fail
      refine HSS.out.mono ?_
      rintro e w8 ⟨rfl, ov8, h8, m8, -⟩
      have hd := dfs_step HX.out.2.1 HCC.out
      have H8 : Hid (SeeAt w.heap.size w8 (w.heap.size + 1) (w.heap.size + 1 + 1) w.heap.size ov8 (seeF (S, O2) (c.L.map hwq)).1 (seeF (S, O2) (c.L.map hwq)).2 ∧ Dfs s.cs rs (seeF (S, O2) (c.L.map hwq)).1 (seeF (S, O2) (c.L.map hwq)).2 ∧ Below w.heap.size w w8) :=
        ⟨h8, hd.1, B7.out.trans (m8.below hlow7 (fun i hi => H7.out.fp_ge hi))⟩
      obtain ⟨k8, hk1, hk2⟩ := hd.2
      have hmu : coMu s.cs.length w.heap.size (w.heap.size + 1 + 1) w8 < coMu s.cs.length w.heap.size (w.heap.size + 1 + 1) wq := by
        obtain ⟨A8, cap8, e8⟩ := h8.len
        subst e8
        rw [coMu_at h8, coMu_at HX.out.1, hk1, hk2, HNL.out.2, ← HNL.out.1]
        have := nodup_len _ _ hd.1.nodup (fun n hn => (hd.1.rch n hn).lt HG.out HRR.out.2)
        rw [hk1] at this
        omega
      have HMU := Lib.hid hmu
      clear h8 m8 hd hmu hk1 hk2 x7
      go_wp2_with fail
      go_roundw
      case rel => exact ⟨ov8, _, _, H8.out⟩
      case measure => exact HMU.out
end Go.Proofs.YtaemfjmmklpjeaaGreatDoor
set_option linter.unusedVariables false
namespace Go.Proofs.YtaemfjmmklpjeaaGreatDoor
open Go.RowKit

def allMay (N : Nat) (R : List AW) : Bool := R.all fun q => mayW N q.c q.a q.x
def rootsOf (R : List AW) : List Nat := (R.filter (·.c)).map (·.a.toNat)
theorem rootsOf_mem {R : List AW} {n : Nat} : n ∈ rootsOf R ↔ ∃ q ∈ R, q.c = true ∧ q.a.toNat = n := by
  unfold rootsOf
  rw [List.mem_map]
  constructor
  · rintro ⟨q, hq, e⟩
    rw [List.mem_filter] at hq
    exact ⟨q, hq.1, hq.2, e⟩
  · rintro ⟨q, hq, hc, e⟩
    exact ⟨q, List.mem_filter.2 ⟨hq, hc⟩, e⟩
theorem may_ref {N : Nat} {q : AW} (h : mayW N q.c q.a q.x = true) (hc : q.c = true) : 0 ≤ q.a ∧ q.a.toNat < N := by
  unfold mayW at h
  rw [if_pos hc] at h
  simp at h
  omega
theorem may_leaf {N : Nat} {q : AW} (h : mayW N q.c q.a q.x = true) (hc : q.c = false) : q.a = 0 ∧ leafE q.x = 0 := by
  unfold mayW at h
  rw [hc] at h
  simp at h
  exact ⟨h.2, h.1⟩
theorem rootsOf_lt {N : Nat} {R : List AW} (h : allMay N R = true) : ∀ n ∈ rootsOf R, n < N := fun n hn => by
  obtain ⟨q, hq, hc, rfl⟩ := rootsOf_mem.1 hn
  exact (may_ref (List.all_eq_true.1 h q hq) hc).2
theorem seeRow_roots {N cap : Nat} {w : World} {A : Option Addr} {R : List AW} (hR : WRow (· < w.heap.size) w A R.length cap R) (hm : allMay N R = true) : SeeRow w A (R.map fun q => (q.c, q.a.toNat)) := fun j q hj => by
  rw [List.getElem?_map] at hj
  cases hy : R[j]? with
  | none => rw [hy] at hj; cases hj
  | some y =>
    rw [hy] at hj
    obtain rfl : (y.c, y.a.toNat) = q := Option.some.inj hj
    obtain ⟨ad, v, e, hlt, hE, k, n, s, t, A2, len, cap2, rfl, hT⟩ := hR.at_ j y hy
    have ha : ((y.a.toNat : Nat) : Int) = y.a := by
      have h := List.all_eq_true.1 hm y (List.mem_of_getElem? hy)
      cases hc : y.c with
      | true => have := (may_ref h hc).1; omega
      | false => rw [(may_leaf h hc).1]; rfl
    exact ⟨ad, _, e, hlt, hE, k, n, s, t, A2, len, cap2, by rw [ha]⟩

def ReachedP (s : HSt) (R : List AW) (w : World) (e : Ending) (w' : World) : Prop :=
  Below w.heap.size w w' ∧ ((allMay s.cs.length R = true ∧ ∃ v, e = .returned (.tuple #[v, .int .i64 0]) ∧ w'.ownsRow w.heap.size 3 1 v (reachL s.cs (rootsOf R)).length ((reachL s.cs (rootsOf R)).map fun n : Nat => Value.int .i64 (n : Int))) ∨
    (allMay s.cs.length R = false ∧ e = .returned (.tuple #[.slice none 0 0, .int .i64 2])))

set_option maxRecDepth 100000 in
set_option maxHeartbeats 8000000 in
theorem Reached_any {b0 hb : Nat} {s : HSt} (hg : HGood s.cs) (w : World) (h : s.At b0 w hb) (R : List AW) (A : Option Addr) (cap cap' : Nat) (hR : WRow (· < w.heap.size) w A R.length cap' R) (hS : Spans w) (hl : R.length ≤ 1000000) :
    Calls Tryz.prog 13 #[.pointer (some ⟨hb, 0, none⟩), .slice A R.length cap] w (ReachedP s R w) := by
  have HH := Lib.hid h
  have HG := Lib.hid hg
  have HR := Lib.hid hR
  have HS := Lib.hid hS
  clear h hg hR hS
  go_enter Tryz.func13, Tryz.ntmps13
  go_wp2_with fail
  go_loopw [12] (fun i wr => ∃ j : Nat, j ≤ R.length ∧ i = .int .i64 j ∧ Hid (∀ q ∈ R.take j, mayW s.cs.length q.c q.a q.x = true) ∧ Hid (Below w.heap.size w wr)) (fun i _ => R.length - (intOf i).toNat)
  case atStart => exact ⟨0, Nat.zero_le _, rfl, by show ∀ q ∈ R.take 0, _; simp, Below.refl _ _⟩
  case round =>
    obtain ⟨j, hj, rfl, HQ, HB⟩ := hrel
    by_cases hlt : j < R.length
    · obtain ⟨y, hy⟩ : ∃ y, R[j]? = some y := ⟨R[j], List.getElem?_eq_getElem hlt⟩
      obtain ⟨ad, u, rfl, had, hE, hA⟩ := HR.out.at_ j y hy
      have hEr : ElemW wr ad j u := hE.keep (HB.out.block ad.block had)
      obtain ⟨k', m, sx, tx, A3, len3, cap3, rfl, hT⟩ := hA
      obtain ⟨l3, hyx, rfl⟩ : ∃ l3, y.x = .mk k' m sx tx l3 ∧ len3 = l3.length := by
        generalize y.x = z at hT
        cases hT; exact ⟨_, rfl, rfl⟩
      rw [hyx] at hT
      obtain ⟨c0, c1, c2, c3, c4, c5, c6, hcc, e0, e1, e2, e3, e4, e5, e6⟩ := hEr
      simp only [Value.agg.injEq, Array.mk.injEq, List.cons.injEq, and_true] at hcc
      obtain ⟨rfl, rfl, rfl, rfl, rfl, rfl, rfl⟩ := hcc
      obtain ⟨wz, hwz⟩ : ∃ wz, wz = wr.alloc (.cells #[(.bool y.c), (.int .i64 y.a), (.int .i8 k'), (.int .i64 m), (.string sx), (.string tx), (.slice A3 l3.length cap3)] 51) := ⟨_, rfl⟩
      have bz : Below wr.heap.size wr wz := by rw [hwz]; exact (Below.refl _ _).alloc (Nat.le_refl _) _
      have gz : wz.heap[wr.heap.size]? = some (.cells #[(.bool y.c), (.int .i64 y.a), (.int .i8 k'), (.int .i64 m), (.string sx), (.string tx), (.slice A3 l3.length cap3)] 51 (0, 0)) := by rw [hwz]; exact block_alloc _ _
      have bwz : Below w.heap.size w wz := HB.out.trans (bz.mono HB.out.size)
      have HC := Lib.hid (HMay_any y.c y.a k' m sx tx l3 A3 cap3 wz (HeapAt.under HH.out bwz) (hT.later bwz) (HS.out.below bwz HS.out.lt))
      have HBZ := Lib.hid bwz
      have HYX := Lib.hid hyx
      have HY := Lib.hid hy
      have z0 : (wr.alloc (.cells #[(.bool false), (.int .i64 0), (.int .i8 0), (.int .i64 0), (.string ⟨#[]⟩), (.string ⟨#[]⟩), (.slice none 0 0)] 51)).cell? ⟨wr.heap.size, 0, none⟩ = some (.bool false) := cell_of_row (block_alloc _ _) rfl
      have zf0 : (wr.alloc (.cells #[(.bool false), (.int .i64 0), (.int .i8 0), (.int .i64 0), (.string ⟨#[]⟩), (.string ⟨#[]⟩), (.slice none 0 0)] 51)).frozen? ⟨wr.heap.size, 0, none⟩ = false := free_of_row (block_alloc _ _)
      have z1 : (wr.alloc (.cells #[(.bool false), (.int .i64 0), (.int .i8 0), (.int .i64 0), (.string ⟨#[]⟩), (.string ⟨#[]⟩), (.slice none 0 0)] 51)).cell? ⟨wr.heap.size, 1, none⟩ = some (.int .i64 0) := cell_of_row (block_alloc _ _) rfl
      have zf1 : (wr.alloc (.cells #[(.bool false), (.int .i64 0), (.int .i8 0), (.int .i64 0), (.string ⟨#[]⟩), (.string ⟨#[]⟩), (.slice none 0 0)] 51)).frozen? ⟨wr.heap.size, 1, none⟩ = false := free_of_row (block_alloc _ _)
      have z2 : (wr.alloc (.cells #[(.bool false), (.int .i64 0), (.int .i8 0), (.int .i64 0), (.string ⟨#[]⟩), (.string ⟨#[]⟩), (.slice none 0 0)] 51)).cell? ⟨wr.heap.size, 2, none⟩ = some (.int .i8 0) := cell_of_row (block_alloc _ _) rfl
      have zf2 : (wr.alloc (.cells #[(.bool false), (.int .i64 0), (.int .i8 0), (.int .i64 0), (.string ⟨#[]⟩), (.string ⟨#[]⟩), (.slice none 0 0)] 51)).frozen? ⟨wr.heap.size, 2, none⟩ = false := free_of_row (block_alloc _ _)
      have z3 : (wr.alloc (.cells #[(.bool false), (.int .i64 0), (.int .i8 0), (.int .i64 0), (.string ⟨#[]⟩), (.string ⟨#[]⟩), (.slice none 0 0)] 51)).cell? ⟨wr.heap.size, 3, none⟩ = some (.int .i64 0) := cell_of_row (block_alloc _ _) rfl
      have zf3 : (wr.alloc (.cells #[(.bool false), (.int .i64 0), (.int .i8 0), (.int .i64 0), (.string ⟨#[]⟩), (.string ⟨#[]⟩), (.slice none 0 0)] 51)).frozen? ⟨wr.heap.size, 3, none⟩ = false := free_of_row (block_alloc _ _)
      have z4 : (wr.alloc (.cells #[(.bool false), (.int .i64 0), (.int .i8 0), (.int .i64 0), (.string ⟨#[]⟩), (.string ⟨#[]⟩), (.slice none 0 0)] 51)).cell? ⟨wr.heap.size, 4, none⟩ = some (.string ⟨#[]⟩) := cell_of_row (block_alloc _ _) rfl
      have zf4 : (wr.alloc (.cells #[(.bool false), (.int .i64 0), (.int .i8 0), (.int .i64 0), (.string ⟨#[]⟩), (.string ⟨#[]⟩), (.slice none 0 0)] 51)).frozen? ⟨wr.heap.size, 4, none⟩ = false := free_of_row (block_alloc _ _)
      have z5 : (wr.alloc (.cells #[(.bool false), (.int .i64 0), (.int .i8 0), (.int .i64 0), (.string ⟨#[]⟩), (.string ⟨#[]⟩), (.slice none 0 0)] 51)).cell? ⟨wr.heap.size, 5, none⟩ = some (.string ⟨#[]⟩) := cell_of_row (block_alloc _ _) rfl
      have zf5 : (wr.alloc (.cells #[(.bool false), (.int .i64 0), (.int .i8 0), (.int .i64 0), (.string ⟨#[]⟩), (.string ⟨#[]⟩), (.slice none 0 0)] 51)).frozen? ⟨wr.heap.size, 5, none⟩ = false := free_of_row (block_alloc _ _)
      have z6 : (wr.alloc (.cells #[(.bool false), (.int .i64 0), (.int .i8 0), (.int .i64 0), (.string ⟨#[]⟩), (.string ⟨#[]⟩), (.slice none 0 0)] 51)).cell? ⟨wr.heap.size, 6, none⟩ = some (.slice none 0 0) := cell_of_row (block_alloc _ _) rfl
      have zf6 : (wr.alloc (.cells #[(.bool false), (.int .i64 0), (.int .i8 0), (.int .i64 0), (.string ⟨#[]⟩), (.string ⟨#[]⟩), (.slice none 0 0)] 51)).frozen? ⟨wr.heap.size, 6, none⟩ = false := free_of_row (block_alloc _ _)
      have x0 : wz.cell? ⟨wr.heap.size, 0, none⟩ = some (.bool y.c) := cell_of_row gz rfl
      have x1 : wz.cell? ⟨wr.heap.size, 1, none⟩ = some (.int .i64 y.a) := cell_of_row gz rfl
      have x2 : wz.cell? ⟨wr.heap.size, 2, none⟩ = some (.int .i8 k') := cell_of_row gz rfl
      have x3 : wz.cell? ⟨wr.heap.size, 3, none⟩ = some (.int .i64 m) := cell_of_row gz rfl
      have x4 : wz.cell? ⟨wr.heap.size, 4, none⟩ = some (.string sx) := cell_of_row gz rfl
      have x5 : wz.cell? ⟨wr.heap.size, 5, none⟩ = some (.string tx) := cell_of_row gz rfl
      have x6 : wz.cell? ⟨wr.heap.size, 6, none⟩ = some (.slice A3 l3.length cap3) := cell_of_row gz rfl
      clear hE hT bz gz hy bwz hyx
      rw [hwz] at x0 x1 x2 x3 x4 x5 x6
      go_wp2_with fail
      rw [← hwz]
      clear hwz
      refine HC.out.mono ?_
      rintro e w2 ⟨rfl, b2⟩
      have HB2 := Lib.hid (HBZ.out.trans (b2.mono HBZ.out.size))
      clear b2 z0 z1 z2 z3 z4 z5 z6 zf0 zf1 zf2 zf3 zf4 zf5 zf6 x0 x1 x2 x3 x4 x5 x6 e0 e1 e2 e3 e4 e5 e6
      cases hm : mayW s.cs.length y.c y.a (.mk k' m sx tx l3)
      · have hE0 : allMay s.cs.length R = false := by
          rw [← Bool.not_eq_true]
          intro hall
          have := List.all_eq_true.1 hall y (List.mem_of_getElem? HY.out)
          rw [HYX.out, hm] at this
          exact absurd this (by decide)
        have HE0 := Lib.hid hE0
        clear hE0 hm
        go_wp2_with fail
        refine bodyPost_ret (v := .tuple #[.slice none 0 0, .int .i64 2]) (by simp [results, Tryz.f13, go_sem]) rfl ⟨HB2.out, .inr ⟨HE0.out, rfl⟩⟩
      · have HM := Lib.hid hm
        clear hm
        go_wp2_with fail
        go_roundw
        case rel =>
          refine ⟨j + 1, by omega, by go_num, ?_, HB2⟩
          intro q hq
          rw [List.take_add_one, HY.out] at hq
          simp at hq
          rcases hq with hq | rfl
          · exact HQ.out q hq
          · rw [HYX.out]; exact HM.out
        case measure => simp [intOf]; omega
    · obtain rfl : j = R.length := by omega
      have hall : allMay s.cs.length R = true := by
        have := HQ.out
        rw [List.take_of_length_le (Nat.le_refl _)] at this
        exact List.all_eq_true.2 this
      have HRE := Lib.hid (reached_any HG.out (R.map fun q => (q.c, q.a.toNat)) (rootsOf R) (fun n => by
        rw [rootsOf_mem, List.mem_map]
        constructor
        · rintro ⟨q, hq, e⟩
          simp only [Prod.mk.injEq] at e
          exact ⟨q, hq, e.1, e.2⟩
        · rintro ⟨q, hq, h1, h2⟩
          exact ⟨q, hq, by rw [h1, h2]⟩) (rootsOf_lt hall) A cap wr (HSt.At.under HH.out HB.out) (seeRow_roots (HR.out.later HB.out) hall) (by rw [List.length_map]; exact hl) (fun q hq => by
        obtain ⟨y, hy, rfl⟩ := List.mem_map.1 hq
        have h := List.all_eq_true.1 hall y hy
        have hcl := HG.out.len
        show y.a.toNat < _
        cases hc : y.c with
        | true => have := (may_ref h hc).2; omega
        | false => rw [(may_leaf h hc).1]; decide))
      rw [List.length_map] at HRE
      have HALL := Lib.hid hall
      clear hall
      go_wp2_with fail
      refine HRE.out.mono ?_
      rintro e w3 ⟨v, rfl, hrow, hb⟩
      have HW3 := Lib.hid (And.intro hrow hb)
      clear hrow hb
      go_wp2_with fail
      refine bodyPost_ret (v := .tuple #[v, .int .i64 0]) (by simp [results, Tryz.f13, go_sem]) rfl ⟨HB.out.trans (HW3.out.2.mono HB.out.size), .inl ⟨HALL.out, v, rfl, own_low HW3.out.1 HB.out.size⟩⟩
end Go.Proofs.YtaemfjmmklpjeaaGreatDoor
set_option linter.unusedVariables false
namespace Go.Proofs.YtaemfjmmklpjeaaGreatDoor
open Go.RowKit

def RunP (s : HSt) (R : List AW) (w : World) (e : Ending) (w' : World) : Prop :=
  Below w.heap.size w w' ∧ ((allMay s.cs.length R = true ∧ ∃ (so : HSt) (ho g : Nat), so.cs = colC s.cs (reachL s.cs (rootsOf R)) ∧ HOk so ∧ so.At w.heap.size w' ho ∧ g < w'.heap.size ∧ w.heap.size ≤ g ∧ WordsIn w' g (R.map fun q => mvW (reachL s.cs (rootsOf R)) q.hw) ∧
      e = .returned (.tuple #[.pointer (some ⟨ho, 0, none⟩), .slice (some ⟨g, 0, none⟩) R.length R.length, .int .i64 0])) ∨
    (allMay s.cs.length R = false ∧ e = .returned (.tuple #[.pointer none, .slice none 0 0, .int .i64 2])))
theorem wentV_at {PL : List Nat} {j a : Nat} (h : PL[j]? = some a) : (wentV PL).take (j + 1) = (wentV PL).take j ++ [(a, .int .i64 (j : Int))] := by
  rw [List.take_add_one]
  unfold wentV
  rw [List.getElem?_mapIdx, h]
  rfl
theorem At.lower {s : HSt} {b b' hb : Nat} {w : World} (h : s.At b w hb) (hb' : b' ≤ b) : s.At b' w hb := by
  refine ⟨Nat.le_trans hb' (HeapAt.low h), h.bx, ?_⟩
  obtain ⟨vs, hl, ho, hp⟩ := (HeapAt.core h).row
  obtain ⟨A, rn, e, h2⟩ := (HeapAt.core h).room
  refine ⟨⟨vs, hl, own_low ho hb', fun n c hc => ?_⟩, ⟨A, rn, e, fun hr => ?_⟩, (HeapAt.core h).apart⟩
  · obtain ⟨A1, hv, hw, hs⟩ := hp n c hc
    exact ⟨A1, hv, hw, fun g o e hL => ⟨Nat.le_trans hb' (hs g o e hL).1, (hs g o e hL).2⟩⟩
  · obtain ⟨g, o, cur, e1, e2, e3⟩ := h2 hr
    exact ⟨g, o, cur, e1, Nat.le_trans hb' e2, e3⟩
theorem mkmap_hint (n : Nat) (w : World) : Sem.run Tryz.prog (Instr.makeMap 76 (some (.int .i64 (n : Int)))) w = .ok (.map (some w.heap.size)) (w.alloc (.map #[] 0)) := by
  simp [Instr.makeMap, run_underlying Tryz.underlying76, asInt, go_sem]

set_option maxRecDepth 100000 in
set_option maxHeartbeats 8000000 in
theorem Run_any {b0 hb : Nat} {s : HSt} (hg : HGood s.cs) (w : World) (h : s.At b0 w hb) (R : List AW) (A : Option Addr) (cap cap' : Nat) (hR : WRow (· < w.heap.size) w A R.length cap' R) (hS : Spans w) (hl : R.length ≤ 1000000) :
    Calls Tryz.prog 10 #[.pointer (some ⟨hb, 0, none⟩), .slice A R.length cap] w (RunP s R w) := by
  have HRE := Lib.hid (Reached_any hg w h R A cap cap' hR hS hl)
  have HH := Lib.hid h
  have HG := Lib.hid hg
  have HR := Lib.hid hR
  have HS := Lib.hid hS
  have HL := Lib.hid hl
  clear h hg hR hS hl
  go_enter Tryz.func10, Tryz.ntmps10
  go_wp2_with fail
  refine HRE.out.mono ?_
  rintro e w1 ⟨b1, (⟨hall, v, rfl, hrow⟩ | ⟨hall, rfl⟩)⟩
  · obtain ⟨PL, hPL⟩ : ∃ PL, PL = reachL s.cs (rootsOf R) := ⟨_, rfl⟩
    rw [← hPL] at hrow
    obtain ⟨PA, pcap, rfl, hP, hge⟩ := PRow.of_own hrow
    have hshut : Shut s.cs PL := by rw [hPL]; exact reachL_shut HG.out (rootsOf_lt hall)
    have hplen := Nat.le_trans (shut_len hshut) HG.out.len
    have hmm := mkmap_hint PL.length w1
    obtain ⟨w2, hw2⟩ : ∃ w2, w2 = w1.alloc (.map #[] 0) := ⟨_, rfl⟩
    have b2 : Below w1.heap.size w1 w2 := by rw [hw2]; exact (Below.refl _ _).alloc (Nat.le_refl _) _
    have g2 : w2.heap[w1.heap.size]? = some (.map #[] 0) := by rw [hw2]; exact block_alloc _ _
    have HB2 := Lib.hid (And.intro b1 (And.intro b2 g2))
    have HP := Lib.hid hP
    have HPL := Lib.hid hPL
    have HSH := Lib.hid hshut
    have HALL := Lib.hid hall
    have HPN := Lib.hid hplen
    clear b1 b2 g2 hP hPL hshut hall hplen hrow hge
    go_wp2_with fail
    rw [← hw2]
    clear hw2 hmm
    go_loopw [26] (fun i wr => ∃ j : Nat, j ≤ PL.length ∧ i = .int .i64 j ∧ Hid (wr.heap[w1.heap.size]? = some (.map (entsV ((wentV PL).take j)) j)) ∧ Hid (Mod (fun k => k = w1.heap.size) w2 wr)) (fun i _ => PL.length - (intOf i).toNat)
    case atStart => exact ⟨0, Nat.zero_le _, rfl, HB2.out.2.2, Mod.refl _ _⟩
    case round =>
      obtain ⟨j, hj, rfl, HM, HMD⟩ := hrel
      have hlt1 := heap_lt HB2.out.2.2
      have hpn : PL.length ≤ 1048576 := HPN.out
      by_cases hlt : j < PL.length
      · obtain ⟨a, ha⟩ : ∃ a, PL[j]? = some a := ⟨PL[j], List.getElem?_eq_getElem hlt⟩
        obtain ⟨g, rfl, hc⟩ := HP.out.row j a ha
        have hgl := HP.out.lt g rfl
        have hkeep : wr.heap[g]? = w1.heap[g]? := (HMD.out.block g (by have := HB2.out.2.1.size; omega) (by omega)).trans (HB2.out.2.1.block g hgl)
        have hc' : wr.cell? ⟨g, j, none⟩ = some (.int .i64 (a : Int)) := (World.cell?_of_block (w := w1) (a := ⟨g, j, none⟩) hkeep).trans hc
        have hc2 : wr.cell? ((⟨g, 0, none⟩ : Addr).add j) = some (.int .i64 (a : Int)) := by rw [show (⟨g, 0, none⟩ : Addr).add j = ⟨g, j, none⟩ by unfold Addr.add; split <;> simp_all]; exact hc'
        have hno : Instr.findNow (.int .i64) (.int .i64 (a : Int)) (entsV ((wentV PL).take j)).toList 0 = some none := by
          rcases entsV_find ((wentV PL).take j) a with ⟨h1, -⟩ | ⟨jj, vv, h1, h2⟩
          · exact h1
          · exfalso
            obtain ⟨i, hi, e⟩ := List.mem_iff_getElem.1 h2
            rw [List.getElem_take] at e
            have hij : i < j := by rw [List.length_take] at hi; omega
            unfold wentV at e
            rw [List.getElem_mapIdx] at e
            simp only [Prod.mk.injEq] at e
            have h3 := (List.getElem?_eq_some_iff.1 ha).2
            have := (up_at HSH.out.up (i := i) (j := j) (a := a) (b := a) (by rw [← e.1]; exact List.getElem?_eq_getElem _) ha).1 hij
            omega
        have hput := put2_new (P := Tryz.prog) Tryz.underlying76 Tryz.underlying3 wr w1.heap.size _ _ (a : Int) (.int .i64 (j : Int)) HM.out hno
        have hX : (wr.putObj w1.heap.size (.map ((entsV ((wentV PL).take j)).push ⟨.int .i64 (a : Int), .int .i64 (j : Int), j⟩) (j + 1))).heap[w1.heap.size]? = some (.map (entsV ((wentV PL).take (j + 1))) (j + 1)) := by
          rw [World.putObj_heap_same (heap_lt HM.out), wentV_at ha, entsV_snoc]
          have : ((wentV PL).take j).length = j := by rw [List.length_take, wentV_len]; omega
          rw [this]
        have hmX : Mod (fun k => k = w1.heap.size) w2 (wr.putObj w1.heap.size (.map ((entsV ((wentV PL).take j)).push ⟨.int .i64 (a : Int), .int .i64 (j : Int), j⟩) (j + 1))) := HMD.out.trans (Mod.putObj (F := fun k => k = w1.heap.size) _ _ _ rfl) (fun _ _ e => e)
        obtain ⟨X, hXe⟩ : ∃ X, X = wr.putObj w1.heap.size (.map ((entsV ((wentV PL).take j)).push ⟨.int .i64 (a : Int), .int .i64 (j : Int), j⟩) (j + 1)) := ⟨_, rfl⟩
        rw [← hXe] at hX hmX hput
        have HX := Lib.hid hX
        have HMX := Lib.hid hmX
        clear hno hX hmX hXe hkeep hc ha
        go_wp2_with fail
        go_roundw
        case rel => exact ⟨j + 1, by omega, by go_num, HX, HMX⟩
        case measure => simp [intOf]; omega
      · obtain rfl : j = PL.length := by omega
        have hmap : wr.heap[w1.heap.size]? = some (.map (entsV (wentV PL)) PL.length) := by
          have := HM.out
          rwa [List.take_of_length_le (by rw [wentV_len]; exact Nat.le_refl _)] at this
        have b1r : Below w1.heap.size w1 wr := HB2.out.2.1.trans (HMD.out.below HB2.out.2.1.size (fun i (e : i = w1.heap.size) => by omega))
        have bwr : Below w.heap.size w wr := HB2.out.1.trans (b1r.mono HB2.out.1.size)
        have HC := Lib.hid (collected_any HG.out wr (HSt.At.under HH.out bwr) PL HSH.out PA pcap w1.heap.size (HP.out.keep b1r) hmap (HS.out.below bwr HS.out.lt))
        have HBW := Lib.hid bwr
        have HMP := Lib.hid hmap
        clear hmap b1r bwr
        go_wp2_with fail
        refine HC.out.mono ?_
        rintro e w3 ⟨so, ho, hcs, hok, hat, rfl, b3⟩
        have hmap3 := (b3.block _ (heap_lt HMP.out)).trans HMP.out
        have bw3 : Below w.heap.size w w3 := HBW.out.trans (b3.mono HBW.out.size)
        have HMV := Lib.hid (moved_any s.cs.length PL R A cap cap' w1.heap.size w3 (HR.out.later bw3) (fun q hq => List.all_eq_true.1 HALL.out q hq) (fun q hq hc => by
          rw [HPL.out]
          exact (reachL_mem HG.out (rootsOf_lt HALL.out)).2 (.root (rootsOf_mem.2 ⟨q, hq, hc, rfl⟩))) (by have := HG.out.len; omega) hmap3 HSH.out.up (HS.out.below bw3 HS.out.lt) HL.out)
        have HO := Lib.hid (And.intro hcs (And.intro hok (And.intro hat bw3)))
        clear hcs hok hat b3 hmap3 bw3
        go_wp2_with fail
        refine HMV.out.mono ?_
        rintro e w4 ⟨rfl, h4, hw4, b4⟩
        have H4 := Lib.hid (And.intro h4 (And.intro hw4 b4))
        clear h4 hw4 b4
        go_wp2_with fail
        refine bodyPost_ret (v := .tuple #[.pointer (some ⟨ho, 0, none⟩), .slice (some ⟨w3.heap.size, 0, none⟩) R.length R.length, .int .i64 0]) (by simp [results, Tryz.f10, go_sem]) rfl ?_
        obtain ⟨hcs, hok, hat, bw3⟩ := HO.out
        obtain ⟨h4, hw4, b4⟩ := H4.out
        refine ⟨bw3.trans (b4.mono bw3.size), .inl ⟨HALL.out, so, ho, w3.heap.size, by rw [hcs, HPL.out], hok, At.lower (hat.under b4) HBW.out.size, h4, bw3.size, ?_, rfl⟩⟩
        rw [← HPL.out]
        exact hw4
  · have HB1 := Lib.hid b1
    have HALL := Lib.hid hall
    clear b1 hall
    go_wp2_with fail
    refine bodyPost_ret (v := .tuple #[.pointer none, .slice none 0 0, .int .i64 2]) (by simp [results, Tryz.f10, go_sem]) rfl ⟨HB1.out, .inr ⟨HALL.out, rfl⟩⟩
end Go.Proofs.YtaemfjmmklpjeaaGreatDoor
set_option linter.unusedVariables false
namespace Go.Proofs.YtaemfjmmklpjeaaGreatDoor
open Go.RowKit

set_option maxRecDepth 100000 in
set_option maxHeartbeats 4000000 in
theorem leaf5_any (n : Int) (w : World) : Calls Tryz.prog 26 #[.int .i64 n] w fun e w' => e = .returned (.agg #[(.bool false), (.int .i64 0), (.int .i8 0), (.int .i64 n), (.string ⟨#[]⟩), (.string ⟨#[]⟩), (.slice none 0 0)]) ∧ Below w.heap.size w w' := by
  have z0 : (w.alloc (.cells #[(.bool false), (.int .i64 0), (.int .i8 0), (.int .i64 0), (.string ⟨#[]⟩), (.string ⟨#[]⟩), (.slice none 0 0)] 51)).cell? ⟨w.heap.size, 0, none⟩ = some (.bool false) := cell_of_row (block_alloc _ _) rfl
  have zf0 : (w.alloc (.cells #[(.bool false), (.int .i64 0), (.int .i8 0), (.int .i64 0), (.string ⟨#[]⟩), (.string ⟨#[]⟩), (.slice none 0 0)] 51)).frozen? ⟨w.heap.size, 0, none⟩ = false := free_of_row (block_alloc _ _)
  have z1 : (w.alloc (.cells #[(.bool false), (.int .i64 0), (.int .i8 0), (.int .i64 0), (.string ⟨#[]⟩), (.string ⟨#[]⟩), (.slice none 0 0)] 51)).cell? ⟨w.heap.size, 1, none⟩ = some (.int .i64 0) := cell_of_row (block_alloc _ _) rfl
  have zf1 : (w.alloc (.cells #[(.bool false), (.int .i64 0), (.int .i8 0), (.int .i64 0), (.string ⟨#[]⟩), (.string ⟨#[]⟩), (.slice none 0 0)] 51)).frozen? ⟨w.heap.size, 1, none⟩ = false := free_of_row (block_alloc _ _)
  have z2 : (w.alloc (.cells #[(.bool false), (.int .i64 0), (.int .i8 0), (.int .i64 0), (.string ⟨#[]⟩), (.string ⟨#[]⟩), (.slice none 0 0)] 51)).cell? ⟨w.heap.size, 2, none⟩ = some (.int .i8 0) := cell_of_row (block_alloc _ _) rfl
  have zf2 : (w.alloc (.cells #[(.bool false), (.int .i64 0), (.int .i8 0), (.int .i64 0), (.string ⟨#[]⟩), (.string ⟨#[]⟩), (.slice none 0 0)] 51)).frozen? ⟨w.heap.size, 2, none⟩ = false := free_of_row (block_alloc _ _)
  have z3 : (w.alloc (.cells #[(.bool false), (.int .i64 0), (.int .i8 0), (.int .i64 0), (.string ⟨#[]⟩), (.string ⟨#[]⟩), (.slice none 0 0)] 51)).cell? ⟨w.heap.size, 3, none⟩ = some (.int .i64 0) := cell_of_row (block_alloc _ _) rfl
  have zf3 : (w.alloc (.cells #[(.bool false), (.int .i64 0), (.int .i8 0), (.int .i64 0), (.string ⟨#[]⟩), (.string ⟨#[]⟩), (.slice none 0 0)] 51)).frozen? ⟨w.heap.size, 3, none⟩ = false := free_of_row (block_alloc _ _)
  have z4 : (w.alloc (.cells #[(.bool false), (.int .i64 0), (.int .i8 0), (.int .i64 0), (.string ⟨#[]⟩), (.string ⟨#[]⟩), (.slice none 0 0)] 51)).cell? ⟨w.heap.size, 4, none⟩ = some (.string ⟨#[]⟩) := cell_of_row (block_alloc _ _) rfl
  have zf4 : (w.alloc (.cells #[(.bool false), (.int .i64 0), (.int .i8 0), (.int .i64 0), (.string ⟨#[]⟩), (.string ⟨#[]⟩), (.slice none 0 0)] 51)).frozen? ⟨w.heap.size, 4, none⟩ = false := free_of_row (block_alloc _ _)
  have z5 : (w.alloc (.cells #[(.bool false), (.int .i64 0), (.int .i8 0), (.int .i64 0), (.string ⟨#[]⟩), (.string ⟨#[]⟩), (.slice none 0 0)] 51)).cell? ⟨w.heap.size, 5, none⟩ = some (.string ⟨#[]⟩) := cell_of_row (block_alloc _ _) rfl
  have zf5 : (w.alloc (.cells #[(.bool false), (.int .i64 0), (.int .i8 0), (.int .i64 0), (.string ⟨#[]⟩), (.string ⟨#[]⟩), (.slice none 0 0)] 51)).frozen? ⟨w.heap.size, 5, none⟩ = false := free_of_row (block_alloc _ _)
  have z6 : (w.alloc (.cells #[(.bool false), (.int .i64 0), (.int .i8 0), (.int .i64 0), (.string ⟨#[]⟩), (.string ⟨#[]⟩), (.slice none 0 0)] 51)).cell? ⟨w.heap.size, 6, none⟩ = some (.slice none 0 0) := cell_of_row (block_alloc _ _) rfl
  have zf6 : (w.alloc (.cells #[(.bool false), (.int .i64 0), (.int .i8 0), (.int .i64 0), (.string ⟨#[]⟩), (.string ⟨#[]⟩), (.slice none 0 0)] 51)).frozen? ⟨w.heap.size, 6, none⟩ = false := free_of_row (block_alloc _ _)
  have x0 : (w.alloc (.cells #[(.bool false), (.int .i64 0), (.int .i8 0), (.int .i64 n), (.string ⟨#[]⟩), (.string ⟨#[]⟩), (.slice none 0 0)] 51)).cell? ⟨w.heap.size, 0, none⟩ = some (.bool false) := cell_of_row (block_alloc _ _) rfl
  have x1 : (w.alloc (.cells #[(.bool false), (.int .i64 0), (.int .i8 0), (.int .i64 n), (.string ⟨#[]⟩), (.string ⟨#[]⟩), (.slice none 0 0)] 51)).cell? ⟨w.heap.size, 1, none⟩ = some (.int .i64 0) := cell_of_row (block_alloc _ _) rfl
  have x2 : (w.alloc (.cells #[(.bool false), (.int .i64 0), (.int .i8 0), (.int .i64 n), (.string ⟨#[]⟩), (.string ⟨#[]⟩), (.slice none 0 0)] 51)).cell? ⟨w.heap.size, 2, none⟩ = some (.int .i8 0) := cell_of_row (block_alloc _ _) rfl
  have x3 : (w.alloc (.cells #[(.bool false), (.int .i64 0), (.int .i8 0), (.int .i64 n), (.string ⟨#[]⟩), (.string ⟨#[]⟩), (.slice none 0 0)] 51)).cell? ⟨w.heap.size, 3, none⟩ = some (.int .i64 n) := cell_of_row (block_alloc _ _) rfl
  have x4 : (w.alloc (.cells #[(.bool false), (.int .i64 0), (.int .i8 0), (.int .i64 n), (.string ⟨#[]⟩), (.string ⟨#[]⟩), (.slice none 0 0)] 51)).cell? ⟨w.heap.size, 4, none⟩ = some (.string ⟨#[]⟩) := cell_of_row (block_alloc _ _) rfl
  have x5 : (w.alloc (.cells #[(.bool false), (.int .i64 0), (.int .i8 0), (.int .i64 n), (.string ⟨#[]⟩), (.string ⟨#[]⟩), (.slice none 0 0)] 51)).cell? ⟨w.heap.size, 5, none⟩ = some (.string ⟨#[]⟩) := cell_of_row (block_alloc _ _) rfl
  have x6 : (w.alloc (.cells #[(.bool false), (.int .i64 0), (.int .i8 0), (.int .i64 n), (.string ⟨#[]⟩), (.string ⟨#[]⟩), (.slice none 0 0)] 51)).cell? ⟨w.heap.size, 6, none⟩ = some (.slice none 0 0) := cell_of_row (block_alloc _ _) rfl
  go_enter Tryz.func26, Tryz.ntmps26
  go_wp2_with fail
  refine bodyPost_ret (v := .agg #[(.bool false), (.int .i64 0), (.int .i8 0), (.int .i64 n), (.string ⟨#[]⟩), (.string ⟨#[]⟩), (.slice none 0 0)]) (by simp [results, Tryz.f26, go_sem, x0, x1, x2, x3, x4, x5, x6]) rfl ⟨rfl, (Below.refl _ _).alloc (Nat.le_refl _) _⟩
set_option maxRecDepth 100000 in
set_option maxHeartbeats 4000000 in
theorem cell5_any (n : Int) (w : World) : Calls Tryz.prog 27 #[.int .i64 n] w fun e w' => e = .returned (.agg #[(.bool true), (.int .i64 n), (.int .i8 0), (.int .i64 0), (.string ⟨#[]⟩), (.string ⟨#[]⟩), (.slice none 0 0)]) ∧ Below w.heap.size w w' := by
  have z0 : (w.alloc (.cells #[(.bool false), (.int .i64 0), (.int .i8 0), (.int .i64 0), (.string ⟨#[]⟩), (.string ⟨#[]⟩), (.slice none 0 0)] 51)).cell? ⟨w.heap.size, 0, none⟩ = some (.bool false) := cell_of_row (block_alloc _ _) rfl
  have zf0 : (w.alloc (.cells #[(.bool false), (.int .i64 0), (.int .i8 0), (.int .i64 0), (.string ⟨#[]⟩), (.string ⟨#[]⟩), (.slice none 0 0)] 51)).frozen? ⟨w.heap.size, 0, none⟩ = false := free_of_row (block_alloc _ _)
  have z1 : (w.alloc (.cells #[(.bool false), (.int .i64 0), (.int .i8 0), (.int .i64 0), (.string ⟨#[]⟩), (.string ⟨#[]⟩), (.slice none 0 0)] 51)).cell? ⟨w.heap.size, 1, none⟩ = some (.int .i64 0) := cell_of_row (block_alloc _ _) rfl
  have zf1 : (w.alloc (.cells #[(.bool false), (.int .i64 0), (.int .i8 0), (.int .i64 0), (.string ⟨#[]⟩), (.string ⟨#[]⟩), (.slice none 0 0)] 51)).frozen? ⟨w.heap.size, 1, none⟩ = false := free_of_row (block_alloc _ _)
  have z2 : (w.alloc (.cells #[(.bool false), (.int .i64 0), (.int .i8 0), (.int .i64 0), (.string ⟨#[]⟩), (.string ⟨#[]⟩), (.slice none 0 0)] 51)).cell? ⟨w.heap.size, 2, none⟩ = some (.int .i8 0) := cell_of_row (block_alloc _ _) rfl
  have zf2 : (w.alloc (.cells #[(.bool false), (.int .i64 0), (.int .i8 0), (.int .i64 0), (.string ⟨#[]⟩), (.string ⟨#[]⟩), (.slice none 0 0)] 51)).frozen? ⟨w.heap.size, 2, none⟩ = false := free_of_row (block_alloc _ _)
  have z3 : (w.alloc (.cells #[(.bool false), (.int .i64 0), (.int .i8 0), (.int .i64 0), (.string ⟨#[]⟩), (.string ⟨#[]⟩), (.slice none 0 0)] 51)).cell? ⟨w.heap.size, 3, none⟩ = some (.int .i64 0) := cell_of_row (block_alloc _ _) rfl
  have zf3 : (w.alloc (.cells #[(.bool false), (.int .i64 0), (.int .i8 0), (.int .i64 0), (.string ⟨#[]⟩), (.string ⟨#[]⟩), (.slice none 0 0)] 51)).frozen? ⟨w.heap.size, 3, none⟩ = false := free_of_row (block_alloc _ _)
  have z4 : (w.alloc (.cells #[(.bool false), (.int .i64 0), (.int .i8 0), (.int .i64 0), (.string ⟨#[]⟩), (.string ⟨#[]⟩), (.slice none 0 0)] 51)).cell? ⟨w.heap.size, 4, none⟩ = some (.string ⟨#[]⟩) := cell_of_row (block_alloc _ _) rfl
  have zf4 : (w.alloc (.cells #[(.bool false), (.int .i64 0), (.int .i8 0), (.int .i64 0), (.string ⟨#[]⟩), (.string ⟨#[]⟩), (.slice none 0 0)] 51)).frozen? ⟨w.heap.size, 4, none⟩ = false := free_of_row (block_alloc _ _)
  have z5 : (w.alloc (.cells #[(.bool false), (.int .i64 0), (.int .i8 0), (.int .i64 0), (.string ⟨#[]⟩), (.string ⟨#[]⟩), (.slice none 0 0)] 51)).cell? ⟨w.heap.size, 5, none⟩ = some (.string ⟨#[]⟩) := cell_of_row (block_alloc _ _) rfl
  have zf5 : (w.alloc (.cells #[(.bool false), (.int .i64 0), (.int .i8 0), (.int .i64 0), (.string ⟨#[]⟩), (.string ⟨#[]⟩), (.slice none 0 0)] 51)).frozen? ⟨w.heap.size, 5, none⟩ = false := free_of_row (block_alloc _ _)
  have z6 : (w.alloc (.cells #[(.bool false), (.int .i64 0), (.int .i8 0), (.int .i64 0), (.string ⟨#[]⟩), (.string ⟨#[]⟩), (.slice none 0 0)] 51)).cell? ⟨w.heap.size, 6, none⟩ = some (.slice none 0 0) := cell_of_row (block_alloc _ _) rfl
  have zf6 : (w.alloc (.cells #[(.bool false), (.int .i64 0), (.int .i8 0), (.int .i64 0), (.string ⟨#[]⟩), (.string ⟨#[]⟩), (.slice none 0 0)] 51)).frozen? ⟨w.heap.size, 6, none⟩ = false := free_of_row (block_alloc _ _)
  have x0 : (w.alloc (.cells #[(.bool true), (.int .i64 n), (.int .i8 0), (.int .i64 0), (.string ⟨#[]⟩), (.string ⟨#[]⟩), (.slice none 0 0)] 51)).cell? ⟨w.heap.size, 0, none⟩ = some (.bool true) := cell_of_row (block_alloc _ _) rfl
  have x1 : (w.alloc (.cells #[(.bool true), (.int .i64 n), (.int .i8 0), (.int .i64 0), (.string ⟨#[]⟩), (.string ⟨#[]⟩), (.slice none 0 0)] 51)).cell? ⟨w.heap.size, 1, none⟩ = some (.int .i64 n) := cell_of_row (block_alloc _ _) rfl
  have x2 : (w.alloc (.cells #[(.bool true), (.int .i64 n), (.int .i8 0), (.int .i64 0), (.string ⟨#[]⟩), (.string ⟨#[]⟩), (.slice none 0 0)] 51)).cell? ⟨w.heap.size, 2, none⟩ = some (.int .i8 0) := cell_of_row (block_alloc _ _) rfl
  have x3 : (w.alloc (.cells #[(.bool true), (.int .i64 n), (.int .i8 0), (.int .i64 0), (.string ⟨#[]⟩), (.string ⟨#[]⟩), (.slice none 0 0)] 51)).cell? ⟨w.heap.size, 3, none⟩ = some (.int .i64 0) := cell_of_row (block_alloc _ _) rfl
  have x4 : (w.alloc (.cells #[(.bool true), (.int .i64 n), (.int .i8 0), (.int .i64 0), (.string ⟨#[]⟩), (.string ⟨#[]⟩), (.slice none 0 0)] 51)).cell? ⟨w.heap.size, 4, none⟩ = some (.string ⟨#[]⟩) := cell_of_row (block_alloc _ _) rfl
  have x5 : (w.alloc (.cells #[(.bool true), (.int .i64 n), (.int .i8 0), (.int .i64 0), (.string ⟨#[]⟩), (.string ⟨#[]⟩), (.slice none 0 0)] 51)).cell? ⟨w.heap.size, 5, none⟩ = some (.string ⟨#[]⟩) := cell_of_row (block_alloc _ _) rfl
  have x6 : (w.alloc (.cells #[(.bool true), (.int .i64 n), (.int .i8 0), (.int .i64 0), (.string ⟨#[]⟩), (.string ⟨#[]⟩), (.slice none 0 0)] 51)).cell? ⟨w.heap.size, 6, none⟩ = some (.slice none 0 0) := cell_of_row (block_alloc _ _) rfl
  go_enter Tryz.func27, Tryz.ntmps27
  go_wp2_with fail
  refine bodyPost_ret (v := .agg #[(.bool true), (.int .i64 n), (.int .i8 0), (.int .i64 0), (.string ⟨#[]⟩), (.string ⟨#[]⟩), (.slice none 0 0)]) (by simp [results, Tryz.f27, go_sem, x0, x1, x2, x3, x4, x5, x6]) rfl ⟨rfl, (Below.refl _ _).alloc (Nat.le_refl _) _⟩
theorem make1 {base ho : Nat} {s : HSt} (hok : HOk s) (q : AW) (c0 c1 c2 c3 c4 c5 c6 : Value) (w : World) (hbw : base ≤ w.heap.size) (hat : s.At base w ho) (hlen : s.cs.length < 1048576) (hm : mayW s.cs.length q.c q.a q.x = true) (hg : wgood s.cs.length q.hw) (hsz : wsize s.cs q.hw ≤ 255)
    (ha : ∀ V : World, AWAt (fun b => b = w.heap.size) V q (.agg #[c0, c1, c2, c3, c4, c5, c6])) (hS : Spans w) :
    Calls Tryz.prog 25 #[.pointer (some ⟨ho, 0, none⟩), .int .i8 5, .slice (some ⟨w.heap.size, 0, none⟩) 1 1] (w.alloc (.cells #[c0, c1, c2, c3, c4, c5, c6] 51)) fun e w' =>
      e = .returned (.tuple #[refV s.cs.length, .int .i64 0]) ∧ ∃ s' : HSt, HOk s' ∧ s'.cs = s.cs ++ [⟨5, wsum s.cs [q.hw], [q.hw]⟩] ∧ HMove base ho s s' w w' := by
  obtain ⟨W, hW⟩ : ∃ W, W = w.alloc (.cells #[c0, c1, c2, c3, c4, c5, c6] 51) := ⟨_, rfl⟩
  have bW : Below w.heap.size w W := by rw [hW]; exact (Below.refl _ _).alloc (Nat.le_refl _) _
  have gW : W.heap[w.heap.size]? = some (.cells #[c0, c1, c2, c3, c4, c5, c6] 51 (0, 0)) := by rw [hW]; exact block_alloc _ _
  rw [← hW]
  have hlt := hat.lt
  refine (Make_any 5 [q] (some ⟨w.heap.size, 0, none⟩) 1 (fun b => b = w.heap.size) W (Nat.le_trans hbw bW.size) (hat.under bW) hok.rn hok.good.most (wrow_one gW q (ha W)) (fun b e => by subst e; exact ⟨heap_lt gW, (hat.new bW).not_fp (by omega)⟩) (by show 1 ≤ 1000; omega) hok.ws_le hok.good.len (by rfl) (hS.below bW hS.lt)).mono ?_
  have hsum : wsum s.cs [q.hw] ≤ 256 := by simp [wsum]; omega
  have hmk : makeE s.cs [q] = 0 := by
    unfold makeE
    rw [if_pos (by simp [hm]), if_neg (by show ¬ 256 < wsum s.cs [q.hw]; omega), if_neg (by omega)]
  rintro e w' (⟨hne, -⟩ | ⟨-, rfl, s', e1, e2, hmv⟩)
  · exact absurd hmk hne
  · refine ⟨rfl, s', ⟨?_, ?_, hmv.rn⟩, e1, hmv.of_below bW hat hok.rn⟩
    · rw [e1]
      exact hok.good.snoc 5 [q.hw] (.inl rfl) (fun y hy => by simp at hy; subst hy; exact hg) hsum (by omega)
    · rw [e2, e1, hok.ws]
      unfold HSt.more
      rw [wordsOf_append]
      simp [wordsOf]
theorem hok0 : HOk ⟨[], 0, .slice none 0 0, none, 0⟩ := ⟨⟨(fun n c h => by simp at h), (fun n c h => by simp at h), (fun n c h => by simp at h), (fun n c h => by simp at h), by simp⟩, rfl, by simp⟩
def wk0 : HC := ⟨5, 2, [.leaf (iW 0)]⟩
def wk1 : HC := ⟨5, 2, [.leaf (iW 1)]⟩
def wk2 : HC := ⟨5, 3, [.ref 0]⟩
theorem wk_may0 : mayW 0 false 0 (iW 0) = true := by decide +kernel
theorem wk_may1 : mayW 1 false 0 (iW 1) = true := by decide +kernel
theorem wk_may2 : mayW 2 true 0 (iW 0) = true := by decide +kernel
theorem wk_leaf (n : Int) (h : n = 0 ∨ n = 1) : leafE (iW n) = 0 := by rcases h with rfl | rfl <;> decide +kernel
theorem wk_all : allMay 3 [⟨true, 2, iW 0⟩] = true := by decide +kernel
theorem wk_roots : rootsOf [⟨true, 2, iW 0⟩] = [2] := rfl
theorem wk_reach (hg : HGood [wk0, wk1, wk2]) : reachL [wk0, wk1, wk2] [2] = [0, 2] := by
  refine up_ext (reachL_up _ _) (by decide) fun n => ?_
  rw [reachL_mem hg (by simp)]
  constructor
  · intro h
    refine h.least (S := fun n => n ∈ [0, 2]) (by simp) ?_
    intro a c b ha hc hb
    simp at ha
    rcases ha with rfl | rfl
    · cases hc
      simp [wk0] at hb
    · cases hc
      simp [wk2] at hb
      subst hb
      simp
  · intro h
    simp at h
    have h2 : Rch [wk0, wk1, wk2] [2] 2 := .root (by simp)
    rcases h with rfl | rfl
    · exact .part h2 (c := wk2) rfl (by simp [wk2])
    · exact h2

set_option maxRecDepth 100000 in
set_option maxHeartbeats 8000000 in
theorem wakes5_ok (w : World) (hS : Spans w) : Calls Tryz.prog 8 #[] w fun e w' => e = .returned (.bool true) ∧ Below w.heap.size w w' := by
  have HSP := Lib.hid hS
  have HN := Lib.hid (New_any w.heap.size w (Nat.le_refl _))
  clear hS
  go_enter Tryz.func8, Tryz.ntmps8
  go_wp2_with fail
  refine HN.out.mono ?_
  rintro e V1 ⟨rfl, h1, b1⟩
  obtain ⟨s0, hs0⟩ : ∃ s0 : HSt, s0 = ⟨[], 0, .slice none 0 0, none, 0⟩ := ⟨_, rfl⟩
  have H0 : Hid (s0.At w.heap.size V1 w.heap.size ∧ HOk s0 ∧ s0.cs = [] ∧ Below w.heap.size w V1) := ⟨by rw [hs0]; exact h1, by rw [hs0]; exact hok0, by rw [hs0], b1⟩
  clear h1 b1 hs0
  go_wp2_with fail
  refine (leaf5_any 0 V1).mono ?_
  rintro e V2 ⟨rfl, b⟩
  have H0b : Hid (s0.At w.heap.size V2 w.heap.size ∧ Below w.heap.size w V2) := ⟨H0.out.1.under b, H0.out.2.2.2.trans (b.mono H0.out.2.2.2.size)⟩
  have HM0 := Lib.hid (make1 H0.out.2.1 ⟨false, 0, iW 0⟩ (.bool false) (.int .i64 0) (.int .i8 0) (.int .i64 0) (.string ⟨#[]⟩) (.string ⟨#[]⟩) (.slice none 0 0) V2 H0b.out.2.size H0b.out.1 (by rw [H0.out.2.2.1]; decide) (by rw [H0.out.2.2.1]; exact wk_may0) (by rw [H0.out.2.2.1]; exact wk_leaf 0 (.inl rfl)) (by rw [H0.out.2.2.1]; decide) (fun V => aw_leaf _ _ _ _ _ (by decide)) (HSP.out.below H0b.out.2 HSP.out.lt))
  clear b
  go_wp2_with fail
  refine HM0.out.mono ?_
  rintro e V3 ⟨rfl, s1, hok, hcs, hmv⟩
  rw [H0.out.2.2.1] at hcs
  have hcs' : s1.cs = [wk0] := hcs
  have hbY : Below w.heap.size w V3 := H0b.out.2.trans (hmv.above H0b.out.1 H0b.out.2.size)
  have H0c := Lib.hid (And.intro hmv.at_ (And.intro hok (And.intro hcs' hbY)))
  clear hmv hok hcs hcs' hbY HM0
  rw [show (refV (s0.cs.length : Nat)) = .agg #[(.bool true), (.int .i64 0), (.int .i8 0), (.int .i64 0), (.string ⟨#[]⟩), (.string ⟨#[]⟩), (.slice none 0 0)] by rw [H0.out.2.2.1]; rfl]
  have z0 : (V3.alloc (.cells #[(.bool false), (.int .i64 0), (.int .i8 0), (.int .i64 0), (.string ⟨#[]⟩), (.string ⟨#[]⟩), (.slice none 0 0)] 51)).cell? ⟨V3.heap.size, 0, none⟩ = some (.bool false) := cell_of_row (block_alloc _ _) rfl
  have zf0 : (V3.alloc (.cells #[(.bool false), (.int .i64 0), (.int .i8 0), (.int .i64 0), (.string ⟨#[]⟩), (.string ⟨#[]⟩), (.slice none 0 0)] 51)).frozen? ⟨V3.heap.size, 0, none⟩ = false := free_of_row (block_alloc _ _)
  have z1 : (V3.alloc (.cells #[(.bool false), (.int .i64 0), (.int .i8 0), (.int .i64 0), (.string ⟨#[]⟩), (.string ⟨#[]⟩), (.slice none 0 0)] 51)).cell? ⟨V3.heap.size, 1, none⟩ = some (.int .i64 0) := cell_of_row (block_alloc _ _) rfl
  have zf1 : (V3.alloc (.cells #[(.bool false), (.int .i64 0), (.int .i8 0), (.int .i64 0), (.string ⟨#[]⟩), (.string ⟨#[]⟩), (.slice none 0 0)] 51)).frozen? ⟨V3.heap.size, 1, none⟩ = false := free_of_row (block_alloc _ _)
  have z2 : (V3.alloc (.cells #[(.bool false), (.int .i64 0), (.int .i8 0), (.int .i64 0), (.string ⟨#[]⟩), (.string ⟨#[]⟩), (.slice none 0 0)] 51)).cell? ⟨V3.heap.size, 2, none⟩ = some (.int .i8 0) := cell_of_row (block_alloc _ _) rfl
  have zf2 : (V3.alloc (.cells #[(.bool false), (.int .i64 0), (.int .i8 0), (.int .i64 0), (.string ⟨#[]⟩), (.string ⟨#[]⟩), (.slice none 0 0)] 51)).frozen? ⟨V3.heap.size, 2, none⟩ = false := free_of_row (block_alloc _ _)
  have z3 : (V3.alloc (.cells #[(.bool false), (.int .i64 0), (.int .i8 0), (.int .i64 0), (.string ⟨#[]⟩), (.string ⟨#[]⟩), (.slice none 0 0)] 51)).cell? ⟨V3.heap.size, 3, none⟩ = some (.int .i64 0) := cell_of_row (block_alloc _ _) rfl
  have zf3 : (V3.alloc (.cells #[(.bool false), (.int .i64 0), (.int .i8 0), (.int .i64 0), (.string ⟨#[]⟩), (.string ⟨#[]⟩), (.slice none 0 0)] 51)).frozen? ⟨V3.heap.size, 3, none⟩ = false := free_of_row (block_alloc _ _)
  have z4 : (V3.alloc (.cells #[(.bool false), (.int .i64 0), (.int .i8 0), (.int .i64 0), (.string ⟨#[]⟩), (.string ⟨#[]⟩), (.slice none 0 0)] 51)).cell? ⟨V3.heap.size, 4, none⟩ = some (.string ⟨#[]⟩) := cell_of_row (block_alloc _ _) rfl
  have zf4 : (V3.alloc (.cells #[(.bool false), (.int .i64 0), (.int .i8 0), (.int .i64 0), (.string ⟨#[]⟩), (.string ⟨#[]⟩), (.slice none 0 0)] 51)).frozen? ⟨V3.heap.size, 4, none⟩ = false := free_of_row (block_alloc _ _)
  have z5 : (V3.alloc (.cells #[(.bool false), (.int .i64 0), (.int .i8 0), (.int .i64 0), (.string ⟨#[]⟩), (.string ⟨#[]⟩), (.slice none 0 0)] 51)).cell? ⟨V3.heap.size, 5, none⟩ = some (.string ⟨#[]⟩) := cell_of_row (block_alloc _ _) rfl
  have zf5 : (V3.alloc (.cells #[(.bool false), (.int .i64 0), (.int .i8 0), (.int .i64 0), (.string ⟨#[]⟩), (.string ⟨#[]⟩), (.slice none 0 0)] 51)).frozen? ⟨V3.heap.size, 5, none⟩ = false := free_of_row (block_alloc _ _)
  have z6 : (V3.alloc (.cells #[(.bool false), (.int .i64 0), (.int .i8 0), (.int .i64 0), (.string ⟨#[]⟩), (.string ⟨#[]⟩), (.slice none 0 0)] 51)).cell? ⟨V3.heap.size, 6, none⟩ = some (.slice none 0 0) := cell_of_row (block_alloc _ _) rfl
  have zf6 : (V3.alloc (.cells #[(.bool false), (.int .i64 0), (.int .i8 0), (.int .i64 0), (.string ⟨#[]⟩), (.string ⟨#[]⟩), (.slice none 0 0)] 51)).frozen? ⟨V3.heap.size, 6, none⟩ = false := free_of_row (block_alloc _ _)
  go_wp2_with fail
  have b : Below V3.heap.size V3 (V3.alloc (.cells #[(.bool true), (.int .i64 0), (.int .i8 0), (.int .i64 0), (.string ⟨#[]⟩), (.string ⟨#[]⟩), (.slice none 0 0)] 51)) := (Below.refl _ _).alloc (Nat.le_refl _) _
  generalize (V3.alloc (.cells #[(.bool true), (.int .i64 0), (.int .i8 0), (.int .i64 0), (.string ⟨#[]⟩), (.string ⟨#[]⟩), (.slice none 0 0)] 51)) = V4 at b ⊢
  have H1 : Hid (s1.At w.heap.size V4 w.heap.size ∧ HOk s1 ∧ s1.cs = [wk0] ∧ Below w.heap.size w V4) := ⟨H0c.out.1.under b, H0c.out.2.1, H0c.out.2.2.1, H0c.out.2.2.2.trans (b.mono H0c.out.2.2.2.size)⟩
  clear b z0 z1 z2 z3 z4 z5 z6 zf0 zf1 zf2 zf3 zf4 zf5 zf6
  refine (leaf5_any 1 V4).mono ?_
  rintro e V5 ⟨rfl, b⟩
  have H1b : Hid (s1.At w.heap.size V5 w.heap.size ∧ Below w.heap.size w V5) := ⟨H1.out.1.under b, H1.out.2.2.2.trans (b.mono H1.out.2.2.2.size)⟩
  have HM1 := Lib.hid (make1 H1.out.2.1 ⟨false, 0, iW 1⟩ (.bool false) (.int .i64 0) (.int .i8 0) (.int .i64 1) (.string ⟨#[]⟩) (.string ⟨#[]⟩) (.slice none 0 0) V5 H1b.out.2.size H1b.out.1 (by rw [H1.out.2.2.1]; decide) (by rw [H1.out.2.2.1]; exact wk_may1) (by rw [H1.out.2.2.1]; exact wk_leaf 1 (.inr rfl)) (by rw [H1.out.2.2.1]; decide) (fun V => aw_leaf _ _ _ _ _ (by decide)) (HSP.out.below H1b.out.2 HSP.out.lt))
  clear b
  go_wp2_with fail
  refine HM1.out.mono ?_
  rintro e V6 ⟨rfl, s2, hok, hcs, hmv⟩
  rw [H1.out.2.2.1] at hcs
  have hcs' : s2.cs = [wk0, wk1] := hcs
  have hbY : Below w.heap.size w V6 := H1b.out.2.trans (hmv.above H1b.out.1 H1b.out.2.size)
  have H1c := Lib.hid (And.intro hmv.at_ (And.intro hok (And.intro hcs' hbY)))
  clear hmv hok hcs hcs' hbY HM1
  rw [show (refV (s1.cs.length : Nat)) = .agg #[(.bool true), (.int .i64 1), (.int .i8 0), (.int .i64 0), (.string ⟨#[]⟩), (.string ⟨#[]⟩), (.slice none 0 0)] by rw [H1.out.2.2.1]; rfl]
  have z0 : (V6.alloc (.cells #[(.bool false), (.int .i64 0), (.int .i8 0), (.int .i64 0), (.string ⟨#[]⟩), (.string ⟨#[]⟩), (.slice none 0 0)] 51)).cell? ⟨V6.heap.size, 0, none⟩ = some (.bool false) := cell_of_row (block_alloc _ _) rfl
  have zf0 : (V6.alloc (.cells #[(.bool false), (.int .i64 0), (.int .i8 0), (.int .i64 0), (.string ⟨#[]⟩), (.string ⟨#[]⟩), (.slice none 0 0)] 51)).frozen? ⟨V6.heap.size, 0, none⟩ = false := free_of_row (block_alloc _ _)
  have z1 : (V6.alloc (.cells #[(.bool false), (.int .i64 0), (.int .i8 0), (.int .i64 0), (.string ⟨#[]⟩), (.string ⟨#[]⟩), (.slice none 0 0)] 51)).cell? ⟨V6.heap.size, 1, none⟩ = some (.int .i64 0) := cell_of_row (block_alloc _ _) rfl
  have zf1 : (V6.alloc (.cells #[(.bool false), (.int .i64 0), (.int .i8 0), (.int .i64 0), (.string ⟨#[]⟩), (.string ⟨#[]⟩), (.slice none 0 0)] 51)).frozen? ⟨V6.heap.size, 1, none⟩ = false := free_of_row (block_alloc _ _)
  have z2 : (V6.alloc (.cells #[(.bool false), (.int .i64 0), (.int .i8 0), (.int .i64 0), (.string ⟨#[]⟩), (.string ⟨#[]⟩), (.slice none 0 0)] 51)).cell? ⟨V6.heap.size, 2, none⟩ = some (.int .i8 0) := cell_of_row (block_alloc _ _) rfl
  have zf2 : (V6.alloc (.cells #[(.bool false), (.int .i64 0), (.int .i8 0), (.int .i64 0), (.string ⟨#[]⟩), (.string ⟨#[]⟩), (.slice none 0 0)] 51)).frozen? ⟨V6.heap.size, 2, none⟩ = false := free_of_row (block_alloc _ _)
  have z3 : (V6.alloc (.cells #[(.bool false), (.int .i64 0), (.int .i8 0), (.int .i64 0), (.string ⟨#[]⟩), (.string ⟨#[]⟩), (.slice none 0 0)] 51)).cell? ⟨V6.heap.size, 3, none⟩ = some (.int .i64 0) := cell_of_row (block_alloc _ _) rfl
  have zf3 : (V6.alloc (.cells #[(.bool false), (.int .i64 0), (.int .i8 0), (.int .i64 0), (.string ⟨#[]⟩), (.string ⟨#[]⟩), (.slice none 0 0)] 51)).frozen? ⟨V6.heap.size, 3, none⟩ = false := free_of_row (block_alloc _ _)
  have z4 : (V6.alloc (.cells #[(.bool false), (.int .i64 0), (.int .i8 0), (.int .i64 0), (.string ⟨#[]⟩), (.string ⟨#[]⟩), (.slice none 0 0)] 51)).cell? ⟨V6.heap.size, 4, none⟩ = some (.string ⟨#[]⟩) := cell_of_row (block_alloc _ _) rfl
  have zf4 : (V6.alloc (.cells #[(.bool false), (.int .i64 0), (.int .i8 0), (.int .i64 0), (.string ⟨#[]⟩), (.string ⟨#[]⟩), (.slice none 0 0)] 51)).frozen? ⟨V6.heap.size, 4, none⟩ = false := free_of_row (block_alloc _ _)
  have z5 : (V6.alloc (.cells #[(.bool false), (.int .i64 0), (.int .i8 0), (.int .i64 0), (.string ⟨#[]⟩), (.string ⟨#[]⟩), (.slice none 0 0)] 51)).cell? ⟨V6.heap.size, 5, none⟩ = some (.string ⟨#[]⟩) := cell_of_row (block_alloc _ _) rfl
  have zf5 : (V6.alloc (.cells #[(.bool false), (.int .i64 0), (.int .i8 0), (.int .i64 0), (.string ⟨#[]⟩), (.string ⟨#[]⟩), (.slice none 0 0)] 51)).frozen? ⟨V6.heap.size, 5, none⟩ = false := free_of_row (block_alloc _ _)
  have z6 : (V6.alloc (.cells #[(.bool false), (.int .i64 0), (.int .i8 0), (.int .i64 0), (.string ⟨#[]⟩), (.string ⟨#[]⟩), (.slice none 0 0)] 51)).cell? ⟨V6.heap.size, 6, none⟩ = some (.slice none 0 0) := cell_of_row (block_alloc _ _) rfl
  have zf6 : (V6.alloc (.cells #[(.bool false), (.int .i64 0), (.int .i8 0), (.int .i64 0), (.string ⟨#[]⟩), (.string ⟨#[]⟩), (.slice none 0 0)] 51)).frozen? ⟨V6.heap.size, 6, none⟩ = false := free_of_row (block_alloc _ _)
  go_wp2_with fail
  have b : Below V6.heap.size V6 (V6.alloc (.cells #[(.bool true), (.int .i64 1), (.int .i8 0), (.int .i64 0), (.string ⟨#[]⟩), (.string ⟨#[]⟩), (.slice none 0 0)] 51)) := (Below.refl _ _).alloc (Nat.le_refl _) _
  generalize (V6.alloc (.cells #[(.bool true), (.int .i64 1), (.int .i8 0), (.int .i64 0), (.string ⟨#[]⟩), (.string ⟨#[]⟩), (.slice none 0 0)] 51)) = V7 at b ⊢
  have H2 : Hid (s2.At w.heap.size V7 w.heap.size ∧ HOk s2 ∧ s2.cs = [wk0, wk1] ∧ Below w.heap.size w V7) := ⟨H1c.out.1.under b, H1c.out.2.1, H1c.out.2.2.1, H1c.out.2.2.2.trans (b.mono H1c.out.2.2.2.size)⟩
  clear b z0 z1 z2 z3 z4 z5 z6 zf0 zf1 zf2 zf3 zf4 zf5 zf6
  refine (cell5_any 0 V7).mono ?_
  rintro e V8 ⟨rfl, b⟩
  have H2b : Hid (s2.At w.heap.size V8 w.heap.size ∧ Below w.heap.size w V8) := ⟨H2.out.1.under b, H2.out.2.2.2.trans (b.mono H2.out.2.2.2.size)⟩
  have HM2 := Lib.hid (make1 H2.out.2.1 ⟨true, 0, iW 0⟩ (.bool true) (.int .i64 0) (.int .i8 0) (.int .i64 0) (.string ⟨#[]⟩) (.string ⟨#[]⟩) (.slice none 0 0) V8 H2b.out.2.size H2b.out.1 (by rw [H2.out.2.2.1]; decide) (by rw [H2.out.2.2.1]; exact wk_may2) (by rw [H2.out.2.2.1]; exact (by decide : 0 < 2)) (by rw [H2.out.2.2.1]; decide) (fun V => aw_leaf _ _ _ _ _ (by decide)) (HSP.out.below H2b.out.2 HSP.out.lt))
  clear b
  go_wp2_with fail
  refine HM2.out.mono ?_
  rintro e V9 ⟨rfl, s3, hok, hcs, hmv⟩
  rw [H2.out.2.2.1] at hcs
  have hcs' : s3.cs = [wk0, wk1, wk2] := hcs
  have hbY : Below w.heap.size w V9 := H2b.out.2.trans (hmv.above H2b.out.1 H2b.out.2.size)
  have H2c := Lib.hid (And.intro hmv.at_ (And.intro hok (And.intro hcs' hbY)))
  clear hmv hok hcs hcs' hbY HM2
  rw [show (refV (s2.cs.length : Nat)) = .agg #[(.bool true), (.int .i64 2), (.int .i8 0), (.int .i64 0), (.string ⟨#[]⟩), (.string ⟨#[]⟩), (.slice none 0 0)] by rw [H2.out.2.2.1]; rfl]
  have z0 : (V9.alloc (.cells #[(.bool false), (.int .i64 0), (.int .i8 0), (.int .i64 0), (.string ⟨#[]⟩), (.string ⟨#[]⟩), (.slice none 0 0)] 51)).cell? ⟨V9.heap.size, 0, none⟩ = some (.bool false) := cell_of_row (block_alloc _ _) rfl
  have zf0 : (V9.alloc (.cells #[(.bool false), (.int .i64 0), (.int .i8 0), (.int .i64 0), (.string ⟨#[]⟩), (.string ⟨#[]⟩), (.slice none 0 0)] 51)).frozen? ⟨V9.heap.size, 0, none⟩ = false := free_of_row (block_alloc _ _)
  have z1 : (V9.alloc (.cells #[(.bool false), (.int .i64 0), (.int .i8 0), (.int .i64 0), (.string ⟨#[]⟩), (.string ⟨#[]⟩), (.slice none 0 0)] 51)).cell? ⟨V9.heap.size, 1, none⟩ = some (.int .i64 0) := cell_of_row (block_alloc _ _) rfl
  have zf1 : (V9.alloc (.cells #[(.bool false), (.int .i64 0), (.int .i8 0), (.int .i64 0), (.string ⟨#[]⟩), (.string ⟨#[]⟩), (.slice none 0 0)] 51)).frozen? ⟨V9.heap.size, 1, none⟩ = false := free_of_row (block_alloc _ _)
  have z2 : (V9.alloc (.cells #[(.bool false), (.int .i64 0), (.int .i8 0), (.int .i64 0), (.string ⟨#[]⟩), (.string ⟨#[]⟩), (.slice none 0 0)] 51)).cell? ⟨V9.heap.size, 2, none⟩ = some (.int .i8 0) := cell_of_row (block_alloc _ _) rfl
  have zf2 : (V9.alloc (.cells #[(.bool false), (.int .i64 0), (.int .i8 0), (.int .i64 0), (.string ⟨#[]⟩), (.string ⟨#[]⟩), (.slice none 0 0)] 51)).frozen? ⟨V9.heap.size, 2, none⟩ = false := free_of_row (block_alloc _ _)
  have z3 : (V9.alloc (.cells #[(.bool false), (.int .i64 0), (.int .i8 0), (.int .i64 0), (.string ⟨#[]⟩), (.string ⟨#[]⟩), (.slice none 0 0)] 51)).cell? ⟨V9.heap.size, 3, none⟩ = some (.int .i64 0) := cell_of_row (block_alloc _ _) rfl
  have zf3 : (V9.alloc (.cells #[(.bool false), (.int .i64 0), (.int .i8 0), (.int .i64 0), (.string ⟨#[]⟩), (.string ⟨#[]⟩), (.slice none 0 0)] 51)).frozen? ⟨V9.heap.size, 3, none⟩ = false := free_of_row (block_alloc _ _)
  have z4 : (V9.alloc (.cells #[(.bool false), (.int .i64 0), (.int .i8 0), (.int .i64 0), (.string ⟨#[]⟩), (.string ⟨#[]⟩), (.slice none 0 0)] 51)).cell? ⟨V9.heap.size, 4, none⟩ = some (.string ⟨#[]⟩) := cell_of_row (block_alloc _ _) rfl
  have zf4 : (V9.alloc (.cells #[(.bool false), (.int .i64 0), (.int .i8 0), (.int .i64 0), (.string ⟨#[]⟩), (.string ⟨#[]⟩), (.slice none 0 0)] 51)).frozen? ⟨V9.heap.size, 4, none⟩ = false := free_of_row (block_alloc _ _)
  have z5 : (V9.alloc (.cells #[(.bool false), (.int .i64 0), (.int .i8 0), (.int .i64 0), (.string ⟨#[]⟩), (.string ⟨#[]⟩), (.slice none 0 0)] 51)).cell? ⟨V9.heap.size, 5, none⟩ = some (.string ⟨#[]⟩) := cell_of_row (block_alloc _ _) rfl
  have zf5 : (V9.alloc (.cells #[(.bool false), (.int .i64 0), (.int .i8 0), (.int .i64 0), (.string ⟨#[]⟩), (.string ⟨#[]⟩), (.slice none 0 0)] 51)).frozen? ⟨V9.heap.size, 5, none⟩ = false := free_of_row (block_alloc _ _)
  have z6 : (V9.alloc (.cells #[(.bool false), (.int .i64 0), (.int .i8 0), (.int .i64 0), (.string ⟨#[]⟩), (.string ⟨#[]⟩), (.slice none 0 0)] 51)).cell? ⟨V9.heap.size, 6, none⟩ = some (.slice none 0 0) := cell_of_row (block_alloc _ _) rfl
  have zf6 : (V9.alloc (.cells #[(.bool false), (.int .i64 0), (.int .i8 0), (.int .i64 0), (.string ⟨#[]⟩), (.string ⟨#[]⟩), (.slice none 0 0)] 51)).frozen? ⟨V9.heap.size, 6, none⟩ = false := free_of_row (block_alloc _ _)
  go_wp2_with fail
  have b : Below V9.heap.size V9 (V9.alloc (.cells #[(.bool true), (.int .i64 2), (.int .i8 0), (.int .i64 0), (.string ⟨#[]⟩), (.string ⟨#[]⟩), (.slice none 0 0)] 51)) := (Below.refl _ _).alloc (Nat.le_refl _) _
  generalize (V9.alloc (.cells #[(.bool true), (.int .i64 2), (.int .i8 0), (.int .i64 0), (.string ⟨#[]⟩), (.string ⟨#[]⟩), (.slice none 0 0)] 51)) = V10 at b ⊢
  have H3 : Hid (s3.At w.heap.size V10 w.heap.size ∧ HOk s3 ∧ s3.cs = [wk0, wk1, wk2] ∧ Below w.heap.size w V10) := ⟨H2c.out.1.under b, H2c.out.2.1, H2c.out.2.2.1, H2c.out.2.2.2.trans (b.mono H2c.out.2.2.2.size)⟩
  clear b z0 z1 z2 z3 z4 z5 z6 zf0 zf1 zf2 zf3 zf4 zf5 zf6
  refine (cell5_any 2 V10).mono ?_
  rintro e V11 ⟨rfl, b⟩
  obtain ⟨W, hW⟩ : ∃ W, W = V11.alloc (.cells #[(.bool true), (.int .i64 2), (.int .i8 0), (.int .i64 0), (.string ⟨#[]⟩), (.string ⟨#[]⟩), (.slice none 0 0)] 51) := ⟨_, rfl⟩
  have bW : Below V10.heap.size V10 W := b.trans (by rw [hW]; exact (Below.refl _ _).alloc b.size _)
  have gW : W.heap[V11.heap.size]? = some (.cells #[(.bool true), (.int .i64 2), (.int .i8 0), (.int .i64 0), (.string ⟨#[]⟩), (.string ⟨#[]⟩), (.slice none 0 0)] 51 (0, 0)) := by rw [hW]; exact block_alloc _ _
  have hBW : Below w.heap.size w W := H3.out.2.2.2.trans (bW.mono H3.out.2.2.2.size)
  have hrow : WRow (· < W.heap.size) W (some ⟨V11.heap.size, 0, none⟩) 1 1 [⟨true, 2, iW 0⟩] := (wrow_one gW ⟨true, 2, iW 0⟩ (aw_leaf _ _ _ _ _ (by decide))).keep (fun _ _ => rfl) (fun b e => by subst e; exact heap_lt gW)
  have HR := Lib.hid (Run_any H3.out.2.1.good W (H3.out.1.under bW) [⟨true, 2, iW 0⟩] (some ⟨V11.heap.size, 0, none⟩) 1 1 hrow (HSP.out.below hBW HSP.out.lt) (by show 1 ≤ 1000000; omega))
  have HBW := Lib.hid (And.intro hBW (H3.out.1.under bW))
  clear b bW gW hBW hrow
  go_wp2_with fail
  rw [← hW]
  clear hW
  refine HR.out.mono ?_
  rintro e V12 ⟨b12, (⟨-, so, ho, g, hcs, hok, hat, hgl, hge, hwi, rfl⟩ | ⟨hno, -⟩)⟩
  · have hrl : reachL s3.cs (rootsOf [⟨true, 2, iW 0⟩]) = [0, 2] := by
      have h := H3.out.2.1.good
      rw [H3.out.2.2.1] at h
      rw [H3.out.2.2.1, wk_roots]
      exact wk_reach h
    rw [hrl] at hcs hwi
    have hl2 : so.cs.length = 2 := by rw [hcs, colC_len]; rfl
    have hto : V12.cell? ⟨g, 1, none⟩ = some (.int .i64 1) := hwi 0 _ rfl 1 _ rfl
    have hl3 : s3.cs.length = 3 := by rw [H3.out.2.2.1]; rfl
    have HLN := Lib.hid (Len_any V12 hat)
    rw [hl2] at HLN
    have HLH := Lib.hid (Len_any V12 (HBW.out.2.under b12))
    rw [hl3] at HLH
    have HB12 := Lib.hid (HBW.out.1.trans (b12.mono HBW.out.1.size))
    clear hcs hok hat hgl hge hwi b12 hl2 hl3 hrl
    go_wp2_with (first | (refine HLN.out.mono ?_; rintro e w' ⟨rfl, hq⟩; subst w') | (refine HLH.out.mono ?_; rintro e w' ⟨rfl, hq⟩; subst w'))
    go_ret
    exact ⟨rfl, HB12.out⟩
  · exfalso
    rw [H3.out.2.2.1] at hno
    exact absurd wk_all (by rw [show [wk0, wk1, wk2].length = 3 from rfl] at hno; rw [hno]; decide)
end Go.Proofs.YtaemfjmmklpjeaaGreatDoor
