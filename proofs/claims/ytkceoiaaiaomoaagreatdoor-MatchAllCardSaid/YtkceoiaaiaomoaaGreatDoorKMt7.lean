/- Layer 10: the laws' Great and wakes; the document's own Same of binds. -/
import Derived.Test.YtkceoiaaiaomoaaGreatDoorKMt6
import Derived.Test.YtkceoiaaiaomoaaGreatDoorKRef03C
import Derived.Test.YtkceoiaaiaomoaaGreatDoorKGd15
set_option linter.unusedVariables false
set_option linter.unusedSimpArgs false
namespace Go.Proofs.YtkceoiaaiaomoaaGreatDoor
open Go.RowKit

def GrP10 (l : List Bd) (e : Ending) : Prop := ∃ b : Bool, e = .returned (.bool b) ∧ (b = false → l.length ≤ 200)
set_option maxHeartbeats 2000000 in
set_option maxRecDepth 100000 in
theorem Great10_any (l : List Bd) (A : Option Addr) (pn cap : Nat) (W : World) (hR : BRow (· < W.heap.size) W A pn cap l) :
    Calls Tryz.prog 25 #[.slice A pn cap] W fun e w' => GrP10 l e ∧ Below W.heap.size W w' := by
  obtain rfl := hR.len
  have hmax := hR.max
  unfold maxLen at hmax
  have HR := Lib.hid hR
  clear hR
  by_cases h2 : l.length ≤ 200
  case neg =>
    have h3 : (200 : Int) < (l.length : Int) := by omega
    clear h2
    go_enter Tryz.func25, Tryz.ntmps25
    go_wp2_with fail
    go_ret
    exact ⟨⟨true, rfl, (fun h => by cases h)⟩, Below.refl _ _⟩
  have HL : Hid (l.length ≤ 200) := h2
  have h3 : ¬ (200 : Int) < (l.length : Int) := by omega
  clear h2
  go_enter Tryz.func25, Tryz.ntmps25
  go_wp2_with fail
  go_loopw [3] (fun i wr => ∃ j : Nat, j ≤ l.length ∧ i = .int .i64 j ∧ Hid (Below W.heap.size W wr)) (fun i _ => l.length - (intOf i).toNat)
  case atStart => exact ⟨0, Nat.zero_le _, rfl, Lib.hid (Below.refl _ _)⟩
  case round =>
    obtain ⟨j, hj, rfl, HB⟩ := hrel
    by_cases hlt : j < l.length
    · obtain ⟨y, hy⟩ : ∃ y, l[j]? = some y := ⟨l[j], List.getElem?_eq_getElem hlt⟩
      obtain ⟨ad, u, rfl, had, hsz, hE, hTy⟩ := HR.out.at_ j y hy
      have hEr := hE.keep (HB.out.block ad.block had)
      have hTr := hTy.keep (Q := (· < wr.heap.size)) (w' := wr) (fun b hb => HB.out.block b hb) (fun b hb => Nat.lt_of_lt_of_le hb HB.out.size)
      have HC := Lib.hid (Great_any y.2 u wr hTr)
      obtain ⟨ys, yt⟩ := y
      obtain ⟨k', n', s', t', A', m', c', rfl⟩ : ∃ k' n' s' t' A' m' c', u = .agg #[.int .i8 k', .int .i64 n', .string s', .string t', .slice A' m' c'] := by
        dsimp only at hTy; cases hTy; exact ⟨_, _, _, _, _, _, _, rfl⟩
      obtain ⟨c0, c1, c2, c3, c4, hcc, es, e0, e1, e2, e3, e4⟩ := hEr
      simp only [Value.agg.injEq, Array.mk.injEq, List.cons.injEq, and_true] at hcc
      obtain ⟨rfl, rfl, rfl, rfl, rfl⟩ := hcc
      clear hE hTy hTr hy had hsz
      go_wp2_with fail
      refine HC.out.mono ?_
      rintro e w2 ⟨b, rfl, -, b2⟩
      have HB2 := Lib.hid (HB.out.trans (b2.mono HB.out.size))
      clear b2 es e0 e1 e2 e3 e4
      cases b
      · go_wp2_with fail
        go_roundw
        case rel => exact ⟨j + 1, by omega, by go_num, HB2⟩
        case measure => simp [intOf]; omega
      · go_wp2_with fail
        go_ret
        exact ⟨⟨true, rfl, (fun h => by cases h)⟩, HB2.out⟩
    · obtain rfl : j = l.length := by omega
      go_wp2_with fail
      go_ret
      exact ⟨⟨false, rfl, fun _ => HL.out⟩, HB.out⟩
def Same10P (l m : List Bd) (w : World) (e : Ending) (w' : World) : Prop := ∃ b : Bool, e = .returned (.bool b) ∧ (b = true ↔ l = m) ∧ Below w.heap.size w w'
set_option maxHeartbeats 8000000 in
set_option maxRecDepth 100000 in
theorem Same10_any (l m : List Bd) (A : Option Addr) (pn cap : Nat) (B : Option Addr) (qn qap : Nat) (W : World) (hR : BRow (· < W.heap.size) W A pn cap l) (hQ : BRow (· < W.heap.size) W B qn qap m) :
    Calls Tryz.prog 29 #[.slice A pn cap, .slice B qn qap] W (Same10P l m W) := by
  obtain rfl := hR.len
  obtain rfl := hQ.len
  have hmax := hR.max
  have hmax2 := hQ.max
  unfold maxLen at hmax hmax2
  have HR := Lib.hid hR
  have HQ := Lib.hid hQ
  clear hR hQ
  by_cases hlen : l.length = m.length
  case neg =>
    have hb : ((l.length : Int) != (m.length : Int)) = true := by simp; omega
    have HN : Hid (¬ l = m) := fun e => hlen (by rw [e])
    clear hlen
    go_enter Tryz.func29, Tryz.ntmps29
    go_wp2_with fail
    go_ret
    exact ⟨false, rfl, ⟨(fun h => by cases h), fun h => absurd h HN.out⟩, Below.refl _ _⟩
  have hb : ((l.length : Int) != (m.length : Int)) = false := by rw [hlen]; simp
  have HLEN := Lib.hid hlen
  clear hlen
  go_enter Tryz.func29, Tryz.ntmps29
  go_wp2_with fail
  go_loopw [5] (fun i wr => ∃ j : Nat, j ≤ l.length ∧ i = .int .i64 j ∧ Hid (Below W.heap.size W wr) ∧ Hid (l.take j = m.take j)) (fun i _ => l.length - (intOf i).toNat)
  case atStart => exact ⟨0, Nat.zero_le _, rfl, Lib.hid (Below.refl _ _), Lib.hid rfl⟩
  case round =>
    obtain ⟨j, hj, rfl, HB, HT⟩ := hrel
    by_cases hlt : j < l.length
    case neg =>
      obtain rfl : j = l.length := by omega
      have HEQ : Hid (l = m) := by
        have h := HT.out
        rw [List.take_length, HLEN.out, List.take_length] at h
        exact h
      go_wp2_with fail
      go_ret
      exact ⟨true, rfl, ⟨fun _ => HEQ.out, fun _ => rfl⟩, HB.out⟩
    have hlt2 : j < m.length := by rw [← HLEN.out]; exact hlt
    obtain ⟨y, hy⟩ : ∃ y, l[j]? = some y := ⟨l[j], List.getElem?_eq_getElem hlt⟩
    obtain ⟨z, hz⟩ : ∃ z, m[j]? = some z := ⟨m[j], List.getElem?_eq_getElem hlt2⟩
    obtain ⟨ad, u1, rfl, had, hsz, hE, hTy⟩ := HR.out.at_ j y hy
    obtain ⟨bd, u2, rfl, hbd, hsz2, hE', hTz⟩ := HQ.out.at_ j z hz
    obtain ⟨ys, yt⟩ := y
    obtain ⟨zs, zt⟩ := z
    obtain ⟨k1, n1, s1, t1, A1, m1, c1, rfl⟩ : ∃ k' n' s' t' A' m' c', u1 = .agg #[.int .i8 k', .int .i64 n', .string s', .string t', .slice A' m' c'] := by
      dsimp only at hTy; cases hTy; exact ⟨_, _, _, _, _, _, _, rfl⟩
    obtain ⟨k2, n2, s2, t2, A2, m2, c2, rfl⟩ : ∃ k' n' s' t' A' m' c', u2 = .agg #[.int .i8 k', .int .i64 n', .string s', .string t', .slice A' m' c'] := by
      dsimp only at hTz; cases hTz; exact ⟨_, _, _, _, _, _, _, rfl⟩
    have HE1 : Hid (∀ V, Below wr.heap.size wr V → BElem V ad j ys (.agg #[.int .i8 k1, .int .i64 n1, .string s1, .string t1, .slice A1 m1 c1])) := fun V hb => hE.keep ((hb.block _ (Nat.lt_of_lt_of_le had HB.out.size)).trans (HB.out.block _ had))
    have HE2 : Hid (∀ V, Below wr.heap.size wr V → BElem V bd j zs (.agg #[.int .i8 k2, .int .i64 n2, .string s2, .string t2, .slice A2 m2 c2])) := fun V hb => hE'.keep ((hb.block _ (Nat.lt_of_lt_of_le hbd HB.out.size)).trans (HB.out.block _ hbd))
    have HT1 : Hid (TmAt (· < wr.heap.size) wr yt (.agg #[.int .i8 k1, .int .i64 n1, .string s1, .string t1, .slice A1 m1 c1])) := hTy.keep (fun b hb => HB.out.block b hb) (fun b hb => Nat.lt_of_lt_of_le hb HB.out.size)
    have HT2 : Hid (TmAt (· < wr.heap.size) wr zt (.agg #[.int .i8 k2, .int .i64 n2, .string s2, .string t2, .slice A2 m2 c2])) := hTz.keep (fun b hb => HB.out.block b hb) (fun b hb => Nat.lt_of_lt_of_le hb HB.out.size)
    have HY := Lib.hid hy
    have HZ := Lib.hid hz
    clear hy hz hE hE' hTy hTz had hbd hsz hsz2
    have i0 : (0 : Int) ≤ (j : Int) := by omega
    have i1 : (j : Int) < (l.length : Int) := by omega
    have i2 : (j : Int) < (m.length : Int) := by omega
    go_upto_region 6 with fail
    refine wp_region_held (S := fun V => Below wr.heap.size wr V) (by kernel_rfl) ?_
    show wpAnyH _ _ _ _ _ _ _ _ wr.drew
    have hS : Below wr.heap.size wr wr.drew := ⟨rfl, rfl, rfl, Nat.le_refl _, fun _ _ => rfl⟩
    generalize wr.drew = D at hS ⊢
    by_cases hs : ys = zs
    case neg =>
      have hsb : (ys.toList == zs.toList) = false := by
        cases h : (ys.toList == zs.toList) with
        | false => rfl
        | true => exact absurd (ByteArray.ext (Array.toList_inj.1 (by have := eq_of_beq h; rwa [ByteArray.toList_eq, ByteArray.toList_eq] at this))) hs
      have HN : Hid (¬ l = m) := fun e => hs (by
        have h1 := HY.out
        rw [e, HZ.out] at h1
        exact (congrArg Prod.fst (Option.some.inj h1)).symm)
      clear hs
      refine wpAnyH_take (i := 0) (oi := ⟨some 17, _, _, _, _, _⟩) (v := ?_) rfl (by kernel_rfl) (by kernel_rfl) (by kernel_rfl) (fun _ _ _ h => h) (Or.inl ⟨by kernel_rfl, ?_⟩) (by assumption) ?_; rotate_left; (intro VV hSw; (try dsimp only at hSw); go_simp; first | done | with_reducible rfl); (try simp only [Act.put, sI, sZ, sS])
      refine wpAnyH_take (i := 1) (oi := ⟨some 18, _, _, _, _, _⟩) (v := ?_) rfl (by kernel_rfl) (by kernel_rfl) (by kernel_rfl) (fun _ _ _ h => h) (Or.inl ⟨by kernel_rfl, ?_⟩) (by assumption) ?_; rotate_left; (intro VV hSw; (try dsimp only at hSw); go_simp; first | done | with_reducible rfl); (try simp only [Act.put, sI, sZ, sS])
      refine wpAnyH_take (i := 2) (oi := ⟨some 19, _, _, _, _, _⟩) (v := ?_) rfl (by kernel_rfl) (by kernel_rfl) (by kernel_rfl) (fun _ _ _ h => h) (Or.inl ⟨by kernel_rfl, ?_⟩) (by assumption) ?_; rotate_left; (intro VV hSw; (try dsimp only at hSw); go_simp; first | done | with_reducible rfl); (try simp only [Act.put, sI, sZ, sS])
      refine wpAnyH_take (i := 3) (oi := ⟨some 20, _, _, _, _, _⟩) (v := ?_) rfl (by kernel_rfl) (by kernel_rfl) (by kernel_rfl) (fun _ _ _ h => h) (Or.inl ⟨by kernel_rfl, ?_⟩) (by assumption) ?_; rotate_left; (intro VV hSw; (try dsimp only at hSw); go_simp; first | done | with_reducible rfl); (try simp only [Act.put, sI, sZ, sS])
      refine wpAnyH_take (i := 4) (oi := ⟨some 21, _, _, _, _, _⟩) (v := ?_) rfl (by kernel_rfl) (by kernel_rfl) (by kernel_rfl) (fun _ _ _ h => h) (Or.inl ⟨by kernel_rfl, ?_⟩) (by assumption) ?_; rotate_left; (intro VV hSw; (try dsimp only at hSw); obtain ⟨pc0, pc1, pc2, pc3, pc4, pe, ps, p0, p1, p2, p3, p4⟩ := HE1.out VV hSw; simp only [Value.agg.injEq, Array.mk.injEq, List.cons.injEq, and_true] at pe; obtain ⟨rfl, rfl, rfl, rfl, rfl⟩ := pe; go_simp; first | done | with_reducible rfl); (try simp only [Act.put, sI, sZ, sS])
      refine wpAnyH_take (i := 5) (oi := ⟨some 22, _, _, _, _, _⟩) (v := ?_) rfl (by kernel_rfl) (by kernel_rfl) (by kernel_rfl) (fun _ _ _ h => h) (Or.inl ⟨by kernel_rfl, ?_⟩) (by assumption) ?_; rotate_left; (intro VV hSw; (try dsimp only at hSw); go_simp; first | done | with_reducible rfl); (try simp only [Act.put, sI, sZ, sS])
      refine wpAnyH_take (i := 6) (oi := ⟨some 23, _, _, _, _, _⟩) (v := ?_) rfl (by kernel_rfl) (by kernel_rfl) (by kernel_rfl) (fun _ _ _ h => h) (Or.inl ⟨by kernel_rfl, ?_⟩) (by assumption) ?_; rotate_left; (intro VV hSw; (try dsimp only at hSw); go_simp; first | done | with_reducible rfl); (try simp only [Act.put, sI, sZ, sS])
      refine wpAnyH_take (i := 7) (oi := ⟨some 24, _, _, _, _, _⟩) (v := ?_) rfl (by kernel_rfl) (by kernel_rfl) (by kernel_rfl) (fun _ _ _ h => h) (Or.inl ⟨by kernel_rfl, ?_⟩) (by assumption) ?_; rotate_left; (intro VV hSw; (try dsimp only at hSw); go_simp; first | done | with_reducible rfl); (try simp only [Act.put, sI, sZ, sS])
      refine wpAnyH_take (i := 8) (oi := ⟨some 25, _, _, _, _, _⟩) (v := ?_) rfl (by kernel_rfl) (by kernel_rfl) (by kernel_rfl) (fun _ _ _ h => h) (Or.inl ⟨by kernel_rfl, ?_⟩) (by assumption) ?_; rotate_left; (intro VV hSw; (try dsimp only at hSw); go_simp; first | done | with_reducible rfl); (try simp only [Act.put, sI, sZ, sS])
      refine wpAnyH_take (i := 9) (oi := ⟨some 26, _, _, _, _, _⟩) (v := ?_) rfl (by kernel_rfl) (by kernel_rfl) (by kernel_rfl) (fun _ _ _ h => h) (Or.inl ⟨by kernel_rfl, ?_⟩) (by assumption) ?_; rotate_left; (intro VV hSw; (try dsimp only at hSw); obtain ⟨qc0, qc1, qc2, qc3, qc4, qe, qs, q0, q1, q2, q3, q4⟩ := HE2.out VV hSw; simp only [Value.agg.injEq, Array.mk.injEq, List.cons.injEq, and_true] at qe; obtain ⟨rfl, rfl, rfl, rfl, rfl⟩ := qe; go_simp; first | done | with_reducible rfl); (try simp only [Act.put, sI, sZ, sS])
      refine wpAnyH_take (i := 10) (oi := ⟨some 27, _, _, _, _, _⟩) (v := ?_) rfl (by kernel_rfl) (by kernel_rfl) (by kernel_rfl) (fun _ _ _ h => h) (Or.inl ⟨by kernel_rfl, ?_⟩) (by assumption) ?_; rotate_left; (intro VV hSw; (try dsimp only at hSw); go_simp; first | done | with_reducible rfl); (try simp only [Act.put, sI, sZ, sS])
      refine wpAnyH_take (i := 11) (oi := ⟨some 28, _, _, _, _, _⟩) (v := ?_) rfl (by kernel_rfl) (by kernel_rfl) (by kernel_rfl) (fun _ _ _ h => h) (Or.inl ⟨by kernel_rfl, ?_⟩) (by assumption) ?_; rotate_left; (intro VV hSw; (try dsimp only at hSw); go_simp; first | done | with_reducible rfl); (try simp only [Act.put, sI, sZ, sS])
      refine wpAnyH_take (i := 12) (oi := ⟨some 29, _, _, _, _, _⟩) (v := undef) rfl (by kernel_rfl) (by kernel_rfl) (by kernel_rfl) (fun _ _ _ h => h) (Or.inr ⟨by kernel_rfl, rfl⟩) (by assumption) ?_; (try simp only [Act.put, sI, sZ, sS])
      refine wpAnyH_take (i := 13) (oi := ⟨some 30, _, _, _, _, _⟩) (v := undef) rfl (by kernel_rfl) (by kernel_rfl) (by kernel_rfl) (fun _ _ _ h => h) (Or.inr ⟨by kernel_rfl, rfl⟩) (by assumption) ?_; (try simp only [Act.put, sI, sZ, sS])
      refine wpAnyH_take (i := 14) (oi := ⟨some 31, _, _, _, _, _⟩) (v := undef) rfl (by kernel_rfl) (by kernel_rfl) (by kernel_rfl) (fun _ _ _ h => h) (Or.inr ⟨by kernel_rfl, rfl⟩) (by assumption) ?_; (try simp only [Act.put, sI, sZ, sS])
      refine wpAnyH_take (i := 15) (oi := ⟨some 32, _, _, _, _, _⟩) (v := undef) rfl (by kernel_rfl) (by kernel_rfl) (by kernel_rfl) (fun _ _ _ h => h) (Or.inr ⟨by kernel_rfl, rfl⟩) (by assumption) ?_; (try simp only [Act.put, sI, sZ, sS])
      refine wpAnyH_take (i := 16) (oi := ⟨some 33, _, _, _, _, _⟩) (v := undef) rfl (by kernel_rfl) (by kernel_rfl) (by kernel_rfl) (fun _ _ _ h => h) (Or.inr ⟨by kernel_rfl, rfl⟩) (by assumption) ?_; (try simp only [Act.put, sI, sZ, sS])
      refine wpAnyH_take (i := 17) (oi := ⟨some 34, _, _, _, _, _⟩) (v := undef) rfl (by kernel_rfl) (by kernel_rfl) (by kernel_rfl) (fun _ _ _ h => h) (Or.inr ⟨by kernel_rfl, rfl⟩) (by assumption) ?_; (try simp only [Act.put, sI, sZ, sS])
      refine wpAnyH_take (i := 18) (oi := ⟨some 35, _, _, _, _, _⟩) (v := undef) rfl (by kernel_rfl) (by kernel_rfl) (by kernel_rfl) (fun _ _ _ h => h) (Or.inr ⟨by kernel_rfl, rfl⟩) (by assumption) ?_; (try simp only [Act.put, sI, sZ, sS])
      refine wpAnyH_take (i := 19) (oi := ⟨some 36, _, _, _, _, _⟩) (v := undef) rfl (by kernel_rfl) (by kernel_rfl) (by kernel_rfl) (fun _ _ _ h => h) (Or.inr ⟨by kernel_rfl, rfl⟩) (by assumption) ?_; (try simp only [Act.put, sI, sZ, sS])
      refine wpAnyH_take (i := 20) (oi := ⟨some 37, _, _, _, _, _⟩) (v := undef) rfl (by kernel_rfl) (by kernel_rfl) (by kernel_rfl) (fun _ _ _ h => h) (Or.inr ⟨by kernel_rfl, rfl⟩) (by assumption) ?_; (try simp only [Act.put, sI, sZ, sS])
      refine wpAnyH_take (i := 21) (oi := ⟨some 38, _, _, _, _, _⟩) (v := undef) rfl (by kernel_rfl) (by kernel_rfl) (by kernel_rfl) (fun _ _ _ h => h) (Or.inr ⟨by kernel_rfl, rfl⟩) (by assumption) ?_; (try simp only [Act.put, sI, sZ, sS])
      refine wpAnyH_take (i := 22) (oi := ⟨some 39, _, _, _, _, _⟩) (v := undef) rfl (by kernel_rfl) (by kernel_rfl) (by kernel_rfl) (fun _ _ _ h => h) (Or.inr ⟨by kernel_rfl, rfl⟩) (by assumption) ?_; (try simp only [Act.put, sI, sZ, sS])
      refine wpAnyH_take (i := 23) (oi := ⟨some 40, _, _, _, _, _⟩) (v := undef) rfl (by kernel_rfl) (by kernel_rfl) (by kernel_rfl) (fun _ _ _ h => h) (Or.inr ⟨by kernel_rfl, rfl⟩) (by assumption) ?_; (try simp only [Act.put, sI, sZ, sS])
      refine wpAnyH_take (i := 24) (oi := ⟨some 41, _, _, _, _, _⟩) (v := ?_) rfl (by kernel_rfl) (by kernel_rfl) (by kernel_rfl) (fun _ _ _ h => h) (Or.inl ⟨by kernel_rfl, ?_⟩) (by assumption) ?_; rotate_left; (intro VV hSw; (try dsimp only at hSw); go_simp; first | done | with_reducible rfl); (try simp only [Act.put, sI, sZ, sS])
      refine wpAnyH_done (by kernel_rfl) ?_ _
      have HF := Lib.hid (HB.out.trans (hS.mono HB.out.size))
      clear hS
      go_wp2_with fail
      go_ret
      exact ⟨false, rfl, ⟨(fun h => by cases h), fun h => absurd h HN.out⟩, HF.out⟩
    have hsb : (ys.toList == zs.toList) = true := by rw [hs]; exact beq_self_eq_true _
    have HSS := Lib.hid hs
    clear hs
    refine wpAnyH_take (i := 0) (oi := ⟨some 17, _, _, _, _, _⟩) (v := ?_) rfl (by kernel_rfl) (by kernel_rfl) (by kernel_rfl) (fun _ _ _ h => h) (Or.inl ⟨by kernel_rfl, ?_⟩) (by assumption) ?_; rotate_left; (intro VV hSw; (try dsimp only at hSw); go_simp; first | done | with_reducible rfl); (try simp only [Act.put, sI, sZ, sS])
    refine wpAnyH_take (i := 1) (oi := ⟨some 18, _, _, _, _, _⟩) (v := ?_) rfl (by kernel_rfl) (by kernel_rfl) (by kernel_rfl) (fun _ _ _ h => h) (Or.inl ⟨by kernel_rfl, ?_⟩) (by assumption) ?_; rotate_left; (intro VV hSw; (try dsimp only at hSw); go_simp; first | done | with_reducible rfl); (try simp only [Act.put, sI, sZ, sS])
    refine wpAnyH_take (i := 2) (oi := ⟨some 19, _, _, _, _, _⟩) (v := ?_) rfl (by kernel_rfl) (by kernel_rfl) (by kernel_rfl) (fun _ _ _ h => h) (Or.inl ⟨by kernel_rfl, ?_⟩) (by assumption) ?_; rotate_left; (intro VV hSw; (try dsimp only at hSw); go_simp; first | done | with_reducible rfl); (try simp only [Act.put, sI, sZ, sS])
    refine wpAnyH_take (i := 3) (oi := ⟨some 20, _, _, _, _, _⟩) (v := ?_) rfl (by kernel_rfl) (by kernel_rfl) (by kernel_rfl) (fun _ _ _ h => h) (Or.inl ⟨by kernel_rfl, ?_⟩) (by assumption) ?_; rotate_left; (intro VV hSw; (try dsimp only at hSw); go_simp; first | done | with_reducible rfl); (try simp only [Act.put, sI, sZ, sS])
    refine wpAnyH_take (i := 4) (oi := ⟨some 21, _, _, _, _, _⟩) (v := ?_) rfl (by kernel_rfl) (by kernel_rfl) (by kernel_rfl) (fun _ _ _ h => h) (Or.inl ⟨by kernel_rfl, ?_⟩) (by assumption) ?_; rotate_left; (intro VV hSw; (try dsimp only at hSw); obtain ⟨pc0, pc1, pc2, pc3, pc4, pe, ps, p0, p1, p2, p3, p4⟩ := HE1.out VV hSw; simp only [Value.agg.injEq, Array.mk.injEq, List.cons.injEq, and_true] at pe; obtain ⟨rfl, rfl, rfl, rfl, rfl⟩ := pe; go_simp; first | done | with_reducible rfl); (try simp only [Act.put, sI, sZ, sS])
    refine wpAnyH_take (i := 5) (oi := ⟨some 22, _, _, _, _, _⟩) (v := ?_) rfl (by kernel_rfl) (by kernel_rfl) (by kernel_rfl) (fun _ _ _ h => h) (Or.inl ⟨by kernel_rfl, ?_⟩) (by assumption) ?_; rotate_left; (intro VV hSw; (try dsimp only at hSw); go_simp; first | done | with_reducible rfl); (try simp only [Act.put, sI, sZ, sS])
    refine wpAnyH_take (i := 6) (oi := ⟨some 23, _, _, _, _, _⟩) (v := ?_) rfl (by kernel_rfl) (by kernel_rfl) (by kernel_rfl) (fun _ _ _ h => h) (Or.inl ⟨by kernel_rfl, ?_⟩) (by assumption) ?_; rotate_left; (intro VV hSw; (try dsimp only at hSw); go_simp; first | done | with_reducible rfl); (try simp only [Act.put, sI, sZ, sS])
    refine wpAnyH_take (i := 7) (oi := ⟨some 24, _, _, _, _, _⟩) (v := ?_) rfl (by kernel_rfl) (by kernel_rfl) (by kernel_rfl) (fun _ _ _ h => h) (Or.inl ⟨by kernel_rfl, ?_⟩) (by assumption) ?_; rotate_left; (intro VV hSw; (try dsimp only at hSw); go_simp; first | done | with_reducible rfl); (try simp only [Act.put, sI, sZ, sS])
    refine wpAnyH_take (i := 8) (oi := ⟨some 25, _, _, _, _, _⟩) (v := ?_) rfl (by kernel_rfl) (by kernel_rfl) (by kernel_rfl) (fun _ _ _ h => h) (Or.inl ⟨by kernel_rfl, ?_⟩) (by assumption) ?_; rotate_left; (intro VV hSw; (try dsimp only at hSw); go_simp; first | done | with_reducible rfl); (try simp only [Act.put, sI, sZ, sS])
    refine wpAnyH_take (i := 9) (oi := ⟨some 26, _, _, _, _, _⟩) (v := ?_) rfl (by kernel_rfl) (by kernel_rfl) (by kernel_rfl) (fun _ _ _ h => h) (Or.inl ⟨by kernel_rfl, ?_⟩) (by assumption) ?_; rotate_left; (intro VV hSw; (try dsimp only at hSw); obtain ⟨qc0, qc1, qc2, qc3, qc4, qe, qs, q0, q1, q2, q3, q4⟩ := HE2.out VV hSw; simp only [Value.agg.injEq, Array.mk.injEq, List.cons.injEq, and_true] at qe; obtain ⟨rfl, rfl, rfl, rfl, rfl⟩ := qe; go_simp; first | done | with_reducible rfl); (try simp only [Act.put, sI, sZ, sS])
    refine wpAnyH_take (i := 10) (oi := ⟨some 27, _, _, _, _, _⟩) (v := ?_) rfl (by kernel_rfl) (by kernel_rfl) (by kernel_rfl) (fun _ _ _ h => h) (Or.inl ⟨by kernel_rfl, ?_⟩) (by assumption) ?_; rotate_left; (intro VV hSw; (try dsimp only at hSw); go_simp; first | done | with_reducible rfl); (try simp only [Act.put, sI, sZ, sS])
    refine wpAnyH_take (i := 11) (oi := ⟨some 28, _, _, _, _, _⟩) (v := ?_) rfl (by kernel_rfl) (by kernel_rfl) (by kernel_rfl) (fun _ _ _ h => h) (Or.inl ⟨by kernel_rfl, ?_⟩) (by assumption) ?_; rotate_left; (intro VV hSw; (try dsimp only at hSw); go_simp; first | done | with_reducible rfl); (try simp only [Act.put, sI, sZ, sS])
    refine wpAnyH_take (i := 12) (oi := ⟨some 29, _, _, _, _, _⟩) (v := ?_) rfl (by kernel_rfl) (by kernel_rfl) (by kernel_rfl) (fun _ _ _ h => h) (Or.inl ⟨by kernel_rfl, ?_⟩) (by assumption) ?_; rotate_left; (intro VV hSw; (try dsimp only at hSw); go_simp; first | done | with_reducible rfl); (try simp only [Act.put, sI, sZ, sS])
    refine wpAnyH_take (i := 13) (oi := ⟨some 30, _, _, _, _, _⟩) (v := ?_) rfl (by kernel_rfl) (by kernel_rfl) (by kernel_rfl) (fun _ _ _ h => h) (Or.inl ⟨by kernel_rfl, ?_⟩) (by assumption) ?_; rotate_left; (intro VV hSw; (try dsimp only at hSw); go_simp; first | done | with_reducible rfl); (try simp only [Act.put, sI, sZ, sS])
    refine wpAnyH_take (i := 14) (oi := ⟨some 31, _, _, _, _, _⟩) (v := ?_) rfl (by kernel_rfl) (by kernel_rfl) (by kernel_rfl) (fun _ _ _ h => h) (Or.inl ⟨by kernel_rfl, ?_⟩) (by assumption) ?_; rotate_left; (intro VV hSw; (try dsimp only at hSw); go_simp; first | done | with_reducible rfl); (try simp only [Act.put, sI, sZ, sS])
    refine wpAnyH_take (i := 15) (oi := ⟨some 32, _, _, _, _, _⟩) (v := ?_) rfl (by kernel_rfl) (by kernel_rfl) (by kernel_rfl) (fun _ _ _ h => h) (Or.inl ⟨by kernel_rfl, ?_⟩) (by assumption) ?_; rotate_left; (intro VV hSw; (try dsimp only at hSw); go_simp; first | done | with_reducible rfl); (try simp only [Act.put, sI, sZ, sS])
    refine wpAnyH_take (i := 16) (oi := ⟨some 33, _, _, _, _, _⟩) (v := ?_) rfl (by kernel_rfl) (by kernel_rfl) (by kernel_rfl) (fun _ _ _ h => h) (Or.inl ⟨by kernel_rfl, ?_⟩) (by assumption) ?_; rotate_left; (intro VV hSw; (try dsimp only at hSw); obtain ⟨pc0, pc1, pc2, pc3, pc4, pe, ps, p0, p1, p2, p3, p4⟩ := HE1.out VV hSw; simp only [Value.agg.injEq, Array.mk.injEq, List.cons.injEq, and_true] at pe; obtain ⟨rfl, rfl, rfl, rfl, rfl⟩ := pe; go_simp; first | done | with_reducible rfl); (try simp only [Act.put, sI, sZ, sS])
    refine wpAnyH_take (i := 17) (oi := ⟨some 34, _, _, _, _, _⟩) (v := ?_) rfl (by kernel_rfl) (by kernel_rfl) (by kernel_rfl) (fun _ _ _ h => h) (Or.inl ⟨by kernel_rfl, ?_⟩) (by assumption) ?_; rotate_left; (intro VV hSw; (try dsimp only at hSw); go_simp; first | done | with_reducible rfl); (try simp only [Act.put, sI, sZ, sS])
    refine wpAnyH_take (i := 18) (oi := ⟨some 35, _, _, _, _, _⟩) (v := ?_) rfl (by kernel_rfl) (by kernel_rfl) (by kernel_rfl) (fun _ _ _ h => h) (Or.inl ⟨by kernel_rfl, ?_⟩) (by assumption) ?_; rotate_left; (intro VV hSw; (try dsimp only at hSw); go_simp; first | done | with_reducible rfl); (try simp only [Act.put, sI, sZ, sS])
    refine wpAnyH_take (i := 19) (oi := ⟨some 36, _, _, _, _, _⟩) (v := ?_) rfl (by kernel_rfl) (by kernel_rfl) (by kernel_rfl) (fun _ _ _ h => h) (Or.inl ⟨by kernel_rfl, ?_⟩) (by assumption) ?_; rotate_left; (intro VV hSw; (try dsimp only at hSw); go_simp; first | done | with_reducible rfl); (try simp only [Act.put, sI, sZ, sS])
    refine wpAnyH_take (i := 20) (oi := ⟨some 37, _, _, _, _, _⟩) (v := ?_) rfl (by kernel_rfl) (by kernel_rfl) (by kernel_rfl) (fun _ _ _ h => h) (Or.inl ⟨by kernel_rfl, ?_⟩) (by assumption) ?_; rotate_left; (intro VV hSw; (try dsimp only at hSw); go_simp; first | done | with_reducible rfl); (try simp only [Act.put, sI, sZ, sS])
    refine wpAnyH_take (i := 21) (oi := ⟨some 38, _, _, _, _, _⟩) (v := ?_) rfl (by kernel_rfl) (by kernel_rfl) (by kernel_rfl) (fun _ _ _ h => h) (Or.inl ⟨by kernel_rfl, ?_⟩) (by assumption) ?_; rotate_left; (intro VV hSw; (try dsimp only at hSw); obtain ⟨qc0, qc1, qc2, qc3, qc4, qe, qs, q0, q1, q2, q3, q4⟩ := HE2.out VV hSw; simp only [Value.agg.injEq, Array.mk.injEq, List.cons.injEq, and_true] at qe; obtain ⟨rfl, rfl, rfl, rfl, rfl⟩ := qe; go_simp; first | done | with_reducible rfl); (try simp only [Act.put, sI, sZ, sS])
    refine wpAnyH_ready (rs := [22]) (by kernel_rfl) (by simp) ?_
    refine AllReadyH.cons (o := ⟨some 39, _, _, _, _, _⟩) rfl (fun K hK => ?_) AllReadyH.nil
    · rw [if_pos (by rfl)]
      go_simp
      refine (Same_any yt zt _ _ D (HT1.out.later hS) (HT2.out.later hS)).mono ?_
      rintro e V2 ⟨bb, rfl, hbb, b5⟩
      have hS1 := hS.trans (b5.mono hS.size)
      refine hK.out _ _ hS1 (fun hSn => ?_)
      clear hK K hSn; (try simp only [Act.put, sI, sZ, sS])
      refine wpAnyH_take (i := 23) (oi := ⟨some 40, _, _, _, _, _⟩) (v := ?_) rfl (by kernel_rfl) (by kernel_rfl) (by kernel_rfl) (fun _ _ _ h => h) (Or.inl ⟨by kernel_rfl, ?_⟩) (by assumption) ?_; rotate_left; (intro VV hSw; (try dsimp only at hSw); go_simp; first | done | with_reducible rfl); (try simp only [Act.put, sI, sZ, sS])
      refine wpAnyH_take (i := 24) (oi := ⟨some 41, _, _, _, _, _⟩) (v := ?_) rfl (by kernel_rfl) (by kernel_rfl) (by kernel_rfl) (fun _ _ _ h => h) (Or.inl ⟨by kernel_rfl, ?_⟩) (by assumption) ?_; rotate_left; (intro VV hSw; (try dsimp only at hSw); go_simp; first | done | with_reducible rfl); (try simp only [Act.put, sI, sZ, sS])
      refine wpAnyH_done (by kernel_rfl) ?_ _
      have HF := Lib.hid (HB.out.trans (hS1.mono HB.out.size))
      have HBB := Lib.hid hbb
      clear hS hS1 hbb b5
      cases bb with
      | false =>
        have HN : Hid (¬ l = m) := fun e => by
          have h1 := HY.out
          rw [e, HZ.out] at h1
          have h2 := (congrArg Prod.snd (Option.some.inj h1)).symm
          have h3 := HBB.out.2 h2
          cases h3
        go_wp2_with fail
        go_ret
        exact ⟨false, rfl, ⟨(fun h => by cases h), fun h => absurd h HN.out⟩, HF.out⟩
      | true =>
        have HT9 : Hid (l.take (j + 1) = m.take (j + 1)) := by
          show _ = _
          rw [List.take_add_one, List.take_add_one, HT.out, HY.out, HZ.out, HSS.out, HBB.out.1 rfl]
        go_wp2_with fail
        go_roundw
        case rel => exact ⟨j + 1, by omega, by go_num, HF, HT9⟩
        case measure => simp [intOf]; omega
theorem v10_any (s : ByteArray) (w : World) : Calls Tryz.prog 68 #[.string s] w fun e w' => e = .returned (.agg #[.int .i8 5, .int .i64 0, .string s, .string ⟨#[]⟩, .slice none 0 0]) ∧ Below w.heap.size w w' := by
  go_enter Tryz.func68, Tryz.ntmps68
  go_wp2_with fail
  refine bodyPost_ret (v := .agg #[.int .i8 5, .int .i64 0, .string s, .string ⟨#[]⟩, .slice none 0 0]) (by simp [results, Tryz.f68, go_sem]) rfl ⟨rfl, (Below.refl _ _).alloc (Nat.le_refl _) _⟩
def twoT (a b : Int) : Tm := tupT [intT a, intT b]
set_option maxHeartbeats 2000000 in
set_option maxRecDepth 100000 in
theorem two10_any (a b : Int) (ha : -9223372036854775808 ≤ a ∧ a ≤ 9223372036854775807) (hb : -9223372036854775808 ≤ b ∧ b ≤ 9223372036854775807) (w : World) :
    Calls Tryz.prog 69 #[.int .i64 a, .int .i64 b] w fun e w' => ∃ g, e = .returned (.agg #[.int .i8 5, .int .i64 0, .string ⟨#[]⟩, .string ⟨#[]⟩, .slice (some ⟨g, 0, none⟩) 2 2]) ∧ TmAt (· < w'.heap.size) w' (twoT a b) (.agg #[.int .i8 5, .int .i64 0, .string ⟨#[]⟩, .string ⟨#[]⟩, .slice (some ⟨g, 0, none⟩) 2 2]) ∧ Below w.heap.size w w' := by
  obtain ⟨w1, hw1⟩ : ∃ w1, w1 = w.alloc (.cells #[.int .i8 0, .int .i64 0, .string ⟨#[]⟩, .string ⟨#[]⟩, .slice none 0 0] 44) := ⟨_, rfl⟩
  have b1 : Below w.heap.size w w1 := by rw [hw1]; exact (Below.refl _ w).alloc (Nat.le_refl _) _
  have HG : Hid (w1.heap[w.heap.size]? = some (.cells #[.int .i8 0, .int .i64 0, .string ⟨#[]⟩, .string ⟨#[]⟩, .slice none 0 0] 44 (0, 0))) := Lib.hid (by rw [hw1]; exact block_alloc _ _)
  have HB := Lib.hid b1
  have HA : Hid (-9223372036854775808 ≤ a ∧ a ≤ 9223372036854775807) := ha
  have HBB : Hid (-9223372036854775808 ≤ b ∧ b ≤ 9223372036854775807) := hb
  clear b1 ha hb
  go_enter Tryz.func69, Tryz.ntmps69
  go_upto_region 1 with fail
  rw [← hw1]
  clear hw1
  go_wp2_with fail
  refine (rInt_any a w1).mono ?_
  rintro e w2 ⟨rfl, b2⟩
  have HB2 := Lib.hid (HB.out.trans (b2.mono HB.out.size))
  have HG2 := Lib.hid ((b2.block _ (heap_lt HG.out)).trans HG.out)
  clear b2
  go_wp2_with fail
  refine (rInt_any b w2).mono ?_
  rintro e w3 ⟨rfl, b3⟩
  have HB3 := Lib.hid (HB2.out.trans (b3.mono HB2.out.size))
  have HG3 := Lib.hid ((b3.block _ (heap_lt HG2.out)).trans HG2.out)
  clear b3
  have b4 : Below w3.heap.size w3 (w3.alloc (.cells #[.int .i8 0, .int .i64 a, .string ⟨#[]⟩, .string ⟨#[]⟩, .slice none 0 0, .int .i8 0, .int .i64 b, .string ⟨#[]⟩, .string ⟨#[]⟩, .slice none 0 0] 44)) := (Below.refl _ _).alloc (Nat.le_refl _) _
  have rq : (w3.alloc (.cells #[.int .i8 0, .int .i64 a, .string ⟨#[]⟩, .string ⟨#[]⟩, .slice none 0 0, .int .i8 0, .int .i64 b, .string ⟨#[]⟩, .string ⟨#[]⟩, .slice none 0 0] 44)).heap[w3.heap.size]? = some (.cells #[.int .i8 0, .int .i64 a, .string ⟨#[]⟩, .string ⟨#[]⟩, .slice none 0 0, .int .i8 0, .int .i64 b, .string ⟨#[]⟩, .string ⟨#[]⟩, .slice none 0 0] 44 (0, 0)) := block_alloc _ _
  have hgr := (b4.block _ (heap_lt HG3.out)).trans HG3.out
  have HB4 := Lib.hid (HB3.out.trans (b4.mono HB3.out.size))
  have hge : w.heap.size < w3.heap.size := heap_lt HG3.out
  obtain ⟨⟨r0, r1, r2, r3, r4⟩, rf0, rf1, rf2, rf3, rf4⟩ := five_fr hgr
  obtain ⟨s5, m5⟩ := set_five (.int .i8 5) (.int .i64 0) (.string ⟨#[]⟩) (.string ⟨#[]⟩) (.slice (some ⟨w3.heap.size, 0, none⟩) 2 2) hgr
  have r5 := (m5.block w3.heap.size (heap_lt rq) (fun (e : w3.heap.size = w.heap.size) => by omega)).trans rq
  have HS5 := Lib.hid s5
  have HM5 := Lib.hid m5
  have HR5 := Lib.hid r5
  clear rq hgr hge s5 m5 r5 b4
  go_wp2_with fail
  have s5 := HS5.out
  have m5 := HM5.out
  have r5 := HR5.out
  clear HS5 HM5 HR5
  generalize ((((((w3.alloc (.cells #[.int .i8 0, .int .i64 a, .string ⟨#[]⟩, .string ⟨#[]⟩, .slice none 0 0, .int .i8 0, .int .i64 b, .string ⟨#[]⟩, .string ⟨#[]⟩, .slice none 0 0] 44)).setCell ⟨w.heap.size, 0, none⟩ (.int .i8 5)).setCell ⟨w.heap.size, 1, none⟩ (.int .i64 0)).setCell ⟨w.heap.size, 2, none⟩ (.string ⟨#[]⟩)).setCell ⟨w.heap.size, 3, none⟩ (.string ⟨#[]⟩)).setCell ⟨w.heap.size, 4, none⟩ (.slice (some ⟨w3.heap.size, 0, none⟩) 2 2)) = VX at s5 m5 r5 ⊢
  obtain ⟨z0, z1, z2, z3, z4⟩ := five_of s5
  refine bodyPost_ret (v := .agg #[.int .i8 5, .int .i64 0, .string ⟨#[]⟩, .string ⟨#[]⟩, .slice (some ⟨w3.heap.size, 0, none⟩) 2 2]) (by simp [results, Tryz.f69, go_sem, z0, z1, z2, z3, z4]) rfl ?_
  refine ⟨w3.heap.size, rfl, ?_, HB4.out.trans (m5.below HB4.out.size (fun q (e : q = _) => by omega))⟩
  exact TmAt.of_row (k := 5) (n := 0) (s := ⟨#[]⟩) (t := ⟨#[]⟩) (l := [intT a, intT b]) (row2_of r5 (heap_lt r5) (TmAt.of_row (.nil _ _ none 0) (by decide) HA.out (by decide) (by decide)) (TmAt.of_row (.nil _ _ none 0) (by decide) HBB.out (by decide) (by decide))) (by decide) (by decide) (by decide) (by decide)
end Go.Proofs.YtkceoiaaiaomoaaGreatDoor
