/- Layer 10: the kinds' own functions of the matcher, and its row. -/
import Derived.Test.YtkceoiaaiaomoaaGreatDoorKMt3
set_option linter.unusedVariables false
set_option linter.unusedSimpArgs false
namespace Go.Proofs.YtkceoiaaiaomoaaGreatDoor
open Go.RowKit

def ElK (base : Nat) (W0 : World) (X M mb : Nat) (p : Tm) (F : Nat) (args : Value → Value → Array Value) : Prop :=
  ∀ (t : Tm) (l : List Bd) (W : World) (v u : Value), MAt base W0 X M mb l W → TmAt (· < base) W0 p v → TmAt (· < base) W0 t u → checkN t = 0 → l.length + p.nodes ≤ 500000 →
    Calls Tryz.prog F (args v u) W (PostM base W0 X M mb W (goP p t l))
structure ElC (base : Nat) (W0 : World) (X M mb : Nat) (p : Tm) : Prop where
  k5 : p.k = 5 → ElK base W0 X M mb p 135 (fun v u => #[.pointer (some ⟨X, 0, none⟩), v, u])
  k6 : p.k = 6 → ElK base W0 X M mb p 136 (fun v u => #[v, u])
  k7 : p.k = 7 → ElK base W0 X M mb p 137 (fun v u => #[v, u])
  k8 : p.k = 8 → ElK base W0 X M mb p 138 (fun v u => #[v, u])
  k9 : p.k = 9 → ElK base W0 X M mb p 139 (fun v u => #[v, u, .pointer (some ⟨M, 0, none⟩)])
  k10 : p.k = 10 → ElK base W0 X M mb p 140 (fun v u => #[v, u, .pointer (some ⟨M, 0, none⟩)])
theorem PostM.of {base : Nat} {W0 : World} {X M mb : Nat} {W w' : World} {l : List Bd} {r : Option (List Bd)} {e : Ending} {b : Bool} (he : e = .returned (.bool b)) (hM : MAt base W0 X M mb l w') (hr : r = if b = true then some l else none) (hk : KeptM W w') : PostM base W0 X M mb W r e w' := ⟨b, l, he, hM, hr, hk⟩
theorem goP_6 (n : Int) (s u : ByteArray) (ps : List Tm) (t : Tm) (l : List Bd) : goP (.mk 6 n s u ps) t l = if t.k = 0 ∧ t.n = n then some l else none := by rw [goP, if_neg (by decide), if_pos rfl]
theorem goP_7 (n : Int) (s u : ByteArray) (ps : List Tm) (t : Tm) (l : List Bd) : goP (.mk 7 n s u ps) t l = if t.k = 1 ∧ t.s = s then some l else none := by rw [goP, if_neg (by decide), if_neg (by decide), if_pos rfl]
theorem goP_8 (n : Int) (s u : ByteArray) (ps : List Tm) (t : Tm) (l : List Bd) : goP (.mk 8 n s u ps) t l = if t.k = 6 then some l else none := by rw [goP, if_neg (by decide), if_neg (by decide), if_neg (by decide), if_pos rfl]
theorem goP_9 (n : Int) (s u : ByteArray) (ps : List Tm) (t : Tm) (l : List Bd) : goP (.mk 9 n s u ps) t l = if t.k = 7 ∧ ps.length = t.l.length then goPs ps t.l l else none := by rw [goP, if_neg (by decide), if_neg (by decide), if_neg (by decide), if_neg (by decide), if_pos rfl]
theorem goP_10 (n : Int) (s u : ByteArray) (ps : List Tm) (t : Tm) (l : List Bd) : goP (.mk 10 n s u ps) t l = if t.k = 5 ∧ ps.length = t.l.length then goPs ps t.l l else none := by rw [goP, if_neg (by decide), if_neg (by decide), if_neg (by decide), if_neg (by decide), if_neg (by decide)]
set_option maxHeartbeats 4000000 in
set_option maxRecDepth 100000 in
theorem el_6 (base : Nat) (W0 : World) (X M mb : Nat) (n : Int) (s u : ByteArray) (ps : List Tm) : ElK base W0 X M mb (.mk 6 n s u ps) 136 (fun v u => #[v, u]) := by
  intro t l W v u0 hM hP hT hc hmany
  obtain ⟨NA, nc, rfl, hRP, -⟩ := hP.parts
  obtain ⟨tk, tn, ts, tu, TL⟩ := t
  obtain ⟨TA, tc, rfl, hRT, -⟩ := hT.parts
  have g0 := there_of (.cells #[.int .i8 tk, .int .i64 tn, .string ts, .string tu, .slice TA TL.length tc] 44) (block_alloc W (.cells #[.int .i8 6, .int .i64 n, .string s, .string u, .slice NA ps.length nc] 25))
  have g1 := block_alloc (W.alloc (.cells #[.int .i8 6, .int .i64 n, .string s, .string u, .slice NA ps.length nc] 25)) (.cells #[.int .i8 tk, .int .i64 tn, .string ts, .string tu, .slice TA TL.length tc] 44)
  rw [World.size_alloc] at g1
  have b2 : Below W.heap.size W ((W.alloc (.cells #[.int .i8 6, .int .i64 n, .string s, .string u, .slice NA ps.length nc] 25)).alloc (.cells #[.int .i8 tk, .int .i64 tn, .string ts, .string tu, .slice TA TL.length tc] 44)) := ((Below.refl _ W).alloc (Nat.le_refl _) _).alloc (by simp) _
  obtain ⟨W2, hW2⟩ : ∃ W2, W2 = (W.alloc (.cells #[.int .i8 6, .int .i64 n, .string s, .string u, .slice NA ps.length nc] 25)).alloc (.cells #[.int .i8 tk, .int .i64 tn, .string ts, .string tu, .slice TA TL.length tc] 44) := ⟨_, rfl⟩
  rw [← hW2] at g0 g1 b2
  have hM2 := hM.under b2
  have HM2 := Lib.hid hM2
  have HB2 := Lib.hid b2
  obtain ⟨x0, x1, x2, x3, x4⟩ := five_of g0
  obtain ⟨y0, y1, y2, y3, y4⟩ := five_of g1
  obtain ⟨R, hR⟩ : ∃ R, R = goP (.mk 6 n s u ps) (.mk tk tn ts tu TL) l := ⟨_, rfl⟩
  rw [← hR]
  rw [goP_6] at hR
  have HRR := Lib.hid hR
  clear g0 g1 b2 hM2 hM hP hT hRP hRT hc hmany hR
  by_cases h1 : tk = 0
  · have hb : (tk == 0) = true := by simpa using h1
    by_cases h2 : tn = n
    · skip
      have hb2 : (tn == n) = true := by simpa using h2
      have HF : Hid (R = some l) := HRR.out.trans (if_pos ⟨h1, h2⟩)
      clear h1 h2
      go_enter Tryz.func136, Tryz.ntmps136
      go_upto_region 1 with fail
      rw [← hW2]
      clear hW2
      go_wp2_with fail
      go_ret
      exact .of (b := true) rfl HM2.out HF.out (KeptM.of_below HB2.out)
    · skip
      have hb2 : (tn == n) = false := by simpa using h2
      have HF : Hid (R = none) := HRR.out.trans (if_neg (fun h => h2 h.2))
      clear h1 h2
      go_enter Tryz.func136, Tryz.ntmps136
      go_upto_region 1 with fail
      rw [← hW2]
      clear hW2
      go_wp2_with fail
      go_ret
      exact .of (b := false) rfl HM2.out HF.out (KeptM.of_below HB2.out)
  · have hb : (tk == 0) = false := by simpa using h1
    have HF : Hid (R = none) := HRR.out.trans (if_neg (fun h => h1 h.1))
    clear h1
    go_enter Tryz.func136, Tryz.ntmps136
    go_upto_region 1 with fail
    rw [← hW2]
    clear hW2
    go_wp2_with fail
    go_ret
    exact .of (b := false) rfl HM2.out HF.out (KeptM.of_below HB2.out)
set_option maxHeartbeats 4000000 in
set_option maxRecDepth 100000 in
theorem el_7 (base : Nat) (W0 : World) (X M mb : Nat) (n : Int) (s u : ByteArray) (ps : List Tm) : ElK base W0 X M mb (.mk 7 n s u ps) 137 (fun v u => #[v, u]) := by
  intro t l W v u0 hM hP hT hc hmany
  obtain ⟨NA, nc, rfl, hRP, -⟩ := hP.parts
  obtain ⟨tk, tn, ts, tu, TL⟩ := t
  obtain ⟨TA, tc, rfl, hRT, -⟩ := hT.parts
  have g0 := there_of (.cells #[.int .i8 tk, .int .i64 tn, .string ts, .string tu, .slice TA TL.length tc] 44) (block_alloc W (.cells #[.int .i8 7, .int .i64 n, .string s, .string u, .slice NA ps.length nc] 25))
  have g1 := block_alloc (W.alloc (.cells #[.int .i8 7, .int .i64 n, .string s, .string u, .slice NA ps.length nc] 25)) (.cells #[.int .i8 tk, .int .i64 tn, .string ts, .string tu, .slice TA TL.length tc] 44)
  rw [World.size_alloc] at g1
  have b2 : Below W.heap.size W ((W.alloc (.cells #[.int .i8 7, .int .i64 n, .string s, .string u, .slice NA ps.length nc] 25)).alloc (.cells #[.int .i8 tk, .int .i64 tn, .string ts, .string tu, .slice TA TL.length tc] 44)) := ((Below.refl _ W).alloc (Nat.le_refl _) _).alloc (by simp) _
  obtain ⟨W2, hW2⟩ : ∃ W2, W2 = (W.alloc (.cells #[.int .i8 7, .int .i64 n, .string s, .string u, .slice NA ps.length nc] 25)).alloc (.cells #[.int .i8 tk, .int .i64 tn, .string ts, .string tu, .slice TA TL.length tc] 44) := ⟨_, rfl⟩
  rw [← hW2] at g0 g1 b2
  have hM2 := hM.under b2
  have HM2 := Lib.hid hM2
  have HB2 := Lib.hid b2
  obtain ⟨x0, x1, x2, x3, x4⟩ := five_of g0
  obtain ⟨y0, y1, y2, y3, y4⟩ := five_of g1
  obtain ⟨R, hR⟩ : ∃ R, R = goP (.mk 7 n s u ps) (.mk tk tn ts tu TL) l := ⟨_, rfl⟩
  rw [← hR]
  rw [goP_7] at hR
  have HRR := Lib.hid hR
  clear g0 g1 b2 hM2 hM hP hT hRP hRT hc hmany hR
  by_cases h1 : tk = 1
  · have hb : (tk == 1) = true := by simpa using h1
    by_cases h2 : ts = s
    · skip
      have hb2 : (ts.toList == s.toList) = true := by rw [h2]; exact beq_self_eq_true _
      have HF : Hid (R = some l) := HRR.out.trans (if_pos ⟨h1, h2⟩)
      clear h1 h2
      go_enter Tryz.func137, Tryz.ntmps137
      go_upto_region 1 with fail
      rw [← hW2]
      clear hW2
      go_wp2_with fail
      go_ret
      exact .of (b := true) rfl HM2.out HF.out (KeptM.of_below HB2.out)
    · skip
      have hb2 : (ts.toList == s.toList) = false := by
        cases h : (ts.toList == s.toList) with
        | false => rfl
        | true => exact absurd (ByteArray.ext (Array.toList_inj.1 (by have := eq_of_beq h; rwa [ByteArray.toList_eq, ByteArray.toList_eq] at this))) h2
      have HF : Hid (R = none) := HRR.out.trans (if_neg (fun h => h2 h.2))
      clear h1 h2
      go_enter Tryz.func137, Tryz.ntmps137
      go_upto_region 1 with fail
      rw [← hW2]
      clear hW2
      go_wp2_with fail
      go_ret
      exact .of (b := false) rfl HM2.out HF.out (KeptM.of_below HB2.out)
  · have hb : (tk == 1) = false := by simpa using h1
    have HF : Hid (R = none) := HRR.out.trans (if_neg (fun h => h1 h.1))
    clear h1
    go_enter Tryz.func137, Tryz.ntmps137
    go_upto_region 1 with fail
    rw [← hW2]
    clear hW2
    go_wp2_with fail
    go_ret
    exact .of (b := false) rfl HM2.out HF.out (KeptM.of_below HB2.out)
set_option maxHeartbeats 4000000 in
set_option maxRecDepth 100000 in
theorem el_8 (base : Nat) (W0 : World) (X M mb : Nat) (n : Int) (s u : ByteArray) (ps : List Tm) : ElK base W0 X M mb (.mk 8 n s u ps) 138 (fun v u => #[v, u]) := by
  intro t l W v u0 hM hP hT hc hmany
  obtain ⟨NA, nc, rfl, hRP, -⟩ := hP.parts
  obtain ⟨tk, tn, ts, tu, TL⟩ := t
  obtain ⟨TA, tc, rfl, hRT, -⟩ := hT.parts
  have g0 := there_of (.cells #[.int .i8 tk, .int .i64 tn, .string ts, .string tu, .slice TA TL.length tc] 44) (block_alloc W (.cells #[.int .i8 8, .int .i64 n, .string s, .string u, .slice NA ps.length nc] 25))
  have g1 := block_alloc (W.alloc (.cells #[.int .i8 8, .int .i64 n, .string s, .string u, .slice NA ps.length nc] 25)) (.cells #[.int .i8 tk, .int .i64 tn, .string ts, .string tu, .slice TA TL.length tc] 44)
  rw [World.size_alloc] at g1
  have b2 : Below W.heap.size W ((W.alloc (.cells #[.int .i8 8, .int .i64 n, .string s, .string u, .slice NA ps.length nc] 25)).alloc (.cells #[.int .i8 tk, .int .i64 tn, .string ts, .string tu, .slice TA TL.length tc] 44)) := ((Below.refl _ W).alloc (Nat.le_refl _) _).alloc (by simp) _
  obtain ⟨W2, hW2⟩ : ∃ W2, W2 = (W.alloc (.cells #[.int .i8 8, .int .i64 n, .string s, .string u, .slice NA ps.length nc] 25)).alloc (.cells #[.int .i8 tk, .int .i64 tn, .string ts, .string tu, .slice TA TL.length tc] 44) := ⟨_, rfl⟩
  rw [← hW2] at g0 g1 b2
  have hM2 := hM.under b2
  have HM2 := Lib.hid hM2
  have HB2 := Lib.hid b2
  obtain ⟨x0, x1, x2, x3, x4⟩ := five_of g0
  obtain ⟨y0, y1, y2, y3, y4⟩ := five_of g1
  obtain ⟨R, hR⟩ : ∃ R, R = goP (.mk 8 n s u ps) (.mk tk tn ts tu TL) l := ⟨_, rfl⟩
  rw [← hR]
  rw [goP_8] at hR
  have HRR := Lib.hid hR
  clear g0 g1 b2 hM2 hM hP hT hRP hRT hc hmany hR
  by_cases h1 : tk = 6
  · have hb : (tk == 6) = true := by simpa using h1
    have HF : Hid (R = some l) := HRR.out.trans (if_pos h1)
    clear h1
    go_enter Tryz.func138, Tryz.ntmps138
    go_upto_region 1 with fail
    rw [← hW2]
    clear hW2
    go_wp2_with fail
    go_ret
    exact .of (b := true) rfl HM2.out HF.out (KeptM.of_below HB2.out)
  · have hb : (tk == 6) = false := by simpa using h1
    have HF : Hid (R = none) := HRR.out.trans (if_neg h1)
    clear h1
    go_enter Tryz.func138, Tryz.ntmps138
    go_upto_region 1 with fail
    rw [← hW2]
    clear hW2
    go_wp2_with fail
    go_ret
    exact .of (b := false) rfl HM2.out HF.out (KeptM.of_below HB2.out)
theorem goPs_cons {ps ts : List Tm} {j : Nat} {x y : Tm} (hx : ps[j]? = some x) (hy : ts[j]? = some y) (l : List Bd) : goPs (ps.drop j) (ts.drop j) l = match goP x y l with | some l' => goPs (ps.drop (j + 1)) (ts.drop (j + 1)) l' | none => none := by
  obtain ⟨h1, h2⟩ := List.getElem?_eq_some_iff.1 hx
  obtain ⟨h3, h4⟩ := List.getElem?_eq_some_iff.1 hy
  subst h2 h4
  rw [List.drop_eq_getElem_cons h1, List.drop_eq_getElem_cons h3, goPs] <;> (cases goP ps[j] ts[j] l <;> rfl)
mutual
theorem goP_len : ∀ (p t : Tm) (l l' : List Bd), goP p t l = some l' → l'.length ≤ l.length + p.nodes
  | .mk k n s u ps, t, l, l', h => by
    have hn : (Tm.mk k n s u ps).nodes = (Tm.pres ps).length + 1 := Tm.nodes_mk _ _ _ _ _
    rw [goP] at h
    split at h
    · split at h
      · cases h; omega
      · split at h
        · split at h
          · cases h; omega
          · cases h
        · cases h; simp; omega
    · split at h
      · split at h
        · cases h; omega
        · cases h
      · split at h
        · split at h
          · cases h; omega
          · cases h
        · split at h
          · split at h
            · cases h; omega
            · cases h
          · split at h
            · split at h
              · have := goPs_len ps _ _ _ h; omega
              · cases h
            · split at h
              · have := goPs_len ps _ _ _ h; omega
              · cases h
theorem goPs_len : ∀ (ps ts : List Tm) (l l' : List Bd), goPs ps ts l = some l' → l'.length ≤ l.length + (Tm.pres ps).length
  | [], ts, l, l', h => by
    rw [goPs] at h
    · cases h; omega
    · intro a b c d e; cases e
  | p :: ps, [], l, l', h => by
    rw [goPs] at h
    · cases h; omega
    · intro a b c d e f; cases f
  | p :: ps, t :: ts, l, l', h => by
    rw [goPs] at h
    cases hp : goP p t l with
    | none => rw [hp] at h; cases h
    | some l1 =>
      rw [hp] at h
      have h1 := goP_len p t l l1 hp
      have h2 := goPs_len ps ts l1 l' h
      rw [Tm.pres, List.length_append]
      unfold Tm.nodes at h1
      omega
end
set_option maxHeartbeats 16000000 in
set_option maxRecDepth 100000 in
theorem mrow_any (base : Nat) (W0 : World) (X M mb : Nat) (ps ts : List Tm) (hel : ∀ y ∈ ps, ElC base W0 X M mb y) (hpat : ∀ y ∈ ps, patB y = true) (hts : ∀ y ∈ ts, checkN y = 0) (PA : Option Addr) (pn pc : Nat) (TA : Option Addr) (tn tc : Nat) (l : List Bd) (W : World)
    (hM : MAt base W0 X M mb l W) (hRP : TRow (· < base) W0 PA pn pc ps) (hRT : TRow (· < base) W0 TA tn tc ts) (hmany : l.length + (Tm.pres ps).length ≤ 500000) :
    Calls Tryz.prog 82 #[.pointer (some ⟨X, 0, none⟩), .slice PA pn pc, .slice TA tn tc] W (PostM base W0 X M mb W (if ps.length = ts.length then goPs ps ts l else none)) := by
  obtain rfl := hRP.len
  obtain rfl := hRT.len
  have hl1 := hRP.max
  have hl2 := hRT.max
  unfold maxLen at hl1 hl2
  obtain ⟨R, hR⟩ : ∃ R, R = if ps.length = ts.length then goPs ps ts l else none := ⟨_, rfl⟩
  rw [← hR]
  have HM := Lib.hid hM
  have HRP := Lib.hid hRP
  have HRT := Lib.hid hRT
  have HEL := Lib.hid hel
  have HPAT := Lib.hid hpat
  have HTS := Lib.hid hts
  have HMANY : Hid (l.length + (Tm.pres ps).length ≤ 500000) := hmany
  clear hM hRP hRT hel hpat hts hmany
  by_cases hlen : ps.length = ts.length
  case neg =>
    rw [if_neg hlen] at hR
    have HRR := Lib.hid hR
    have hb : ((ps.length : Int) != (ts.length : Int)) = true := by simp; omega
    clear hR hlen
    go_enter Tryz.func82, Tryz.ntmps82
    go_wp2_with fail
    go_ret
    exact .of (b := false) rfl HM.out HRR.out (KeptM.of_below (Below.refl _ _))
  rw [if_pos hlen] at hR
  have HRR := Lib.hid hR
  have hb : ((ps.length : Int) != (ts.length : Int)) = false := by rw [hlen]; simp
  have HLEN := Lib.hid hlen
  clear hR hlen
  go_enter Tryz.func82, Tryz.ntmps82
  go_wp2_with fail
  go_loopw [16] (fun i wr => ∃ (j : Nat) (lj : List Bd), j ≤ ps.length ∧ i = .int .i64 j ∧ Hid (MAt base W0 X M mb lj wr) ∧ Hid (R = goPs (ps.drop j) (ts.drop j) lj) ∧ Hid (lj.length + (Tm.pres (ps.drop j)).length ≤ 500000) ∧ Hid (KeptM W wr)) (fun i _ => ps.length - (intOf i).toNat)
  case atStart => exact ⟨0, l, Nat.zero_le _, rfl, HM, HRR, HMANY, Lib.hid (KeptM.of_below (Below.refl _ _))⟩
  case round =>
    obtain ⟨j, lj, hj, rfl, HMJ, HRJ, HMJ2, HKJ⟩ := hrel
    by_cases hlt : j < ps.length
    case neg =>
      obtain rfl : j = ps.length := by omega
      have HRE : Hid (R = some lj) := by
        show _ = _
        rw [HRJ.out, List.drop_length, List.drop_of_length_le (by rw [HLEN.out]; omega)]
        rw [goPs]
        intro a b c d e; cases e
      go_wp2_with fail
      go_ret
      exact .of (b := true) rfl HMJ.out HRE.out HKJ.out
    have hlt2 : j < ts.length := by rw [← HLEN.out]; exact hlt
    obtain ⟨x, hx⟩ : ∃ x, ps[j]? = some x := ⟨ps[j], List.getElem?_eq_getElem hlt⟩
    obtain ⟨y, hy⟩ : ∃ y, ts[j]? = some y := ⟨ts[j], List.getElem?_eq_getElem hlt2⟩
    have hstep := goPs_cons hx hy lj
    have hpre : (Tm.pres (ps.drop j)).length = x.nodes + (Tm.pres (ps.drop (j + 1))).length := by
      obtain ⟨h1, h2⟩ := List.getElem?_eq_some_iff.1 hx
      rw [List.drop_eq_getElem_cons h1, h2, Tm.pres, List.length_append]
      rfl
    obtain ⟨ad, u, rfl, had, hE, hTx⟩ := HRP.out.at_ j x hx
    obtain ⟨bd, u', rfl, hbd, hE', hTy⟩ := HRT.out.at_ j y hy
    have hmx := List.mem_of_getElem? hx
    have hmy := List.mem_of_getElem? hy
    have HEX := Lib.hid (HEL.out x hmx)
    have hpx := HPAT.out x hmx
    have HCY := Lib.hid (HTS.out y hmy)
    have HTX := Lib.hid hTx
    have HTY := Lib.hid hTy
    obtain ⟨xk, xn, xs, xu, xL, xA, xc, hxe, rfl⟩ : ∃ k' n' s' t' L' A' cap', x = Tm.mk k' n' s' t' L' ∧ u = .agg #[.int .i8 k', .int .i64 n', .string s', .string t', .slice A' L'.length cap'] := by
      cases hTx; exact ⟨_, _, _, _, _, _, _, rfl, rfl⟩
    obtain ⟨yk, yn, ys, yu, yL, yA, yc, hye, rfl⟩ : ∃ k' n' s' t' L' A' cap', y = Tm.mk k' n' s' t' L' ∧ u' = .agg #[.int .i8 k', .int .i64 n', .string s', .string t', .slice A' L'.length cap'] := by
      cases hTy; exact ⟨_, _, _, _, _, _, _, rfl, rfl⟩
    have HBJ := Lib.hid HMJ.out.below
    obtain ⟨c0, c1, c2, c3, c4, hcc, e0, e1, e2, e3, e4⟩ := hE.keep (HBJ.out.block ad.block had)
    simp only [Value.agg.injEq, Array.mk.injEq, List.cons.injEq, and_true] at hcc
    obtain ⟨rfl, rfl, rfl, rfl, rfl⟩ := hcc
    have HEY : Hid (∀ V, Below base W0 V → ElemAt V bd j (.agg #[.int .i8 yk, .int .i64 yn, .string ys, .string yu, .slice yA yL.length yc])) := fun V hV => hE'.keep (hV.block bd.block hbd)
    obtain ⟨V2, hV2⟩ : ∃ V2, V2 = wr.alloc (.cells #[.int .i8 xk, .int .i64 xn, .string xs, .string xu, .slice xA xL.length xc] 25) := ⟨_, rfl⟩
    obtain ⟨g8, hg8⟩ : ∃ g8, g8 = wr.heap.size := ⟨_, rfl⟩
    have b2 : Below wr.heap.size wr V2 := by rw [hV2]; exact (Below.refl _ _).alloc (Nat.le_refl _) _
    have HG8 : Hid (V2.heap[g8]? = some (.cells #[.int .i8 xk, .int .i64 xn, .string xs, .string xu, .slice xA xL.length xc] 25 (0, 0))) := Lib.hid (by rw [hV2, hg8]; exact block_alloc _ _)
    have HM2 := Lib.hid (HMJ.out.under b2)
    have HK2 : Hid (KeptM W V2) := HKJ.out.trans (KeptM.of_below b2)
    have HSTEP := Lib.hid hstep
    have HPRE := Lib.hid hpre
    have hkx : xk = 5 ∨ xk = 6 ∨ xk = 7 ∨ xk = 8 ∨ xk = 9 ∨ xk = 10 := by
      rw [hxe] at hpx
      unfold patB leafB at hpx
      simp only [Bool.or_eq_true, Bool.and_eq_true, beq_iff_eq] at hpx
      omega
    clear hx hy hE hE' hTx hTy hmx hmy had hbd hpx hstep hpre b2
    have i0 : (0 : Int) ≤ (j : Int) := by omega
    have i1 : (j : Int) < (ps.length : Int) := by omega
    have i2 : (j : Int) < (ts.length : Int) := by omega
    go_upto_region 6 with fail
    rw [← hV2, ← hg8]
    clear hV2 hg8 e0 e1 e2 e3 e4
    obtain ⟨xv, hxv, -⟩ := HM2.out.box
    have HXV := Lib.hid hxv
    clear hxv
    have hkn : xk = x.k := by rw [hxe]; rfl
    rcases hkx with rfl | rfl | rfl | rfl | rfl | rfl
    · have HCALL := Lib.hid (HEX.out.k5 hkn.symm)
      clear hkn hxe hye
      refine wp_region_held (S := fun V => Below base W0 V ∧ V.heap[g8]? = some (.cells #[.int .i8 5, .int .i64 xn, .string xs, .string xu, .slice xA xL.length xc] 25 (0, 0)) ∧ ∃ xv, V.heap[X]? = some (.cells (mRow xv mb X M) 118 (0, 0))) (by kernel_rfl) ?_
      show wpAnyH _ _ _ _ _ _ _ _ V2.drew
      have hS : Below base W0 V2.drew ∧ V2.drew.heap[g8]? = some (.cells #[.int .i8 5, .int .i64 xn, .string xs, .string xu, .slice xA xL.length xc] 25 (0, 0)) ∧ ∃ xv, V2.drew.heap[X]? = some (.cells (mRow xv mb X M) 118 (0, 0)) := ⟨HM2.out.below.trans ⟨rfl, rfl, rfl, Nat.le_refl _, fun _ _ => rfl⟩, HG8.out, xv, HXV.out⟩
      have hMD : MAt base W0 X M mb lj V2.drew := HM2.out.under ⟨rfl, rfl, rfl, Nat.le_refl _, fun _ _ => rfl⟩
      have hKD : KeptM W V2.drew := HK2.out
      generalize V2.drew = D at hS hMD hKD ⊢
      refine wpAnyH_take (i := 0) (oi := ⟨some 21, _, _, _, _, _⟩) (v := ?_) rfl (by kernel_rfl) (by kernel_rfl) (by kernel_rfl) (fun _ _ _ h => h) (Or.inl ⟨by kernel_rfl, ?_⟩) (by assumption) ?_; rotate_left; (intro VV hSw; (try dsimp only at hSw); go_simp; first | done | with_reducible rfl); (try simp only [Act.put, sI, sZ, sS])
      refine wpAnyH_take (i := 1) (oi := ⟨some 22, _, _, _, _, _⟩) (v := ?_) rfl (by kernel_rfl) (by kernel_rfl) (by kernel_rfl) (fun _ _ _ h => h) (Or.inl ⟨by kernel_rfl, ?_⟩) (by assumption) ?_; rotate_left; (intro VV hSw; (try dsimp only at hSw); go_simp; first | done | with_reducible rfl); (try simp only [Act.put, sI, sZ, sS])
      refine wpAnyH_take (i := 2) (oi := ⟨some 23, _, _, _, _, _⟩) (v := ?_) rfl (by kernel_rfl) (by kernel_rfl) (by kernel_rfl) (fun _ _ _ h => h) (Or.inl ⟨by kernel_rfl, ?_⟩) (by assumption) ?_; rotate_left; (intro VV hSw; (try dsimp only at hSw); have q0 : VV.cell? ⟨g8, 0, none⟩ = some (.int .i8 5) := cell_of_row (i := 0) hSw.2.1 rfl; go_simp; first | done | with_reducible rfl); (try simp only [Act.put, sI, sZ, sS])
      refine wpAnyH_take (i := 3) (oi := ⟨some 24, _, _, _, _, _⟩) (v := ?_) rfl (by kernel_rfl) (by kernel_rfl) (by kernel_rfl) (fun _ _ _ h => h) (Or.inl ⟨by kernel_rfl, ?_⟩) (by assumption) ?_; rotate_left; (intro VV hSw; (try dsimp only at hSw); go_simp; first | done | with_reducible rfl); (try simp only [Act.put, sI, sZ, sS])
      refine wpAnyH_take (i := 4) (oi := ⟨some 25, _, _, _, _, _⟩) (v := ?_) rfl (by kernel_rfl) (by kernel_rfl) (by kernel_rfl) (fun _ _ _ h => h) (Or.inl ⟨by kernel_rfl, ?_⟩) (by assumption) ?_; rotate_left; (intro VV hSw; (try dsimp only at hSw); go_simp; first | done | with_reducible rfl); (try simp only [Act.put, sI, sZ, sS])
      refine wpAnyH_take (i := 5) (oi := ⟨some 26, _, _, _, _, _⟩) (v := ?_) rfl (by kernel_rfl) (by kernel_rfl) (by kernel_rfl) (fun _ _ _ h => h) (Or.inl ⟨by kernel_rfl, ?_⟩) (by assumption) ?_; rotate_left; (intro VV hSw; (try dsimp only at hSw); go_simp; first | done | with_reducible rfl); (try simp only [Act.put, sI, sZ, sS])
      refine wpAnyH_take (i := 6) (oi := ⟨some 27, _, _, _, _, _⟩) (v := ?_) rfl (by kernel_rfl) (by kernel_rfl) (by kernel_rfl) (fun _ _ _ h => h) (Or.inl ⟨by kernel_rfl, ?_⟩) (by assumption) ?_; rotate_left; (intro VV hSw; (try dsimp only at hSw); obtain ⟨xw, hxw⟩ := hSw.2.2; have qf : VV.cell? ⟨X, 7, none⟩ = some (.func (.func 135) #[.pointer (some ⟨X, 0, none⟩)] #[]) := cell_of_row (i := 7) hxw rfl; go_simp; first | done | with_reducible rfl); (try simp only [Act.put, sI, sZ, sS])
      refine wpAnyH_take (i := 7) (oi := ⟨some 28, _, _, _, _, _⟩) (v := ?_) rfl (by kernel_rfl) (by kernel_rfl) (by kernel_rfl) (fun _ _ _ h => h) (Or.inl ⟨by kernel_rfl, ?_⟩) (by assumption) ?_; rotate_left; (intro VV hSw; (try dsimp only at hSw); have q0 : VV.cell? ⟨g8, 0, none⟩ = some (.int .i8 5) := cell_of_row (i := 0) hSw.2.1 rfl; have q1 : VV.cell? ⟨g8, 1, none⟩ = some (.int .i64 xn) := cell_of_row (i := 1) hSw.2.1 rfl; have q2 : VV.cell? ⟨g8, 2, none⟩ = some (.string xs) := cell_of_row (i := 2) hSw.2.1 rfl; have q3 : VV.cell? ⟨g8, 3, none⟩ = some (.string xu) := cell_of_row (i := 3) hSw.2.1 rfl; have q4 : VV.cell? ⟨g8, 4, none⟩ = some (.slice xA xL.length xc) := cell_of_row (i := 4) hSw.2.1 rfl; go_simp; first | done | with_reducible rfl); (try simp only [Act.put, sI, sZ, sS])
      refine wpAnyH_take (i := 8) (oi := ⟨some 29, _, _, _, _, _⟩) (v := ?_) rfl (by kernel_rfl) (by kernel_rfl) (by kernel_rfl) (fun _ _ _ h => h) (Or.inl ⟨by kernel_rfl, ?_⟩) (by assumption) ?_; rotate_left; (intro VV hSw; (try dsimp only at hSw); go_simp; first | done | with_reducible rfl); (try simp only [Act.put, sI, sZ, sS])
      refine wpAnyH_take (i := 9) (oi := ⟨some 30, _, _, _, _, _⟩) (v := ?_) rfl (by kernel_rfl) (by kernel_rfl) (by kernel_rfl) (fun _ _ _ h => h) (Or.inl ⟨by kernel_rfl, ?_⟩) (by assumption) ?_; rotate_left; (intro VV hSw; (try dsimp only at hSw); go_simp; first | done | with_reducible rfl); (try simp only [Act.put, sI, sZ, sS])
      refine wpAnyH_take (i := 10) (oi := ⟨some 31, _, _, _, _, _⟩) (v := ?_) rfl (by kernel_rfl) (by kernel_rfl) (by kernel_rfl) (fun _ _ _ h => h) (Or.inl ⟨by kernel_rfl, ?_⟩) (by assumption) ?_; rotate_left; (intro VV hSw; (try dsimp only at hSw); go_simp; first | done | with_reducible rfl); (try simp only [Act.put, sI, sZ, sS])
      refine wpAnyH_take (i := 11) (oi := ⟨some 32, _, _, _, _, _⟩) (v := ?_) rfl (by kernel_rfl) (by kernel_rfl) (by kernel_rfl) (fun _ _ _ h => h) (Or.inl ⟨by kernel_rfl, ?_⟩) (by assumption) ?_; rotate_left; (intro VV hSw; (try dsimp only at hSw); obtain ⟨d0, d1, d2, d3, d4, he, y0, y1, y2, y3, y4⟩ := HEY.out VV hSw.1; simp only [Value.agg.injEq, Array.mk.injEq, List.cons.injEq, and_true] at he; obtain ⟨rfl, rfl, rfl, rfl, rfl⟩ := he; go_simp; first | done | with_reducible rfl); (try simp only [Act.put, sI, sZ, sS])
      refine wpAnyH_ready (rs := [12]) (by kernel_rfl) (by simp) ?_
      refine AllReadyH.cons (o := ⟨some 33, _, _, _, _, _⟩) rfl (fun K hK => ?_) AllReadyH.nil
      · rw [if_pos (by rfl)]
        go_simp
        refine (HCALL.out y lj D _ _ hMD HTX.out HTY.out HCY.out (by have h1 := HMJ2.out; have h2 := HPRE.out; omega)).mono ?_
        rintro e V3 ⟨bb, l3, rfl, hM3, hr3, hk3⟩
        obtain ⟨xw, hxw, -⟩ := hM3.box
        have hS1 : Below base W0 V3 ∧ V3.heap[g8]? = some (.cells #[.int .i8 5, .int .i64 xn, .string xs, .string xu, .slice xA xL.length xc] 25 (0, 0)) ∧ ∃ xv, V3.heap[X]? = some (.cells (mRow xv mb X M) 118 (0, 0)) := ⟨hM3.below, hk3 _ _ _ _ hS.2.1 (by decide) (by decide), xw, hxw⟩
        have hKE : KeptM W V3 := hKD.trans hk3
        refine hK.out _ _ hS1 (fun hSn => ?_)
        clear hK K hSn; (try simp only [Act.put, sI, sZ, sS])
        refine wpAnyH_take (i := 13) (oi := ⟨some 34, _, _, _, _, _⟩) (v := ?_) rfl (by kernel_rfl) (by kernel_rfl) (by kernel_rfl) (fun _ _ _ h => h) (Or.inl ⟨by kernel_rfl, ?_⟩) (by assumption) ?_; rotate_left; (intro VV hSw; (try dsimp only at hSw); go_simp; first | done | with_reducible rfl); (try simp only [Act.put, sI, sZ, sS])
        refine wpAnyH_done (by kernel_rfl) ?_ _
        have HM3 := Lib.hid hM3
        have HK3 := Lib.hid hKE
        have HS3 := Lib.hid HSTEP.out
        clear hS1 hS hMD hKD hM3 hKE hk3 hxw
        cases bb with
        | false =>
          have HRE : Hid (R = none) := by
            show _ = _
            rw [HRJ.out, HS3.out, hr3]
            rfl
          clear hr3
          go_wp2_with fail
          go_ret
          exact .of (b := false) rfl HM3.out HRE.out HK3.out
        | true =>
          have hgp : goP x y lj = some l3 := hr3
          have HRE : Hid (R = goPs (ps.drop (j + 1)) (ts.drop (j + 1)) l3) := by
            show _ = _
            rw [HRJ.out, HS3.out, hgp]
          have HME : Hid (l3.length + (Tm.pres (ps.drop (j + 1))).length ≤ 500000) := by
            have h1 := goP_len x y lj l3 hgp
            have h2 := HMJ2.out
            have h3 := HPRE.out
            show _ ≤ _
            omega
          clear hr3 hgp
          go_wp2_with fail
          go_roundw
          case rel => exact ⟨j + 1, l3, by omega, by go_num, HM3, HRE, HME, HK3⟩
          case measure => simp [intOf]; omega
    · have HCALL := Lib.hid (HEX.out.k6 hkn.symm)
      clear hkn hxe hye
      refine wp_region_held (S := fun V => Below base W0 V ∧ V.heap[g8]? = some (.cells #[.int .i8 6, .int .i64 xn, .string xs, .string xu, .slice xA xL.length xc] 25 (0, 0)) ∧ ∃ xv, V.heap[X]? = some (.cells (mRow xv mb X M) 118 (0, 0))) (by kernel_rfl) ?_
      show wpAnyH _ _ _ _ _ _ _ _ V2.drew
      have hS : Below base W0 V2.drew ∧ V2.drew.heap[g8]? = some (.cells #[.int .i8 6, .int .i64 xn, .string xs, .string xu, .slice xA xL.length xc] 25 (0, 0)) ∧ ∃ xv, V2.drew.heap[X]? = some (.cells (mRow xv mb X M) 118 (0, 0)) := ⟨HM2.out.below.trans ⟨rfl, rfl, rfl, Nat.le_refl _, fun _ _ => rfl⟩, HG8.out, xv, HXV.out⟩
      have hMD : MAt base W0 X M mb lj V2.drew := HM2.out.under ⟨rfl, rfl, rfl, Nat.le_refl _, fun _ _ => rfl⟩
      have hKD : KeptM W V2.drew := HK2.out
      generalize V2.drew = D at hS hMD hKD ⊢
      refine wpAnyH_take (i := 0) (oi := ⟨some 21, _, _, _, _, _⟩) (v := ?_) rfl (by kernel_rfl) (by kernel_rfl) (by kernel_rfl) (fun _ _ _ h => h) (Or.inl ⟨by kernel_rfl, ?_⟩) (by assumption) ?_; rotate_left; (intro VV hSw; (try dsimp only at hSw); go_simp; first | done | with_reducible rfl); (try simp only [Act.put, sI, sZ, sS])
      refine wpAnyH_take (i := 1) (oi := ⟨some 22, _, _, _, _, _⟩) (v := ?_) rfl (by kernel_rfl) (by kernel_rfl) (by kernel_rfl) (fun _ _ _ h => h) (Or.inl ⟨by kernel_rfl, ?_⟩) (by assumption) ?_; rotate_left; (intro VV hSw; (try dsimp only at hSw); go_simp; first | done | with_reducible rfl); (try simp only [Act.put, sI, sZ, sS])
      refine wpAnyH_take (i := 2) (oi := ⟨some 23, _, _, _, _, _⟩) (v := ?_) rfl (by kernel_rfl) (by kernel_rfl) (by kernel_rfl) (fun _ _ _ h => h) (Or.inl ⟨by kernel_rfl, ?_⟩) (by assumption) ?_; rotate_left; (intro VV hSw; (try dsimp only at hSw); have q0 : VV.cell? ⟨g8, 0, none⟩ = some (.int .i8 6) := cell_of_row (i := 0) hSw.2.1 rfl; go_simp; first | done | with_reducible rfl); (try simp only [Act.put, sI, sZ, sS])
      refine wpAnyH_take (i := 3) (oi := ⟨some 24, _, _, _, _, _⟩) (v := ?_) rfl (by kernel_rfl) (by kernel_rfl) (by kernel_rfl) (fun _ _ _ h => h) (Or.inl ⟨by kernel_rfl, ?_⟩) (by assumption) ?_; rotate_left; (intro VV hSw; (try dsimp only at hSw); go_simp; first | done | with_reducible rfl); (try simp only [Act.put, sI, sZ, sS])
      refine wpAnyH_take (i := 4) (oi := ⟨some 25, _, _, _, _, _⟩) (v := ?_) rfl (by kernel_rfl) (by kernel_rfl) (by kernel_rfl) (fun _ _ _ h => h) (Or.inl ⟨by kernel_rfl, ?_⟩) (by assumption) ?_; rotate_left; (intro VV hSw; (try dsimp only at hSw); go_simp; first | done | with_reducible rfl); (try simp only [Act.put, sI, sZ, sS])
      refine wpAnyH_take (i := 5) (oi := ⟨some 26, _, _, _, _, _⟩) (v := ?_) rfl (by kernel_rfl) (by kernel_rfl) (by kernel_rfl) (fun _ _ _ h => h) (Or.inl ⟨by kernel_rfl, ?_⟩) (by assumption) ?_; rotate_left; (intro VV hSw; (try dsimp only at hSw); go_simp; first | done | with_reducible rfl); (try simp only [Act.put, sI, sZ, sS])
      refine wpAnyH_take (i := 6) (oi := ⟨some 27, _, _, _, _, _⟩) (v := ?_) rfl (by kernel_rfl) (by kernel_rfl) (by kernel_rfl) (fun _ _ _ h => h) (Or.inl ⟨by kernel_rfl, ?_⟩) (by assumption) ?_; rotate_left; (intro VV hSw; (try dsimp only at hSw); obtain ⟨xw, hxw⟩ := hSw.2.2; have qf : VV.cell? ⟨X, 8, none⟩ = some (.func (.func 136) #[] #[]) := cell_of_row (i := 8) hxw rfl; go_simp; first | done | with_reducible rfl); (try simp only [Act.put, sI, sZ, sS])
      refine wpAnyH_take (i := 7) (oi := ⟨some 28, _, _, _, _, _⟩) (v := ?_) rfl (by kernel_rfl) (by kernel_rfl) (by kernel_rfl) (fun _ _ _ h => h) (Or.inl ⟨by kernel_rfl, ?_⟩) (by assumption) ?_; rotate_left; (intro VV hSw; (try dsimp only at hSw); have q0 : VV.cell? ⟨g8, 0, none⟩ = some (.int .i8 6) := cell_of_row (i := 0) hSw.2.1 rfl; have q1 : VV.cell? ⟨g8, 1, none⟩ = some (.int .i64 xn) := cell_of_row (i := 1) hSw.2.1 rfl; have q2 : VV.cell? ⟨g8, 2, none⟩ = some (.string xs) := cell_of_row (i := 2) hSw.2.1 rfl; have q3 : VV.cell? ⟨g8, 3, none⟩ = some (.string xu) := cell_of_row (i := 3) hSw.2.1 rfl; have q4 : VV.cell? ⟨g8, 4, none⟩ = some (.slice xA xL.length xc) := cell_of_row (i := 4) hSw.2.1 rfl; go_simp; first | done | with_reducible rfl); (try simp only [Act.put, sI, sZ, sS])
      refine wpAnyH_take (i := 8) (oi := ⟨some 29, _, _, _, _, _⟩) (v := ?_) rfl (by kernel_rfl) (by kernel_rfl) (by kernel_rfl) (fun _ _ _ h => h) (Or.inl ⟨by kernel_rfl, ?_⟩) (by assumption) ?_; rotate_left; (intro VV hSw; (try dsimp only at hSw); go_simp; first | done | with_reducible rfl); (try simp only [Act.put, sI, sZ, sS])
      refine wpAnyH_take (i := 9) (oi := ⟨some 30, _, _, _, _, _⟩) (v := ?_) rfl (by kernel_rfl) (by kernel_rfl) (by kernel_rfl) (fun _ _ _ h => h) (Or.inl ⟨by kernel_rfl, ?_⟩) (by assumption) ?_; rotate_left; (intro VV hSw; (try dsimp only at hSw); go_simp; first | done | with_reducible rfl); (try simp only [Act.put, sI, sZ, sS])
      refine wpAnyH_take (i := 10) (oi := ⟨some 31, _, _, _, _, _⟩) (v := ?_) rfl (by kernel_rfl) (by kernel_rfl) (by kernel_rfl) (fun _ _ _ h => h) (Or.inl ⟨by kernel_rfl, ?_⟩) (by assumption) ?_; rotate_left; (intro VV hSw; (try dsimp only at hSw); go_simp; first | done | with_reducible rfl); (try simp only [Act.put, sI, sZ, sS])
      refine wpAnyH_take (i := 11) (oi := ⟨some 32, _, _, _, _, _⟩) (v := ?_) rfl (by kernel_rfl) (by kernel_rfl) (by kernel_rfl) (fun _ _ _ h => h) (Or.inl ⟨by kernel_rfl, ?_⟩) (by assumption) ?_; rotate_left; (intro VV hSw; (try dsimp only at hSw); obtain ⟨d0, d1, d2, d3, d4, he, y0, y1, y2, y3, y4⟩ := HEY.out VV hSw.1; simp only [Value.agg.injEq, Array.mk.injEq, List.cons.injEq, and_true] at he; obtain ⟨rfl, rfl, rfl, rfl, rfl⟩ := he; go_simp; first | done | with_reducible rfl); (try simp only [Act.put, sI, sZ, sS])
      refine wpAnyH_ready (rs := [12]) (by kernel_rfl) (by simp) ?_
      refine AllReadyH.cons (o := ⟨some 33, _, _, _, _, _⟩) rfl (fun K hK => ?_) AllReadyH.nil
      · rw [if_pos (by rfl)]
        go_simp
        refine (HCALL.out y lj D _ _ hMD HTX.out HTY.out HCY.out (by have h1 := HMJ2.out; have h2 := HPRE.out; omega)).mono ?_
        rintro e V3 ⟨bb, l3, rfl, hM3, hr3, hk3⟩
        obtain ⟨xw, hxw, -⟩ := hM3.box
        have hS1 : Below base W0 V3 ∧ V3.heap[g8]? = some (.cells #[.int .i8 6, .int .i64 xn, .string xs, .string xu, .slice xA xL.length xc] 25 (0, 0)) ∧ ∃ xv, V3.heap[X]? = some (.cells (mRow xv mb X M) 118 (0, 0)) := ⟨hM3.below, hk3 _ _ _ _ hS.2.1 (by decide) (by decide), xw, hxw⟩
        have hKE : KeptM W V3 := hKD.trans hk3
        refine hK.out _ _ hS1 (fun hSn => ?_)
        clear hK K hSn; (try simp only [Act.put, sI, sZ, sS])
        refine wpAnyH_take (i := 13) (oi := ⟨some 34, _, _, _, _, _⟩) (v := ?_) rfl (by kernel_rfl) (by kernel_rfl) (by kernel_rfl) (fun _ _ _ h => h) (Or.inl ⟨by kernel_rfl, ?_⟩) (by assumption) ?_; rotate_left; (intro VV hSw; (try dsimp only at hSw); go_simp; first | done | with_reducible rfl); (try simp only [Act.put, sI, sZ, sS])
        refine wpAnyH_done (by kernel_rfl) ?_ _
        have HM3 := Lib.hid hM3
        have HK3 := Lib.hid hKE
        have HS3 := Lib.hid HSTEP.out
        clear hS1 hS hMD hKD hM3 hKE hk3 hxw
        cases bb with
        | false =>
          have HRE : Hid (R = none) := by
            show _ = _
            rw [HRJ.out, HS3.out, hr3]
            rfl
          clear hr3
          go_wp2_with fail
          go_ret
          exact .of (b := false) rfl HM3.out HRE.out HK3.out
        | true =>
          have hgp : goP x y lj = some l3 := hr3
          have HRE : Hid (R = goPs (ps.drop (j + 1)) (ts.drop (j + 1)) l3) := by
            show _ = _
            rw [HRJ.out, HS3.out, hgp]
          have HME : Hid (l3.length + (Tm.pres (ps.drop (j + 1))).length ≤ 500000) := by
            have h1 := goP_len x y lj l3 hgp
            have h2 := HMJ2.out
            have h3 := HPRE.out
            show _ ≤ _
            omega
          clear hr3 hgp
          go_wp2_with fail
          go_roundw
          case rel => exact ⟨j + 1, l3, by omega, by go_num, HM3, HRE, HME, HK3⟩
          case measure => simp [intOf]; omega
    · have HCALL := Lib.hid (HEX.out.k7 hkn.symm)
      clear hkn hxe hye
      refine wp_region_held (S := fun V => Below base W0 V ∧ V.heap[g8]? = some (.cells #[.int .i8 7, .int .i64 xn, .string xs, .string xu, .slice xA xL.length xc] 25 (0, 0)) ∧ ∃ xv, V.heap[X]? = some (.cells (mRow xv mb X M) 118 (0, 0))) (by kernel_rfl) ?_
      show wpAnyH _ _ _ _ _ _ _ _ V2.drew
      have hS : Below base W0 V2.drew ∧ V2.drew.heap[g8]? = some (.cells #[.int .i8 7, .int .i64 xn, .string xs, .string xu, .slice xA xL.length xc] 25 (0, 0)) ∧ ∃ xv, V2.drew.heap[X]? = some (.cells (mRow xv mb X M) 118 (0, 0)) := ⟨HM2.out.below.trans ⟨rfl, rfl, rfl, Nat.le_refl _, fun _ _ => rfl⟩, HG8.out, xv, HXV.out⟩
      have hMD : MAt base W0 X M mb lj V2.drew := HM2.out.under ⟨rfl, rfl, rfl, Nat.le_refl _, fun _ _ => rfl⟩
      have hKD : KeptM W V2.drew := HK2.out
      generalize V2.drew = D at hS hMD hKD ⊢
      refine wpAnyH_take (i := 0) (oi := ⟨some 21, _, _, _, _, _⟩) (v := ?_) rfl (by kernel_rfl) (by kernel_rfl) (by kernel_rfl) (fun _ _ _ h => h) (Or.inl ⟨by kernel_rfl, ?_⟩) (by assumption) ?_; rotate_left; (intro VV hSw; (try dsimp only at hSw); go_simp; first | done | with_reducible rfl); (try simp only [Act.put, sI, sZ, sS])
      refine wpAnyH_take (i := 1) (oi := ⟨some 22, _, _, _, _, _⟩) (v := ?_) rfl (by kernel_rfl) (by kernel_rfl) (by kernel_rfl) (fun _ _ _ h => h) (Or.inl ⟨by kernel_rfl, ?_⟩) (by assumption) ?_; rotate_left; (intro VV hSw; (try dsimp only at hSw); go_simp; first | done | with_reducible rfl); (try simp only [Act.put, sI, sZ, sS])
      refine wpAnyH_take (i := 2) (oi := ⟨some 23, _, _, _, _, _⟩) (v := ?_) rfl (by kernel_rfl) (by kernel_rfl) (by kernel_rfl) (fun _ _ _ h => h) (Or.inl ⟨by kernel_rfl, ?_⟩) (by assumption) ?_; rotate_left; (intro VV hSw; (try dsimp only at hSw); have q0 : VV.cell? ⟨g8, 0, none⟩ = some (.int .i8 7) := cell_of_row (i := 0) hSw.2.1 rfl; go_simp; first | done | with_reducible rfl); (try simp only [Act.put, sI, sZ, sS])
      refine wpAnyH_take (i := 3) (oi := ⟨some 24, _, _, _, _, _⟩) (v := ?_) rfl (by kernel_rfl) (by kernel_rfl) (by kernel_rfl) (fun _ _ _ h => h) (Or.inl ⟨by kernel_rfl, ?_⟩) (by assumption) ?_; rotate_left; (intro VV hSw; (try dsimp only at hSw); go_simp; first | done | with_reducible rfl); (try simp only [Act.put, sI, sZ, sS])
      refine wpAnyH_take (i := 4) (oi := ⟨some 25, _, _, _, _, _⟩) (v := ?_) rfl (by kernel_rfl) (by kernel_rfl) (by kernel_rfl) (fun _ _ _ h => h) (Or.inl ⟨by kernel_rfl, ?_⟩) (by assumption) ?_; rotate_left; (intro VV hSw; (try dsimp only at hSw); go_simp; first | done | with_reducible rfl); (try simp only [Act.put, sI, sZ, sS])
      refine wpAnyH_take (i := 5) (oi := ⟨some 26, _, _, _, _, _⟩) (v := ?_) rfl (by kernel_rfl) (by kernel_rfl) (by kernel_rfl) (fun _ _ _ h => h) (Or.inl ⟨by kernel_rfl, ?_⟩) (by assumption) ?_; rotate_left; (intro VV hSw; (try dsimp only at hSw); go_simp; first | done | with_reducible rfl); (try simp only [Act.put, sI, sZ, sS])
      refine wpAnyH_take (i := 6) (oi := ⟨some 27, _, _, _, _, _⟩) (v := ?_) rfl (by kernel_rfl) (by kernel_rfl) (by kernel_rfl) (fun _ _ _ h => h) (Or.inl ⟨by kernel_rfl, ?_⟩) (by assumption) ?_; rotate_left; (intro VV hSw; (try dsimp only at hSw); obtain ⟨xw, hxw⟩ := hSw.2.2; have qf : VV.cell? ⟨X, 9, none⟩ = some (.func (.func 137) #[] #[]) := cell_of_row (i := 9) hxw rfl; go_simp; first | done | with_reducible rfl); (try simp only [Act.put, sI, sZ, sS])
      refine wpAnyH_take (i := 7) (oi := ⟨some 28, _, _, _, _, _⟩) (v := ?_) rfl (by kernel_rfl) (by kernel_rfl) (by kernel_rfl) (fun _ _ _ h => h) (Or.inl ⟨by kernel_rfl, ?_⟩) (by assumption) ?_; rotate_left; (intro VV hSw; (try dsimp only at hSw); have q0 : VV.cell? ⟨g8, 0, none⟩ = some (.int .i8 7) := cell_of_row (i := 0) hSw.2.1 rfl; have q1 : VV.cell? ⟨g8, 1, none⟩ = some (.int .i64 xn) := cell_of_row (i := 1) hSw.2.1 rfl; have q2 : VV.cell? ⟨g8, 2, none⟩ = some (.string xs) := cell_of_row (i := 2) hSw.2.1 rfl; have q3 : VV.cell? ⟨g8, 3, none⟩ = some (.string xu) := cell_of_row (i := 3) hSw.2.1 rfl; have q4 : VV.cell? ⟨g8, 4, none⟩ = some (.slice xA xL.length xc) := cell_of_row (i := 4) hSw.2.1 rfl; go_simp; first | done | with_reducible rfl); (try simp only [Act.put, sI, sZ, sS])
      refine wpAnyH_take (i := 8) (oi := ⟨some 29, _, _, _, _, _⟩) (v := ?_) rfl (by kernel_rfl) (by kernel_rfl) (by kernel_rfl) (fun _ _ _ h => h) (Or.inl ⟨by kernel_rfl, ?_⟩) (by assumption) ?_; rotate_left; (intro VV hSw; (try dsimp only at hSw); go_simp; first | done | with_reducible rfl); (try simp only [Act.put, sI, sZ, sS])
      refine wpAnyH_take (i := 9) (oi := ⟨some 30, _, _, _, _, _⟩) (v := ?_) rfl (by kernel_rfl) (by kernel_rfl) (by kernel_rfl) (fun _ _ _ h => h) (Or.inl ⟨by kernel_rfl, ?_⟩) (by assumption) ?_; rotate_left; (intro VV hSw; (try dsimp only at hSw); go_simp; first | done | with_reducible rfl); (try simp only [Act.put, sI, sZ, sS])
      refine wpAnyH_take (i := 10) (oi := ⟨some 31, _, _, _, _, _⟩) (v := ?_) rfl (by kernel_rfl) (by kernel_rfl) (by kernel_rfl) (fun _ _ _ h => h) (Or.inl ⟨by kernel_rfl, ?_⟩) (by assumption) ?_; rotate_left; (intro VV hSw; (try dsimp only at hSw); go_simp; first | done | with_reducible rfl); (try simp only [Act.put, sI, sZ, sS])
      refine wpAnyH_take (i := 11) (oi := ⟨some 32, _, _, _, _, _⟩) (v := ?_) rfl (by kernel_rfl) (by kernel_rfl) (by kernel_rfl) (fun _ _ _ h => h) (Or.inl ⟨by kernel_rfl, ?_⟩) (by assumption) ?_; rotate_left; (intro VV hSw; (try dsimp only at hSw); obtain ⟨d0, d1, d2, d3, d4, he, y0, y1, y2, y3, y4⟩ := HEY.out VV hSw.1; simp only [Value.agg.injEq, Array.mk.injEq, List.cons.injEq, and_true] at he; obtain ⟨rfl, rfl, rfl, rfl, rfl⟩ := he; go_simp; first | done | with_reducible rfl); (try simp only [Act.put, sI, sZ, sS])
      refine wpAnyH_ready (rs := [12]) (by kernel_rfl) (by simp) ?_
      refine AllReadyH.cons (o := ⟨some 33, _, _, _, _, _⟩) rfl (fun K hK => ?_) AllReadyH.nil
      · rw [if_pos (by rfl)]
        go_simp
        refine (HCALL.out y lj D _ _ hMD HTX.out HTY.out HCY.out (by have h1 := HMJ2.out; have h2 := HPRE.out; omega)).mono ?_
        rintro e V3 ⟨bb, l3, rfl, hM3, hr3, hk3⟩
        obtain ⟨xw, hxw, -⟩ := hM3.box
        have hS1 : Below base W0 V3 ∧ V3.heap[g8]? = some (.cells #[.int .i8 7, .int .i64 xn, .string xs, .string xu, .slice xA xL.length xc] 25 (0, 0)) ∧ ∃ xv, V3.heap[X]? = some (.cells (mRow xv mb X M) 118 (0, 0)) := ⟨hM3.below, hk3 _ _ _ _ hS.2.1 (by decide) (by decide), xw, hxw⟩
        have hKE : KeptM W V3 := hKD.trans hk3
        refine hK.out _ _ hS1 (fun hSn => ?_)
        clear hK K hSn; (try simp only [Act.put, sI, sZ, sS])
        refine wpAnyH_take (i := 13) (oi := ⟨some 34, _, _, _, _, _⟩) (v := ?_) rfl (by kernel_rfl) (by kernel_rfl) (by kernel_rfl) (fun _ _ _ h => h) (Or.inl ⟨by kernel_rfl, ?_⟩) (by assumption) ?_; rotate_left; (intro VV hSw; (try dsimp only at hSw); go_simp; first | done | with_reducible rfl); (try simp only [Act.put, sI, sZ, sS])
        refine wpAnyH_done (by kernel_rfl) ?_ _
        have HM3 := Lib.hid hM3
        have HK3 := Lib.hid hKE
        have HS3 := Lib.hid HSTEP.out
        clear hS1 hS hMD hKD hM3 hKE hk3 hxw
        cases bb with
        | false =>
          have HRE : Hid (R = none) := by
            show _ = _
            rw [HRJ.out, HS3.out, hr3]
            rfl
          clear hr3
          go_wp2_with fail
          go_ret
          exact .of (b := false) rfl HM3.out HRE.out HK3.out
        | true =>
          have hgp : goP x y lj = some l3 := hr3
          have HRE : Hid (R = goPs (ps.drop (j + 1)) (ts.drop (j + 1)) l3) := by
            show _ = _
            rw [HRJ.out, HS3.out, hgp]
          have HME : Hid (l3.length + (Tm.pres (ps.drop (j + 1))).length ≤ 500000) := by
            have h1 := goP_len x y lj l3 hgp
            have h2 := HMJ2.out
            have h3 := HPRE.out
            show _ ≤ _
            omega
          clear hr3 hgp
          go_wp2_with fail
          go_roundw
          case rel => exact ⟨j + 1, l3, by omega, by go_num, HM3, HRE, HME, HK3⟩
          case measure => simp [intOf]; omega
    · have HCALL := Lib.hid (HEX.out.k8 hkn.symm)
      clear hkn hxe hye
      refine wp_region_held (S := fun V => Below base W0 V ∧ V.heap[g8]? = some (.cells #[.int .i8 8, .int .i64 xn, .string xs, .string xu, .slice xA xL.length xc] 25 (0, 0)) ∧ ∃ xv, V.heap[X]? = some (.cells (mRow xv mb X M) 118 (0, 0))) (by kernel_rfl) ?_
      show wpAnyH _ _ _ _ _ _ _ _ V2.drew
      have hS : Below base W0 V2.drew ∧ V2.drew.heap[g8]? = some (.cells #[.int .i8 8, .int .i64 xn, .string xs, .string xu, .slice xA xL.length xc] 25 (0, 0)) ∧ ∃ xv, V2.drew.heap[X]? = some (.cells (mRow xv mb X M) 118 (0, 0)) := ⟨HM2.out.below.trans ⟨rfl, rfl, rfl, Nat.le_refl _, fun _ _ => rfl⟩, HG8.out, xv, HXV.out⟩
      have hMD : MAt base W0 X M mb lj V2.drew := HM2.out.under ⟨rfl, rfl, rfl, Nat.le_refl _, fun _ _ => rfl⟩
      have hKD : KeptM W V2.drew := HK2.out
      generalize V2.drew = D at hS hMD hKD ⊢
      refine wpAnyH_take (i := 0) (oi := ⟨some 21, _, _, _, _, _⟩) (v := ?_) rfl (by kernel_rfl) (by kernel_rfl) (by kernel_rfl) (fun _ _ _ h => h) (Or.inl ⟨by kernel_rfl, ?_⟩) (by assumption) ?_; rotate_left; (intro VV hSw; (try dsimp only at hSw); go_simp; first | done | with_reducible rfl); (try simp only [Act.put, sI, sZ, sS])
      refine wpAnyH_take (i := 1) (oi := ⟨some 22, _, _, _, _, _⟩) (v := ?_) rfl (by kernel_rfl) (by kernel_rfl) (by kernel_rfl) (fun _ _ _ h => h) (Or.inl ⟨by kernel_rfl, ?_⟩) (by assumption) ?_; rotate_left; (intro VV hSw; (try dsimp only at hSw); go_simp; first | done | with_reducible rfl); (try simp only [Act.put, sI, sZ, sS])
      refine wpAnyH_take (i := 2) (oi := ⟨some 23, _, _, _, _, _⟩) (v := ?_) rfl (by kernel_rfl) (by kernel_rfl) (by kernel_rfl) (fun _ _ _ h => h) (Or.inl ⟨by kernel_rfl, ?_⟩) (by assumption) ?_; rotate_left; (intro VV hSw; (try dsimp only at hSw); have q0 : VV.cell? ⟨g8, 0, none⟩ = some (.int .i8 8) := cell_of_row (i := 0) hSw.2.1 rfl; go_simp; first | done | with_reducible rfl); (try simp only [Act.put, sI, sZ, sS])
      refine wpAnyH_take (i := 3) (oi := ⟨some 24, _, _, _, _, _⟩) (v := ?_) rfl (by kernel_rfl) (by kernel_rfl) (by kernel_rfl) (fun _ _ _ h => h) (Or.inl ⟨by kernel_rfl, ?_⟩) (by assumption) ?_; rotate_left; (intro VV hSw; (try dsimp only at hSw); go_simp; first | done | with_reducible rfl); (try simp only [Act.put, sI, sZ, sS])
      refine wpAnyH_take (i := 4) (oi := ⟨some 25, _, _, _, _, _⟩) (v := ?_) rfl (by kernel_rfl) (by kernel_rfl) (by kernel_rfl) (fun _ _ _ h => h) (Or.inl ⟨by kernel_rfl, ?_⟩) (by assumption) ?_; rotate_left; (intro VV hSw; (try dsimp only at hSw); go_simp; first | done | with_reducible rfl); (try simp only [Act.put, sI, sZ, sS])
      refine wpAnyH_take (i := 5) (oi := ⟨some 26, _, _, _, _, _⟩) (v := ?_) rfl (by kernel_rfl) (by kernel_rfl) (by kernel_rfl) (fun _ _ _ h => h) (Or.inl ⟨by kernel_rfl, ?_⟩) (by assumption) ?_; rotate_left; (intro VV hSw; (try dsimp only at hSw); go_simp; first | done | with_reducible rfl); (try simp only [Act.put, sI, sZ, sS])
      refine wpAnyH_take (i := 6) (oi := ⟨some 27, _, _, _, _, _⟩) (v := ?_) rfl (by kernel_rfl) (by kernel_rfl) (by kernel_rfl) (fun _ _ _ h => h) (Or.inl ⟨by kernel_rfl, ?_⟩) (by assumption) ?_; rotate_left; (intro VV hSw; (try dsimp only at hSw); obtain ⟨xw, hxw⟩ := hSw.2.2; have qf : VV.cell? ⟨X, 10, none⟩ = some (.func (.func 138) #[] #[]) := cell_of_row (i := 10) hxw rfl; go_simp; first | done | with_reducible rfl); (try simp only [Act.put, sI, sZ, sS])
      refine wpAnyH_take (i := 7) (oi := ⟨some 28, _, _, _, _, _⟩) (v := ?_) rfl (by kernel_rfl) (by kernel_rfl) (by kernel_rfl) (fun _ _ _ h => h) (Or.inl ⟨by kernel_rfl, ?_⟩) (by assumption) ?_; rotate_left; (intro VV hSw; (try dsimp only at hSw); have q0 : VV.cell? ⟨g8, 0, none⟩ = some (.int .i8 8) := cell_of_row (i := 0) hSw.2.1 rfl; have q1 : VV.cell? ⟨g8, 1, none⟩ = some (.int .i64 xn) := cell_of_row (i := 1) hSw.2.1 rfl; have q2 : VV.cell? ⟨g8, 2, none⟩ = some (.string xs) := cell_of_row (i := 2) hSw.2.1 rfl; have q3 : VV.cell? ⟨g8, 3, none⟩ = some (.string xu) := cell_of_row (i := 3) hSw.2.1 rfl; have q4 : VV.cell? ⟨g8, 4, none⟩ = some (.slice xA xL.length xc) := cell_of_row (i := 4) hSw.2.1 rfl; go_simp; first | done | with_reducible rfl); (try simp only [Act.put, sI, sZ, sS])
      refine wpAnyH_take (i := 8) (oi := ⟨some 29, _, _, _, _, _⟩) (v := ?_) rfl (by kernel_rfl) (by kernel_rfl) (by kernel_rfl) (fun _ _ _ h => h) (Or.inl ⟨by kernel_rfl, ?_⟩) (by assumption) ?_; rotate_left; (intro VV hSw; (try dsimp only at hSw); go_simp; first | done | with_reducible rfl); (try simp only [Act.put, sI, sZ, sS])
      refine wpAnyH_take (i := 9) (oi := ⟨some 30, _, _, _, _, _⟩) (v := ?_) rfl (by kernel_rfl) (by kernel_rfl) (by kernel_rfl) (fun _ _ _ h => h) (Or.inl ⟨by kernel_rfl, ?_⟩) (by assumption) ?_; rotate_left; (intro VV hSw; (try dsimp only at hSw); go_simp; first | done | with_reducible rfl); (try simp only [Act.put, sI, sZ, sS])
      refine wpAnyH_take (i := 10) (oi := ⟨some 31, _, _, _, _, _⟩) (v := ?_) rfl (by kernel_rfl) (by kernel_rfl) (by kernel_rfl) (fun _ _ _ h => h) (Or.inl ⟨by kernel_rfl, ?_⟩) (by assumption) ?_; rotate_left; (intro VV hSw; (try dsimp only at hSw); go_simp; first | done | with_reducible rfl); (try simp only [Act.put, sI, sZ, sS])
      refine wpAnyH_take (i := 11) (oi := ⟨some 32, _, _, _, _, _⟩) (v := ?_) rfl (by kernel_rfl) (by kernel_rfl) (by kernel_rfl) (fun _ _ _ h => h) (Or.inl ⟨by kernel_rfl, ?_⟩) (by assumption) ?_; rotate_left; (intro VV hSw; (try dsimp only at hSw); obtain ⟨d0, d1, d2, d3, d4, he, y0, y1, y2, y3, y4⟩ := HEY.out VV hSw.1; simp only [Value.agg.injEq, Array.mk.injEq, List.cons.injEq, and_true] at he; obtain ⟨rfl, rfl, rfl, rfl, rfl⟩ := he; go_simp; first | done | with_reducible rfl); (try simp only [Act.put, sI, sZ, sS])
      refine wpAnyH_ready (rs := [12]) (by kernel_rfl) (by simp) ?_
      refine AllReadyH.cons (o := ⟨some 33, _, _, _, _, _⟩) rfl (fun K hK => ?_) AllReadyH.nil
      · rw [if_pos (by rfl)]
        go_simp
        refine (HCALL.out y lj D _ _ hMD HTX.out HTY.out HCY.out (by have h1 := HMJ2.out; have h2 := HPRE.out; omega)).mono ?_
        rintro e V3 ⟨bb, l3, rfl, hM3, hr3, hk3⟩
        obtain ⟨xw, hxw, -⟩ := hM3.box
        have hS1 : Below base W0 V3 ∧ V3.heap[g8]? = some (.cells #[.int .i8 8, .int .i64 xn, .string xs, .string xu, .slice xA xL.length xc] 25 (0, 0)) ∧ ∃ xv, V3.heap[X]? = some (.cells (mRow xv mb X M) 118 (0, 0)) := ⟨hM3.below, hk3 _ _ _ _ hS.2.1 (by decide) (by decide), xw, hxw⟩
        have hKE : KeptM W V3 := hKD.trans hk3
        refine hK.out _ _ hS1 (fun hSn => ?_)
        clear hK K hSn; (try simp only [Act.put, sI, sZ, sS])
        refine wpAnyH_take (i := 13) (oi := ⟨some 34, _, _, _, _, _⟩) (v := ?_) rfl (by kernel_rfl) (by kernel_rfl) (by kernel_rfl) (fun _ _ _ h => h) (Or.inl ⟨by kernel_rfl, ?_⟩) (by assumption) ?_; rotate_left; (intro VV hSw; (try dsimp only at hSw); go_simp; first | done | with_reducible rfl); (try simp only [Act.put, sI, sZ, sS])
        refine wpAnyH_done (by kernel_rfl) ?_ _
        have HM3 := Lib.hid hM3
        have HK3 := Lib.hid hKE
        have HS3 := Lib.hid HSTEP.out
        clear hS1 hS hMD hKD hM3 hKE hk3 hxw
        cases bb with
        | false =>
          have HRE : Hid (R = none) := by
            show _ = _
            rw [HRJ.out, HS3.out, hr3]
            rfl
          clear hr3
          go_wp2_with fail
          go_ret
          exact .of (b := false) rfl HM3.out HRE.out HK3.out
        | true =>
          have hgp : goP x y lj = some l3 := hr3
          have HRE : Hid (R = goPs (ps.drop (j + 1)) (ts.drop (j + 1)) l3) := by
            show _ = _
            rw [HRJ.out, HS3.out, hgp]
          have HME : Hid (l3.length + (Tm.pres (ps.drop (j + 1))).length ≤ 500000) := by
            have h1 := goP_len x y lj l3 hgp
            have h2 := HMJ2.out
            have h3 := HPRE.out
            show _ ≤ _
            omega
          clear hr3 hgp
          go_wp2_with fail
          go_roundw
          case rel => exact ⟨j + 1, l3, by omega, by go_num, HM3, HRE, HME, HK3⟩
          case measure => simp [intOf]; omega
    · have HCALL := Lib.hid (HEX.out.k9 hkn.symm)
      clear hkn hxe hye
      refine wp_region_held (S := fun V => Below base W0 V ∧ V.heap[g8]? = some (.cells #[.int .i8 9, .int .i64 xn, .string xs, .string xu, .slice xA xL.length xc] 25 (0, 0)) ∧ ∃ xv, V.heap[X]? = some (.cells (mRow xv mb X M) 118 (0, 0))) (by kernel_rfl) ?_
      show wpAnyH _ _ _ _ _ _ _ _ V2.drew
      have hS : Below base W0 V2.drew ∧ V2.drew.heap[g8]? = some (.cells #[.int .i8 9, .int .i64 xn, .string xs, .string xu, .slice xA xL.length xc] 25 (0, 0)) ∧ ∃ xv, V2.drew.heap[X]? = some (.cells (mRow xv mb X M) 118 (0, 0)) := ⟨HM2.out.below.trans ⟨rfl, rfl, rfl, Nat.le_refl _, fun _ _ => rfl⟩, HG8.out, xv, HXV.out⟩
      have hMD : MAt base W0 X M mb lj V2.drew := HM2.out.under ⟨rfl, rfl, rfl, Nat.le_refl _, fun _ _ => rfl⟩
      have hKD : KeptM W V2.drew := HK2.out
      generalize V2.drew = D at hS hMD hKD ⊢
      refine wpAnyH_take (i := 0) (oi := ⟨some 21, _, _, _, _, _⟩) (v := ?_) rfl (by kernel_rfl) (by kernel_rfl) (by kernel_rfl) (fun _ _ _ h => h) (Or.inl ⟨by kernel_rfl, ?_⟩) (by assumption) ?_; rotate_left; (intro VV hSw; (try dsimp only at hSw); go_simp; first | done | with_reducible rfl); (try simp only [Act.put, sI, sZ, sS])
      refine wpAnyH_take (i := 1) (oi := ⟨some 22, _, _, _, _, _⟩) (v := ?_) rfl (by kernel_rfl) (by kernel_rfl) (by kernel_rfl) (fun _ _ _ h => h) (Or.inl ⟨by kernel_rfl, ?_⟩) (by assumption) ?_; rotate_left; (intro VV hSw; (try dsimp only at hSw); go_simp; first | done | with_reducible rfl); (try simp only [Act.put, sI, sZ, sS])
      refine wpAnyH_take (i := 2) (oi := ⟨some 23, _, _, _, _, _⟩) (v := ?_) rfl (by kernel_rfl) (by kernel_rfl) (by kernel_rfl) (fun _ _ _ h => h) (Or.inl ⟨by kernel_rfl, ?_⟩) (by assumption) ?_; rotate_left; (intro VV hSw; (try dsimp only at hSw); have q0 : VV.cell? ⟨g8, 0, none⟩ = some (.int .i8 9) := cell_of_row (i := 0) hSw.2.1 rfl; go_simp; first | done | with_reducible rfl); (try simp only [Act.put, sI, sZ, sS])
      refine wpAnyH_take (i := 3) (oi := ⟨some 24, _, _, _, _, _⟩) (v := ?_) rfl (by kernel_rfl) (by kernel_rfl) (by kernel_rfl) (fun _ _ _ h => h) (Or.inl ⟨by kernel_rfl, ?_⟩) (by assumption) ?_; rotate_left; (intro VV hSw; (try dsimp only at hSw); go_simp; first | done | with_reducible rfl); (try simp only [Act.put, sI, sZ, sS])
      refine wpAnyH_take (i := 4) (oi := ⟨some 25, _, _, _, _, _⟩) (v := ?_) rfl (by kernel_rfl) (by kernel_rfl) (by kernel_rfl) (fun _ _ _ h => h) (Or.inl ⟨by kernel_rfl, ?_⟩) (by assumption) ?_; rotate_left; (intro VV hSw; (try dsimp only at hSw); go_simp; first | done | with_reducible rfl); (try simp only [Act.put, sI, sZ, sS])
      refine wpAnyH_take (i := 5) (oi := ⟨some 26, _, _, _, _, _⟩) (v := ?_) rfl (by kernel_rfl) (by kernel_rfl) (by kernel_rfl) (fun _ _ _ h => h) (Or.inl ⟨by kernel_rfl, ?_⟩) (by assumption) ?_; rotate_left; (intro VV hSw; (try dsimp only at hSw); go_simp; first | done | with_reducible rfl); (try simp only [Act.put, sI, sZ, sS])
      refine wpAnyH_take (i := 6) (oi := ⟨some 27, _, _, _, _, _⟩) (v := ?_) rfl (by kernel_rfl) (by kernel_rfl) (by kernel_rfl) (fun _ _ _ h => h) (Or.inl ⟨by kernel_rfl, ?_⟩) (by assumption) ?_; rotate_left; (intro VV hSw; (try dsimp only at hSw); obtain ⟨xw, hxw⟩ := hSw.2.2; have qf : VV.cell? ⟨X, 11, none⟩ = some (.func (.func 139) #[] #[.pointer (some ⟨M, 0, none⟩)]) := cell_of_row (i := 11) hxw rfl; go_simp; first | done | with_reducible rfl); (try simp only [Act.put, sI, sZ, sS])
      refine wpAnyH_take (i := 7) (oi := ⟨some 28, _, _, _, _, _⟩) (v := ?_) rfl (by kernel_rfl) (by kernel_rfl) (by kernel_rfl) (fun _ _ _ h => h) (Or.inl ⟨by kernel_rfl, ?_⟩) (by assumption) ?_; rotate_left; (intro VV hSw; (try dsimp only at hSw); have q0 : VV.cell? ⟨g8, 0, none⟩ = some (.int .i8 9) := cell_of_row (i := 0) hSw.2.1 rfl; have q1 : VV.cell? ⟨g8, 1, none⟩ = some (.int .i64 xn) := cell_of_row (i := 1) hSw.2.1 rfl; have q2 : VV.cell? ⟨g8, 2, none⟩ = some (.string xs) := cell_of_row (i := 2) hSw.2.1 rfl; have q3 : VV.cell? ⟨g8, 3, none⟩ = some (.string xu) := cell_of_row (i := 3) hSw.2.1 rfl; have q4 : VV.cell? ⟨g8, 4, none⟩ = some (.slice xA xL.length xc) := cell_of_row (i := 4) hSw.2.1 rfl; go_simp; first | done | with_reducible rfl); (try simp only [Act.put, sI, sZ, sS])
      refine wpAnyH_take (i := 8) (oi := ⟨some 29, _, _, _, _, _⟩) (v := ?_) rfl (by kernel_rfl) (by kernel_rfl) (by kernel_rfl) (fun _ _ _ h => h) (Or.inl ⟨by kernel_rfl, ?_⟩) (by assumption) ?_; rotate_left; (intro VV hSw; (try dsimp only at hSw); go_simp; first | done | with_reducible rfl); (try simp only [Act.put, sI, sZ, sS])
      refine wpAnyH_take (i := 9) (oi := ⟨some 30, _, _, _, _, _⟩) (v := ?_) rfl (by kernel_rfl) (by kernel_rfl) (by kernel_rfl) (fun _ _ _ h => h) (Or.inl ⟨by kernel_rfl, ?_⟩) (by assumption) ?_; rotate_left; (intro VV hSw; (try dsimp only at hSw); go_simp; first | done | with_reducible rfl); (try simp only [Act.put, sI, sZ, sS])
      refine wpAnyH_take (i := 10) (oi := ⟨some 31, _, _, _, _, _⟩) (v := ?_) rfl (by kernel_rfl) (by kernel_rfl) (by kernel_rfl) (fun _ _ _ h => h) (Or.inl ⟨by kernel_rfl, ?_⟩) (by assumption) ?_; rotate_left; (intro VV hSw; (try dsimp only at hSw); go_simp; first | done | with_reducible rfl); (try simp only [Act.put, sI, sZ, sS])
      refine wpAnyH_take (i := 11) (oi := ⟨some 32, _, _, _, _, _⟩) (v := ?_) rfl (by kernel_rfl) (by kernel_rfl) (by kernel_rfl) (fun _ _ _ h => h) (Or.inl ⟨by kernel_rfl, ?_⟩) (by assumption) ?_; rotate_left; (intro VV hSw; (try dsimp only at hSw); obtain ⟨d0, d1, d2, d3, d4, he, y0, y1, y2, y3, y4⟩ := HEY.out VV hSw.1; simp only [Value.agg.injEq, Array.mk.injEq, List.cons.injEq, and_true] at he; obtain ⟨rfl, rfl, rfl, rfl, rfl⟩ := he; go_simp; first | done | with_reducible rfl); (try simp only [Act.put, sI, sZ, sS])
      refine wpAnyH_ready (rs := [12]) (by kernel_rfl) (by simp) ?_
      refine AllReadyH.cons (o := ⟨some 33, _, _, _, _, _⟩) rfl (fun K hK => ?_) AllReadyH.nil
      · rw [if_pos (by rfl)]
        go_simp
        refine (HCALL.out y lj D _ _ hMD HTX.out HTY.out HCY.out (by have h1 := HMJ2.out; have h2 := HPRE.out; omega)).mono ?_
        rintro e V3 ⟨bb, l3, rfl, hM3, hr3, hk3⟩
        obtain ⟨xw, hxw, -⟩ := hM3.box
        have hS1 : Below base W0 V3 ∧ V3.heap[g8]? = some (.cells #[.int .i8 9, .int .i64 xn, .string xs, .string xu, .slice xA xL.length xc] 25 (0, 0)) ∧ ∃ xv, V3.heap[X]? = some (.cells (mRow xv mb X M) 118 (0, 0)) := ⟨hM3.below, hk3 _ _ _ _ hS.2.1 (by decide) (by decide), xw, hxw⟩
        have hKE : KeptM W V3 := hKD.trans hk3
        refine hK.out _ _ hS1 (fun hSn => ?_)
        clear hK K hSn; (try simp only [Act.put, sI, sZ, sS])
        refine wpAnyH_take (i := 13) (oi := ⟨some 34, _, _, _, _, _⟩) (v := ?_) rfl (by kernel_rfl) (by kernel_rfl) (by kernel_rfl) (fun _ _ _ h => h) (Or.inl ⟨by kernel_rfl, ?_⟩) (by assumption) ?_; rotate_left; (intro VV hSw; (try dsimp only at hSw); go_simp; first | done | with_reducible rfl); (try simp only [Act.put, sI, sZ, sS])
        refine wpAnyH_done (by kernel_rfl) ?_ _
        have HM3 := Lib.hid hM3
        have HK3 := Lib.hid hKE
        have HS3 := Lib.hid HSTEP.out
        clear hS1 hS hMD hKD hM3 hKE hk3 hxw
        cases bb with
        | false =>
          have HRE : Hid (R = none) := by
            show _ = _
            rw [HRJ.out, HS3.out, hr3]
            rfl
          clear hr3
          go_wp2_with fail
          go_ret
          exact .of (b := false) rfl HM3.out HRE.out HK3.out
        | true =>
          have hgp : goP x y lj = some l3 := hr3
          have HRE : Hid (R = goPs (ps.drop (j + 1)) (ts.drop (j + 1)) l3) := by
            show _ = _
            rw [HRJ.out, HS3.out, hgp]
          have HME : Hid (l3.length + (Tm.pres (ps.drop (j + 1))).length ≤ 500000) := by
            have h1 := goP_len x y lj l3 hgp
            have h2 := HMJ2.out
            have h3 := HPRE.out
            show _ ≤ _
            omega
          clear hr3 hgp
          go_wp2_with fail
          go_roundw
          case rel => exact ⟨j + 1, l3, by omega, by go_num, HM3, HRE, HME, HK3⟩
          case measure => simp [intOf]; omega
    · have HCALL := Lib.hid (HEX.out.k10 hkn.symm)
      clear hkn hxe hye
      refine wp_region_held (S := fun V => Below base W0 V ∧ V.heap[g8]? = some (.cells #[.int .i8 10, .int .i64 xn, .string xs, .string xu, .slice xA xL.length xc] 25 (0, 0)) ∧ ∃ xv, V.heap[X]? = some (.cells (mRow xv mb X M) 118 (0, 0))) (by kernel_rfl) ?_
      show wpAnyH _ _ _ _ _ _ _ _ V2.drew
      have hS : Below base W0 V2.drew ∧ V2.drew.heap[g8]? = some (.cells #[.int .i8 10, .int .i64 xn, .string xs, .string xu, .slice xA xL.length xc] 25 (0, 0)) ∧ ∃ xv, V2.drew.heap[X]? = some (.cells (mRow xv mb X M) 118 (0, 0)) := ⟨HM2.out.below.trans ⟨rfl, rfl, rfl, Nat.le_refl _, fun _ _ => rfl⟩, HG8.out, xv, HXV.out⟩
      have hMD : MAt base W0 X M mb lj V2.drew := HM2.out.under ⟨rfl, rfl, rfl, Nat.le_refl _, fun _ _ => rfl⟩
      have hKD : KeptM W V2.drew := HK2.out
      generalize V2.drew = D at hS hMD hKD ⊢
      refine wpAnyH_take (i := 0) (oi := ⟨some 21, _, _, _, _, _⟩) (v := ?_) rfl (by kernel_rfl) (by kernel_rfl) (by kernel_rfl) (fun _ _ _ h => h) (Or.inl ⟨by kernel_rfl, ?_⟩) (by assumption) ?_; rotate_left; (intro VV hSw; (try dsimp only at hSw); go_simp; first | done | with_reducible rfl); (try simp only [Act.put, sI, sZ, sS])
      refine wpAnyH_take (i := 1) (oi := ⟨some 22, _, _, _, _, _⟩) (v := ?_) rfl (by kernel_rfl) (by kernel_rfl) (by kernel_rfl) (fun _ _ _ h => h) (Or.inl ⟨by kernel_rfl, ?_⟩) (by assumption) ?_; rotate_left; (intro VV hSw; (try dsimp only at hSw); go_simp; first | done | with_reducible rfl); (try simp only [Act.put, sI, sZ, sS])
      refine wpAnyH_take (i := 2) (oi := ⟨some 23, _, _, _, _, _⟩) (v := ?_) rfl (by kernel_rfl) (by kernel_rfl) (by kernel_rfl) (fun _ _ _ h => h) (Or.inl ⟨by kernel_rfl, ?_⟩) (by assumption) ?_; rotate_left; (intro VV hSw; (try dsimp only at hSw); have q0 : VV.cell? ⟨g8, 0, none⟩ = some (.int .i8 10) := cell_of_row (i := 0) hSw.2.1 rfl; go_simp; first | done | with_reducible rfl); (try simp only [Act.put, sI, sZ, sS])
      refine wpAnyH_take (i := 3) (oi := ⟨some 24, _, _, _, _, _⟩) (v := ?_) rfl (by kernel_rfl) (by kernel_rfl) (by kernel_rfl) (fun _ _ _ h => h) (Or.inl ⟨by kernel_rfl, ?_⟩) (by assumption) ?_; rotate_left; (intro VV hSw; (try dsimp only at hSw); go_simp; first | done | with_reducible rfl); (try simp only [Act.put, sI, sZ, sS])
      refine wpAnyH_take (i := 4) (oi := ⟨some 25, _, _, _, _, _⟩) (v := ?_) rfl (by kernel_rfl) (by kernel_rfl) (by kernel_rfl) (fun _ _ _ h => h) (Or.inl ⟨by kernel_rfl, ?_⟩) (by assumption) ?_; rotate_left; (intro VV hSw; (try dsimp only at hSw); go_simp; first | done | with_reducible rfl); (try simp only [Act.put, sI, sZ, sS])
      refine wpAnyH_take (i := 5) (oi := ⟨some 26, _, _, _, _, _⟩) (v := ?_) rfl (by kernel_rfl) (by kernel_rfl) (by kernel_rfl) (fun _ _ _ h => h) (Or.inl ⟨by kernel_rfl, ?_⟩) (by assumption) ?_; rotate_left; (intro VV hSw; (try dsimp only at hSw); go_simp; first | done | with_reducible rfl); (try simp only [Act.put, sI, sZ, sS])
      refine wpAnyH_take (i := 6) (oi := ⟨some 27, _, _, _, _, _⟩) (v := ?_) rfl (by kernel_rfl) (by kernel_rfl) (by kernel_rfl) (fun _ _ _ h => h) (Or.inl ⟨by kernel_rfl, ?_⟩) (by assumption) ?_; rotate_left; (intro VV hSw; (try dsimp only at hSw); obtain ⟨xw, hxw⟩ := hSw.2.2; have qf : VV.cell? ⟨X, 12, none⟩ = some (.func (.func 140) #[] #[.pointer (some ⟨M, 0, none⟩)]) := cell_of_row (i := 12) hxw rfl; go_simp; first | done | with_reducible rfl); (try simp only [Act.put, sI, sZ, sS])
      refine wpAnyH_take (i := 7) (oi := ⟨some 28, _, _, _, _, _⟩) (v := ?_) rfl (by kernel_rfl) (by kernel_rfl) (by kernel_rfl) (fun _ _ _ h => h) (Or.inl ⟨by kernel_rfl, ?_⟩) (by assumption) ?_; rotate_left; (intro VV hSw; (try dsimp only at hSw); have q0 : VV.cell? ⟨g8, 0, none⟩ = some (.int .i8 10) := cell_of_row (i := 0) hSw.2.1 rfl; have q1 : VV.cell? ⟨g8, 1, none⟩ = some (.int .i64 xn) := cell_of_row (i := 1) hSw.2.1 rfl; have q2 : VV.cell? ⟨g8, 2, none⟩ = some (.string xs) := cell_of_row (i := 2) hSw.2.1 rfl; have q3 : VV.cell? ⟨g8, 3, none⟩ = some (.string xu) := cell_of_row (i := 3) hSw.2.1 rfl; have q4 : VV.cell? ⟨g8, 4, none⟩ = some (.slice xA xL.length xc) := cell_of_row (i := 4) hSw.2.1 rfl; go_simp; first | done | with_reducible rfl); (try simp only [Act.put, sI, sZ, sS])
      refine wpAnyH_take (i := 8) (oi := ⟨some 29, _, _, _, _, _⟩) (v := ?_) rfl (by kernel_rfl) (by kernel_rfl) (by kernel_rfl) (fun _ _ _ h => h) (Or.inl ⟨by kernel_rfl, ?_⟩) (by assumption) ?_; rotate_left; (intro VV hSw; (try dsimp only at hSw); go_simp; first | done | with_reducible rfl); (try simp only [Act.put, sI, sZ, sS])
      refine wpAnyH_take (i := 9) (oi := ⟨some 30, _, _, _, _, _⟩) (v := ?_) rfl (by kernel_rfl) (by kernel_rfl) (by kernel_rfl) (fun _ _ _ h => h) (Or.inl ⟨by kernel_rfl, ?_⟩) (by assumption) ?_; rotate_left; (intro VV hSw; (try dsimp only at hSw); go_simp; first | done | with_reducible rfl); (try simp only [Act.put, sI, sZ, sS])
      refine wpAnyH_take (i := 10) (oi := ⟨some 31, _, _, _, _, _⟩) (v := ?_) rfl (by kernel_rfl) (by kernel_rfl) (by kernel_rfl) (fun _ _ _ h => h) (Or.inl ⟨by kernel_rfl, ?_⟩) (by assumption) ?_; rotate_left; (intro VV hSw; (try dsimp only at hSw); go_simp; first | done | with_reducible rfl); (try simp only [Act.put, sI, sZ, sS])
      refine wpAnyH_take (i := 11) (oi := ⟨some 32, _, _, _, _, _⟩) (v := ?_) rfl (by kernel_rfl) (by kernel_rfl) (by kernel_rfl) (fun _ _ _ h => h) (Or.inl ⟨by kernel_rfl, ?_⟩) (by assumption) ?_; rotate_left; (intro VV hSw; (try dsimp only at hSw); obtain ⟨d0, d1, d2, d3, d4, he, y0, y1, y2, y3, y4⟩ := HEY.out VV hSw.1; simp only [Value.agg.injEq, Array.mk.injEq, List.cons.injEq, and_true] at he; obtain ⟨rfl, rfl, rfl, rfl, rfl⟩ := he; go_simp; first | done | with_reducible rfl); (try simp only [Act.put, sI, sZ, sS])
      refine wpAnyH_ready (rs := [12]) (by kernel_rfl) (by simp) ?_
      refine AllReadyH.cons (o := ⟨some 33, _, _, _, _, _⟩) rfl (fun K hK => ?_) AllReadyH.nil
      · rw [if_pos (by rfl)]
        go_simp
        refine (HCALL.out y lj D _ _ hMD HTX.out HTY.out HCY.out (by have h1 := HMJ2.out; have h2 := HPRE.out; omega)).mono ?_
        rintro e V3 ⟨bb, l3, rfl, hM3, hr3, hk3⟩
        obtain ⟨xw, hxw, -⟩ := hM3.box
        have hS1 : Below base W0 V3 ∧ V3.heap[g8]? = some (.cells #[.int .i8 10, .int .i64 xn, .string xs, .string xu, .slice xA xL.length xc] 25 (0, 0)) ∧ ∃ xv, V3.heap[X]? = some (.cells (mRow xv mb X M) 118 (0, 0)) := ⟨hM3.below, hk3 _ _ _ _ hS.2.1 (by decide) (by decide), xw, hxw⟩
        have hKE : KeptM W V3 := hKD.trans hk3
        refine hK.out _ _ hS1 (fun hSn => ?_)
        clear hK K hSn; (try simp only [Act.put, sI, sZ, sS])
        refine wpAnyH_take (i := 13) (oi := ⟨some 34, _, _, _, _, _⟩) (v := ?_) rfl (by kernel_rfl) (by kernel_rfl) (by kernel_rfl) (fun _ _ _ h => h) (Or.inl ⟨by kernel_rfl, ?_⟩) (by assumption) ?_; rotate_left; (intro VV hSw; (try dsimp only at hSw); go_simp; first | done | with_reducible rfl); (try simp only [Act.put, sI, sZ, sS])
        refine wpAnyH_done (by kernel_rfl) ?_ _
        have HM3 := Lib.hid hM3
        have HK3 := Lib.hid hKE
        have HS3 := Lib.hid HSTEP.out
        clear hS1 hS hMD hKD hM3 hKE hk3 hxw
        cases bb with
        | false =>
          have HRE : Hid (R = none) := by
            show _ = _
            rw [HRJ.out, HS3.out, hr3]
            rfl
          clear hr3
          go_wp2_with fail
          go_ret
          exact .of (b := false) rfl HM3.out HRE.out HK3.out
        | true =>
          have hgp : goP x y lj = some l3 := hr3
          have HRE : Hid (R = goPs (ps.drop (j + 1)) (ts.drop (j + 1)) l3) := by
            show _ = _
            rw [HRJ.out, HS3.out, hgp]
          have HME : Hid (l3.length + (Tm.pres (ps.drop (j + 1))).length ≤ 500000) := by
            have h1 := goP_len x y lj l3 hgp
            have h2 := HMJ2.out
            have h3 := HPRE.out
            show _ ≤ _
            omega
          clear hr3 hgp
          go_wp2_with fail
          go_roundw
          case rel => exact ⟨j + 1, l3, by omega, by go_num, HM3, HRE, HME, HK3⟩
          case measure => simp [intOf]; omega
set_option maxHeartbeats 4000000 in
set_option maxRecDepth 100000 in
theorem el_9 (base : Nat) (W0 : World) (X M mb : Nat) (n : Int) (s u : ByteArray) (ps : List Tm) (hel : ∀ y ∈ ps, ElC base W0 X M mb y) (hpat : ∀ y ∈ ps, patB y = true) : ElK base W0 X M mb (.mk 9 n s u ps) 139 (fun v u => #[v, u, .pointer (some ⟨M, 0, none⟩)]) := by
  intro t l W v u0 hM hP hT hc hmany
  obtain ⟨NA, nc, rfl, hRP, -⟩ := hP.parts
  obtain ⟨tk, tn, ts, tu, TL⟩ := t
  obtain ⟨TA, tc, rfl, hRT, -⟩ := hT.parts
  have g0 := there_of (.cells #[.int .i8 tk, .int .i64 tn, .string ts, .string tu, .slice TA TL.length tc] 44) (block_alloc W (.cells #[.int .i8 9, .int .i64 n, .string s, .string u, .slice NA ps.length nc] 25))
  have g1 := block_alloc (W.alloc (.cells #[.int .i8 9, .int .i64 n, .string s, .string u, .slice NA ps.length nc] 25)) (.cells #[.int .i8 tk, .int .i64 tn, .string ts, .string tu, .slice TA TL.length tc] 44)
  rw [World.size_alloc] at g1
  have b2 : Below W.heap.size W ((W.alloc (.cells #[.int .i8 9, .int .i64 n, .string s, .string u, .slice NA ps.length nc] 25)).alloc (.cells #[.int .i8 tk, .int .i64 tn, .string ts, .string tu, .slice TA TL.length tc] 44)) := ((Below.refl _ W).alloc (Nat.le_refl _) _).alloc (by simp) _
  obtain ⟨W2, hW2⟩ : ∃ W2, W2 = (W.alloc (.cells #[.int .i8 9, .int .i64 n, .string s, .string u, .slice NA ps.length nc] 25)).alloc (.cells #[.int .i8 tk, .int .i64 tn, .string ts, .string tu, .slice TA TL.length tc] 44) := ⟨_, rfl⟩
  rw [← hW2] at g0 g1 b2
  have hM2 := hM.under b2
  have HM2 := Lib.hid hM2
  have HB2 := Lib.hid b2
  obtain ⟨x0, x1, x2, x3, x4⟩ := five_of g0
  obtain ⟨y0, y1, y2, y3, y4⟩ := five_of g1
  obtain ⟨R, hR⟩ : ∃ R, R = goP (.mk 9 n s u ps) (.mk tk tn ts tu TL) l := ⟨_, rfl⟩
  rw [← hR]
  rw [goP_9] at hR
  have HRR := Lib.hid hR
  have hpt : W2.cell? ⟨M, 0, none⟩ = some (.pointer (some ⟨X, 0, none⟩)) := cell_of_row (i := 0) hM2.ptr rfl
  have HC := Lib.hid (mrow_any base W0 X M mb ps TL hel hpat (fun y hy => check_part hc hy) NA ps.length nc TA TL.length tc l W2 hM2 hRP hRT (by rw [Tm.nodes_mk] at hmany; omega))
  clear g0 g1 b2 hM2 hM hP hT hRP hRT hc hmany hel hpat hR
  by_cases h1 : tk = 7
  · have hb : (tk == 7) = true := by simpa using h1
    have HR9 : Hid (R = if ps.length = TL.length then goPs ps TL l else none) := by
      show _ = _
      by_cases h2 : ps.length = TL.length
      · rw [if_pos h2]; exact HRR.out.trans (if_pos ⟨h1, h2⟩)
      · rw [if_neg h2]; exact HRR.out.trans (if_neg (fun h => h2 h.2))
    rw [← HR9.out] at HC
    clear h1
    go_enter Tryz.func139, Tryz.ntmps139
    go_upto_region 1 with fail
    rw [← hW2]
    clear hW2
    go_wp2_with fail
    refine HC.out.mono ?_
    rintro e V3 ⟨bb, l3, rfl, hM3, hr3, hk3⟩
    have HM3 := Lib.hid hM3
    have HR3 := Lib.hid hr3
    have HK3 : Hid (KeptM W V3) := (KeptM.of_below HB2.out).trans hk3
    clear hM3 hr3 hk3
    go_wp2_with fail
    go_ret
    exact .of rfl HM3.out HR3.out HK3.out
  · have hb : (tk == 7) = false := by simpa using h1
    have HF : Hid (R = none) := HRR.out.trans (if_neg (fun h => h1 h.1))
    clear h1
    go_enter Tryz.func139, Tryz.ntmps139
    go_upto_region 1 with fail
    rw [← hW2]
    clear hW2
    go_wp2_with fail
    go_ret
    exact .of (b := false) rfl HM2.out HF.out (KeptM.of_below HB2.out)
set_option maxHeartbeats 4000000 in
set_option maxRecDepth 100000 in
theorem el_10 (base : Nat) (W0 : World) (X M mb : Nat) (n : Int) (s u : ByteArray) (ps : List Tm) (hel : ∀ y ∈ ps, ElC base W0 X M mb y) (hpat : ∀ y ∈ ps, patB y = true) : ElK base W0 X M mb (.mk 10 n s u ps) 140 (fun v u => #[v, u, .pointer (some ⟨M, 0, none⟩)]) := by
  intro t l W v u0 hM hP hT hc hmany
  obtain ⟨NA, nc, rfl, hRP, -⟩ := hP.parts
  obtain ⟨tk, tn, ts, tu, TL⟩ := t
  obtain ⟨TA, tc, rfl, hRT, -⟩ := hT.parts
  have g0 := there_of (.cells #[.int .i8 tk, .int .i64 tn, .string ts, .string tu, .slice TA TL.length tc] 44) (block_alloc W (.cells #[.int .i8 10, .int .i64 n, .string s, .string u, .slice NA ps.length nc] 25))
  have g1 := block_alloc (W.alloc (.cells #[.int .i8 10, .int .i64 n, .string s, .string u, .slice NA ps.length nc] 25)) (.cells #[.int .i8 tk, .int .i64 tn, .string ts, .string tu, .slice TA TL.length tc] 44)
  rw [World.size_alloc] at g1
  have b2 : Below W.heap.size W ((W.alloc (.cells #[.int .i8 10, .int .i64 n, .string s, .string u, .slice NA ps.length nc] 25)).alloc (.cells #[.int .i8 tk, .int .i64 tn, .string ts, .string tu, .slice TA TL.length tc] 44)) := ((Below.refl _ W).alloc (Nat.le_refl _) _).alloc (by simp) _
  obtain ⟨W2, hW2⟩ : ∃ W2, W2 = (W.alloc (.cells #[.int .i8 10, .int .i64 n, .string s, .string u, .slice NA ps.length nc] 25)).alloc (.cells #[.int .i8 tk, .int .i64 tn, .string ts, .string tu, .slice TA TL.length tc] 44) := ⟨_, rfl⟩
  rw [← hW2] at g0 g1 b2
  have hM2 := hM.under b2
  have HM2 := Lib.hid hM2
  have HB2 := Lib.hid b2
  obtain ⟨x0, x1, x2, x3, x4⟩ := five_of g0
  obtain ⟨y0, y1, y2, y3, y4⟩ := five_of g1
  obtain ⟨R, hR⟩ : ∃ R, R = goP (.mk 10 n s u ps) (.mk tk tn ts tu TL) l := ⟨_, rfl⟩
  rw [← hR]
  rw [goP_10] at hR
  have HRR := Lib.hid hR
  have hpt : W2.cell? ⟨M, 0, none⟩ = some (.pointer (some ⟨X, 0, none⟩)) := cell_of_row (i := 0) hM2.ptr rfl
  have HC := Lib.hid (mrow_any base W0 X M mb ps TL hel hpat (fun y hy => check_part hc hy) NA ps.length nc TA TL.length tc l W2 hM2 hRP hRT (by rw [Tm.nodes_mk] at hmany; omega))
  clear g0 g1 b2 hM2 hM hP hT hRP hRT hc hmany hel hpat hR
  by_cases h1 : tk = 5
  · have hb : (tk == 5) = true := by simpa using h1
    have HR9 : Hid (R = if ps.length = TL.length then goPs ps TL l else none) := by
      show _ = _
      by_cases h2 : ps.length = TL.length
      · rw [if_pos h2]; exact HRR.out.trans (if_pos ⟨h1, h2⟩)
      · rw [if_neg h2]; exact HRR.out.trans (if_neg (fun h => h2 h.2))
    rw [← HR9.out] at HC
    clear h1
    go_enter Tryz.func140, Tryz.ntmps140
    go_upto_region 1 with fail
    rw [← hW2]
    clear hW2
    go_wp2_with fail
    refine HC.out.mono ?_
    rintro e V3 ⟨bb, l3, rfl, hM3, hr3, hk3⟩
    have HM3 := Lib.hid hM3
    have HR3 := Lib.hid hr3
    have HK3 : Hid (KeptM W V3) := (KeptM.of_below HB2.out).trans hk3
    clear hM3 hr3 hk3
    go_wp2_with fail
    go_ret
    exact .of rfl HM3.out HR3.out HK3.out
  · have hb : (tk == 5) = false := by simpa using h1
    have HF : Hid (R = none) := HRR.out.trans (if_neg (fun h => h1 h.1))
    clear h1
    go_enter Tryz.func140, Tryz.ntmps140
    go_upto_region 1 with fail
    rw [← hW2]
    clear hW2
    go_wp2_with fail
    go_ret
    exact .of (b := false) rfl HM2.out HF.out (KeptM.of_below HB2.out)
theorem pats_of {k n : Int} {s u : ByteArray} {ps : List Tm} (h : patB (.mk k n s u ps) = true) : (k = 9 ∨ k = 10) → ∀ y ∈ ps, patB y = true := by
  intro hk
  have hall : ∀ ps, patsB ps = true → ∀ y ∈ ps, patB y = true := by
    intro ps
    induction ps with
    | nil => intro _ y hy; cases hy
    | cons a ps ih =>
      intro h y hy
      rw [patsB, Bool.and_eq_true] at h
      rcases List.mem_cons.1 hy with rfl | hy
      · exact h.1
      · exact ih h.2 y hy
  unfold patB leafB at h
  simp only [Bool.or_eq_true, Bool.and_eq_true, beq_iff_eq] at h
  rcases h with h | h
  · omega
  · exact hall ps h.2
theorem el_any (base : Nat) (W0 : World) (X M mb : Nat) (p : Tm) : patB p = true → ElC base W0 X M mb p := by
  induction p using Tm.ind with
  | h k n s u ps ih =>
    intro hp
    refine ⟨?_, ?_, ?_, ?_, ?_, ?_⟩ <;> intro hk
    · obtain rfl : k = 5 := hk
      intro t l W v u0 hM hP hT hc hmany
      obtain ⟨NA, nc, rfl, _, _, _, hs, _⟩ := hP.parts
      obtain ⟨tk, tn, ts, tu, TL⟩ := t
      obtain ⟨TA, tc, rfl, -⟩ := hT.parts
      exact mvar_any base W0 X M mb l 5 n s u ps NA ps.length nc _ tk tn ts tu TA TL.length tc W hM hs hT hc (by omega)
    · obtain rfl : k = 6 := hk
      exact el_6 base W0 X M mb n s u ps
    · obtain rfl : k = 7 := hk
      exact el_7 base W0 X M mb n s u ps
    · obtain rfl : k = 8 := hk
      exact el_8 base W0 X M mb n s u ps
    · obtain rfl : k = 9 := hk
      have hps := pats_of hp (.inl rfl)
      exact el_9 base W0 X M mb n s u ps (fun y hy => ih y hy (hps y hy)) hps
    · obtain rfl : k = 10 := hk
      have hps := pats_of hp (.inr rfl)
      exact el_10 base W0 X M mb n s u ps (fun y hy => ih y hy (hps y hy)) hps
end Go.Proofs.YtkceoiaaiaomoaaGreatDoor
