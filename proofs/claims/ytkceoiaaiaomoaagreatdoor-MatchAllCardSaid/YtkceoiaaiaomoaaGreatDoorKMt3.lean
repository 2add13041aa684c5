/- Layer 10: a bind put behind a matcher's names; the matcher's variable. -/
import Derived.Test.YtkceoiaaiaomoaaGreatDoorKHeldE
import Derived.ArgAppend
set_option linter.unusedVariables false
set_option linter.unusedSimpArgs false
namespace Go.Proofs.YtkceoiaaiaomoaaGreatDoor
open Go.RowKit

theorem OwnB.low {base base' : Nat} {P : Nat → Prop} {w : World} {v : Value} {hs : List Bd} (h : OwnB base P w v hs) (hb : base' ≤ base) : OwnB base' P w v hs := by
  obtain ⟨us, ho, hl, ht⟩ := h.row
  refine ⟨us, ⟨ho.1, ?_⟩, hl, ht⟩
  rcases ho.2 with h | ⟨g, cap, cur, e, hg, rest⟩
  · exact .inl h
  · exact .inr ⟨g, cap, cur, e, Nat.le_trans hb hg, rest⟩
def OwnRow (base : Nat) (w : World) (k : Nat) : Prop := base ≤ k ∧ ∃ c fz, w.heap[k]? = some (.cells c 61 fz)
theorem OwnB.isRow {base : Nat} {P : Nat → Prop} {w : World} {v : Value} {hs : List Bd} (h : OwnB base P w v hs) : ∀ g, v.ownBlock = some g → OwnRow base w g := by
  intro g hg
  obtain ⟨us, ho, hl, ht⟩ := h.row
  rcases ho.2 with ⟨e, _⟩ | ⟨g', cap, cur, e, hb, hr, rest⟩
  · rw [e] at hg; cases hg
  · rw [e] at hg
    obtain rfl : g' = g := by simpa [Value.ownBlock] using hg
    exact ⟨hb, cur, _, hr⟩
section
variable {ops : Array Oper} {rest : List Oper} {o : Oper} {a : Act} {w : World}
set_option maxHeartbeats 1000000 in
set_option maxRecDepth 100000 in
theorem wp_nm_bind {K : Act → World → Prop} {Q : Exit → Act → World → Prop} (sl x : Operand)
    (ho : o.op = .call { callee := .builtin .append, args := #[sl, x], argTypes := #[45, 45] })
    {base : Nat} {v : Value} {l : List Bd} (hN : NmAt base w v l) (hbase : base ≤ w.heap.size) (he : a.eval sl = v)
    (g : Nat) (hx : a.eval x = .slice (some ⟨g, 0, none⟩) 1 1) {s : ByteArray} {t : Tm} {c0 c1 c2 c3 c4 : Value} (hg : w.heap[g]? = some (.cells #[.string s, c0, c1, c2, c3, c4] 61 (0, 0))) (hs : s.size ≤ maxLen) (ht : TmAt (· < base) w t (.agg #[c0, c1, c2, c3, c4])) (hlen : l.length + 1 ≤ 1000000)
    (h : ∀ v' w', OwnB base (· < base) w' v' (l ++ [(s, t)]) → Mod (OwnRow base w) w w' → K (a.put o.dst v') w') : o.wp Tryz.prog a w K Q := by
  have own : ∀ v, OwnB base (· < base) w v l → a.eval sl = v → o.wp Tryz.prog a w K Q := by
    intro v hO he
    exact wp_own_binds sl x ho hO hbase (fun b (hb : b < base) => ⟨Nat.lt_of_lt_of_le hb hbase, fun e => by have := (hO.own b e).1; omega⟩) he hx (RowB.one hg hs ht) hlen (fun v' w' h1 h2 _ => h v' w' h1 (Mod.grown h2 (fun k _ e => hO.isRow k e)))
  rcases hN with ⟨A, rfl, hR⟩ | hO
  · cases A with
    | none =>
      have hl : l = [] := by
        cases l with
        | nil => rfl
        | cons y l => obtain ⟨ad, _, e, _⟩ := hR.at_ 0 y rfl; cases e
      subst hl
      exact own _ (OwnB.nil _ _ _) he
    | some ad =>
      obtain ⟨i, hi, hz, hsz, hby⟩ := info_parts info_bind
      obtain ⟨us, hul, hut, huc⟩ := hR.rowB.flat6
      have hf := ownB_six hul hut
      obtain ⟨vs, hvl, hvt, hvc⟩ := (RowB.one (P := (· < base)) hg hs ht).flat6
      have hg6 := ownB_six hvl hvt
      obtain ⟨v', w', hr, h2, h3⟩ := run_append_arg_grows (P := Tryz.prog) w 45 o.type 61 i _ 6 88 Tryz.underlying45 hi hz hsz hby rfl (by decide) ad l.length l.length (flatN us) (by rw [flat_length6 hf, hul]) huc ⟨g, 0, none⟩ 1 1 (flatN vs) (by rw [flat_length6 hg6, hvl]; rfl) hvc (by omega) (by unfold maxLen; omega) (by omega)
      unfold Oper.wp execOp
      simp only [ho, resolve, invoke, builtin, Sem.run_bind, Sem.run_pure, Result.andThen_ok, List.map_toArray, List.map_cons, List.map_nil, he, hx, hr]
      have keepP : ∀ b, b < base → w'.heap[b]? = w.heap[b]? := fun b hb => h3.block b (Nat.lt_of_lt_of_le hb hbase) (fun e => by cases e)
      refine h _ _ (OwnB.low (base := w.heap.size) ⟨us ++ vs, ?_, by simp [hul, hvl], fun j z hj => ?_⟩ hbase) (Mod.grown h3 (fun _ _ e => by cases e))
      · rw [List.length_append, flat_appendN]; exact h2
      · rw [List.getElem?_append] at hj
        split at hj
        · obtain ⟨u, hu', hT⟩ := hut j z hj
          exact ⟨u, by rw [List.getElem?_append_left (by omega)]; exact hu', hT.keep keepP (fun _ h => h)⟩
        · obtain ⟨u, hu', hT⟩ := hvt _ z hj
          exact ⟨u, by rw [List.getElem?_append_right (by omega), hul]; exact hu', hT.keep keepP (fun _ h => h)⟩
  · exact own v hO he
end
theorem MapB.snoc {n0 : Nat} {w0 : World} {es2 : Array MapEntry} {l : List Bd} {f : ByteArray → Option Value} {s : ByteArray} {t : Tm} {k n : Int} {ts tu : ByteArray} {TA : Option Addr} {tm tc : Nat}
    (hF : ∀ s, (∀ y, findB l s = some y → ∃ k n ts tt A m c, f s = some (.agg #[.int .i8 k, .int .i64 n, .string ts, .string tt, .slice A m c]) ∧ TmAt (· < n0) w0 y (.agg #[.int .i8 k, .int .i64 n, .string ts, .string tt, .slice A m c])) ∧ (findB l s = none → f s = none))
    (hfd : findB l s = none) (hT2 : MapT es2 (fun q => if q = s then some (.agg #[.int .i8 k, .int .i64 n, .string ts, .string tu, .slice TA tm tc]) else f q)) (hT : TmAt (· < n0) w0 t (.agg #[.int .i8 k, .int .i64 n, .string ts, .string tu, .slice TA tm tc])) : MapB n0 w0 es2 (l ++ [(s, t)]) := by
  refine ⟨_, hT2, fun q => ?_⟩
  have h1 := hF q
  have h2 := findB_snoc l (s, t) q
  dsimp only at h2
  by_cases e9 : q = s
  · subst e9
    rw [hfd] at h2
    dsimp only at h2
    rw [if_pos rfl] at h2
    rw [h2, if_pos rfl]
    exact ⟨(fun y hy => by cases hy; exact ⟨_, _, _, _, _, _, _, rfl, hT⟩), (fun h => by cases h)⟩
  · rw [if_neg e9, h2]
    cases hs9 : findB l q with
    | some z =>
      rw [hs9] at h1
      exact ⟨(fun y hy => by cases hy; exact h1.1 z rfl), (fun h => by cases h)⟩
    | none =>
      rw [hs9] at h1
      dsimp only
      rw [if_neg (fun e => e9 e.symm)]
      exact ⟨(fun y hy => by cases hy), (fun _ => h1.2 rfl)⟩
def KeptM (w w' : World) : Prop := ∀ (k : Nat) (c : Array Value) (ty : TypeId) (fz : Nat × Nat), w.heap[k]? = some (.cells c ty fz) → ty ≠ 61 → ty ≠ 118 → w'.heap[k]? = some (.cells c ty fz)
theorem KeptM.trans {a b c : World} (h : KeptM a b) (g : KeptM b c) : KeptM a c := fun k x ty fz hk h1 h2 => g k x ty fz (h k x ty fz hk h1 h2) h1 h2
theorem KeptM.of_below {a b : World} (h : Below a.heap.size a b) : KeptM a b := fun k x ty fz hk _ _ => (h.block k (heap_lt hk)).trans hk
def PostM (base : Nat) (W0 : World) (X M mb : Nat) (w : World) (r : Option (List Bd)) (e : Ending) (w' : World) : Prop :=
  ∃ (b : Bool) (l' : List Bd), e = .returned (.bool b) ∧ MAt base W0 X M mb l' w' ∧ r = (if b = true then some l' else none) ∧ KeptM w w'
theorem goP_var (n : Int) (s u : ByteArray) (ps : List Tm) (t : Tm) (l : List Bd) : goP (.mk 5 n s u ps) t l = if s.data.toList = [95] then some l else match findB l s with | some x => if ordN x t = 0 then some l else none | none => some (l ++ [(s, t)]) := by
  rw [goP, if_pos rfl]
  cases findB l s <;> rfl
set_option maxHeartbeats 16000000 in
set_option maxRecDepth 100000 in
theorem mvar_any (base : Nat) (W0 : World) (X M mb : Nat) (l : List Bd) (k n : Int) (s u : ByteArray) (ps : List Tm) (NA : Option Addr) (nm nc : Nat) (t : Tm) (tk tn : Int) (ts tu : ByteArray) (TA : Option Addr) (tm tc : Nat) (W : World)
    (hM : MAt base W0 X M mb l W) (hs : s.size ≤ maxLen) (hT : TmAt (· < base) W0 t (.agg #[.int .i8 tk, .int .i64 tn, .string ts, .string tu, .slice TA tm tc])) (hc : checkN t = 0) (hmany : l.length + 1 ≤ 1000000) :
    Calls Tryz.prog 135 #[.pointer (some ⟨X, 0, none⟩), .agg #[.int .i8 k, .int .i64 n, .string s, .string u, .slice NA nm nc], .agg #[.int .i8 tk, .int .i64 tn, .string ts, .string tu, .slice TA tm tc]] W (PostM base W0 X M mb W (goP (.mk 5 n s u ps) t l)) := by
  obtain ⟨R, hR⟩ : ∃ R, R = goP (.mk 5 n s u ps) t l := ⟨_, rfl⟩
  rw [← hR]
  rw [goP_var] at hR
  have g0 := there_of (.cells #[.int .i8 tk, .int .i64 tn, .string ts, .string tu, .slice TA tm tc] 44) (block_alloc W (.cells #[.int .i8 k, .int .i64 n, .string s, .string u, .slice NA nm nc] 25))
  have g1 := block_alloc (W.alloc (.cells #[.int .i8 k, .int .i64 n, .string s, .string u, .slice NA nm nc] 25)) (.cells #[.int .i8 tk, .int .i64 tn, .string ts, .string tu, .slice TA tm tc] 44)
  rw [World.size_alloc] at g1
  have b2 : Below W.heap.size W ((W.alloc (.cells #[.int .i8 k, .int .i64 n, .string s, .string u, .slice NA nm nc] 25)).alloc (.cells #[.int .i8 tk, .int .i64 tn, .string ts, .string tu, .slice TA tm tc] 44)) := ((Below.refl _ W).alloc (Nat.le_refl _) _).alloc (by simp) _
  obtain ⟨W2, hW2⟩ : ∃ W2, W2 = (W.alloc (.cells #[.int .i8 k, .int .i64 n, .string s, .string u, .slice NA nm nc] 25)).alloc (.cells #[.int .i8 tk, .int .i64 tn, .string ts, .string tu, .slice TA tm tc] 44) := ⟨_, rfl⟩
  rw [← hW2] at g0 g1 b2
  have hM2 := hM.under b2
  have HM2 := Lib.hid hM2
  have HB2 := Lib.hid b2
  have HG0 := Lib.hid g0
  have HG1 := Lib.hid g1
  have HT := Lib.hid hT
  have HC := Lib.hid hc
  have HS := Lib.hid hs
  have HMANY : Hid (l.length + 1 ≤ 1000000) := hmany
  have HGE : Hid (base ≤ W.heap.size) := Nat.le_trans hM.size hM.below.size
  obtain ⟨x0, x1, x2, x3, x4⟩ := five_of g0
  obtain ⟨y0, y1, y2, y3, y4⟩ := five_of g1
  clear g0 g1 b2 hM hM2 hT hc hs hmany
  have hte : (s.toList == [95]) = (s.data.toList == [95]) := by rw [ByteArray.toList_eq]
  by_cases hu : s.data.toList = [95]
  case pos =>
    rw [if_pos hu] at hR
    have HRES := Lib.hid hR
    clear hR
    have hub : (s.toList == [95]) = true := hte.trans (beq_iff_eq.2 hu)
    clear hu hte
    go_enter Tryz.func135, Tryz.ntmps135
    go_upto_region 1 with fail
    rw [← hW2]
    clear hW2
    go_wp2_with fail
    go_ret
    exact ⟨true, l, rfl, HM2.out, HRES.out, KeptM.of_below HB2.out⟩
  rw [if_neg hu] at hR
  have hub : (s.toList == [95]) = false := hte.trans (beq_eq_false_iff_ne.2 hu)
  clear hu hte
  obtain ⟨vv, hbx, hnm⟩ := HM2.out.box
  obtain ⟨es, mc, hmp, f, hMT, hF⟩ := HM2.out.map
  have HBX := Lib.hid hbx
  have HNM := Lib.hid hnm
  have HMP := Lib.hid hmp
  have HMT := Lib.hid hMT
  have HF := Lib.hid hF
  clear hbx hnm hmp hMT hF
  have HRES := Lib.hid hR
  clear hR
  go_enter Tryz.func135, Tryz.ntmps135
  go_upto_region 1 with fail
  rw [← hW2]
  clear hW2
  go_upto_region 3 with fail
  clear x0 x1 x2 x3 x4 y0 y1 y2 y3 y4
  have hcase : (∃ z, findB l s = some z) ∨ findB l s = none := by cases findB l s; exact .inr rfl; exact .inl ⟨_, rfl⟩
  rcases hcase with ⟨z, hfd⟩ | hfd
  · obtain ⟨hk, hn, hs, hu, hA, hm, hc, hfz, hTz⟩ := (HF.out s).1 z hfd
    have HTZ := Lib.hid hTz
    have HFZ := Lib.hid hfz
    have HFD := Lib.hid hfd
    have HR2 : Hid (R = if ordN z t = 0 then some l else none) := by show _ = _; rw [HRES.out, hfd]
    clear hfz hTz hfd
    refine wp_region_held (S := fun V => Below W2.heap.size W2 V) (by kernel_rfl) ?_
    show wpAnyH _ _ _ _ _ _ _ _ W2.drew
    have hS : Below W2.heap.size W2 W2.drew := ⟨rfl, rfl, rfl, Nat.le_refl _, fun _ _ => rfl⟩
    generalize W2.drew = V0 at hS ⊢
    refine wpAnyH_take (i := 0) (oi := ⟨some 13, _, _, _, _, _⟩) (v := ?_) rfl (by kernel_rfl) (by kernel_rfl) (by kernel_rfl) (fun _ _ _ h => h) (Or.inl ⟨by kernel_rfl, ?_⟩) (by assumption) ?_; rotate_left; (intro VV hSw; (try dsimp only at hSw); go_simp; first | done | with_reducible rfl); (try simp only [Act.put, sI, sZ, sS])
    refine wpAnyH_take (i := 1) (oi := ⟨some 14, _, _, _, _, _⟩) (v := ?_) rfl (by kernel_rfl) (by kernel_rfl) (by kernel_rfl) (fun _ _ _ h => h) (Or.inl ⟨by kernel_rfl, ?_⟩) (by assumption) ?_; rotate_left; (intro VV hSw; (try dsimp only at hSw); go_simp; first | done | with_reducible rfl); (try simp only [Act.put, sI, sZ, sS])
    refine wpAnyH_take (i := 2) (oi := ⟨some 15, _, _, _, _, _⟩) (v := ?_) rfl (by kernel_rfl) (by kernel_rfl) (by kernel_rfl) (fun _ _ _ h => h) (Or.inl ⟨by kernel_rfl, ?_⟩) (by assumption) ?_; rotate_left; (intro VV hSw; (try dsimp only at hSw); go_simp; first | done | with_reducible rfl); (try simp only [Act.put, sI, sZ, sS])
    refine wpAnyH_take (i := 3) (oi := ⟨some 16, _, _, _, _, _⟩) (v := ?_) rfl (by kernel_rfl) (by kernel_rfl) (by kernel_rfl) (fun _ _ _ h => h) (Or.inl ⟨by kernel_rfl, ?_⟩) (by assumption) ?_; rotate_left; (intro VV hSw; (try dsimp only at hSw); have hr := (hSw.block _ (heap_lt HBX.out)).trans HBX.out; have q1 : VV.cell? ⟨X, 1, none⟩ = some (.map (some mb)) := cell_of_row (i := 1) hr rfl; go_simp; first | done | with_reducible rfl); (try simp only [Act.put, sI, sZ, sS])
    refine wpAnyH_take (i := 4) (oi := ⟨some 17, _, _, _, _, _⟩) (v := ?_) rfl (by kernel_rfl) (by kernel_rfl) (by kernel_rfl) (fun _ _ _ h => h) (Or.inl ⟨by kernel_rfl, ?_⟩) (by assumption) ?_; rotate_left; (intro VV hSw; (try dsimp only at hSw); go_simp; first | done | with_reducible rfl); (try simp only [Act.put, sI, sZ, sS])
    refine wpAnyH_take (i := 5) (oi := ⟨some 18, _, _, _, _, _⟩) (v := ?_) rfl (by kernel_rfl) (by kernel_rfl) (by kernel_rfl) (fun _ _ _ h => h) (Or.inl ⟨by kernel_rfl, ?_⟩) (by assumption) ?_; rotate_left; (intro VV hSw; (try dsimp only at hSw); have hr := (hSw.block _ (heap_lt HG0.out)).trans HG0.out; have q2 : VV.cell? ⟨W.heap.size, 2, none⟩ = some (.string s) := cell_of_row (i := 2) hr rfl; go_simp; first | done | with_reducible rfl); (try simp only [Act.put, sI, sZ, sS])
    refine wpAnyH_take (i := 6) (oi := ⟨some 19, _, _, _, _, _⟩) (v := ?_) rfl (by kernel_rfl) (by kernel_rfl) (by kernel_rfl) (fun _ _ _ h => h) (Or.inl ⟨by kernel_rfl, ?_⟩) (by assumption) ?_; rotate_left; (intro VV hSw; (try dsimp only at hSw); have hm := (hSw.block _ (heap_lt HMP.out)).trans HMP.out; have hlk := HMT.out.hit (t := 114) Tryz.underlying114 Tryz.underlying9 VV mb mc hm HFZ.out; go_simp; first | done | with_reducible rfl); (try simp only [Act.put, sI, sZ, sS])
    refine wpAnyH_take (i := 7) (oi := ⟨some 12, _, _, _, _, _⟩) (v := ?_) rfl (by kernel_rfl) (by kernel_rfl) (by kernel_rfl) (fun _ _ _ h => h) (Or.inl ⟨by kernel_rfl, ?_⟩) (by assumption) ?_; rotate_left; (intro VV hSw; (try dsimp only at hSw); go_simp; first | done | with_reducible rfl); (try simp only [Act.put, sI, sZ, sS])
    refine wpAnyH_take (i := 8) (oi := ⟨some 20, _, _, _, _, _⟩) (v := ?_) rfl (by kernel_rfl) (by kernel_rfl) (by kernel_rfl) (fun _ _ _ h => h) (Or.inl ⟨by kernel_rfl, ?_⟩) (by assumption) ?_; rotate_left; (intro VV hSw; (try dsimp only at hSw); go_simp; first | done | with_reducible rfl); (try simp only [Act.put, sI, sZ, sS])
    refine wpAnyH_take (i := 9) (oi := ⟨some 21, _, _, _, _, _⟩) (v := ?_) rfl (by kernel_rfl) (by kernel_rfl) (by kernel_rfl) (fun _ _ _ h => h) (Or.inl ⟨by kernel_rfl, ?_⟩) (by assumption) ?_; rotate_left; (intro VV hSw; (try dsimp only at hSw); go_simp; first | done | with_reducible rfl); (try simp only [Act.put, sI, sZ, sS])
    refine wpAnyH_ready (rs := [10]) (by kernel_rfl) (by simp) ?_
    refine AllReadyH.cons (o := ⟨some 7, _, _, _, _, _⟩) rfl (fun K hK => ?_) AllReadyH.nil
    · rw [if_pos (by rfl)]
      go_simp
      have hga := block_alloc V0 (.cells #[.int .i8 0, .int .i64 0, .string ⟨#[]⟩, .string ⟨#[]⟩, .slice none 0 0] 44)
      have hS1 := hS.alloc hS.size (.cells #[.int .i8 0, .int .i64 0, .string ⟨#[]⟩, .string ⟨#[]⟩, .slice none 0 0] 44)
      have hge : W2.heap.size ≤ V0.heap.size := hS.size
      obtain ⟨ga, hgae⟩ : ∃ ga, ga = V0.heap.size := ⟨_, rfl⟩
      rw [← hgae] at hga hge
      refine hK.out _ _ hS1 (fun hSn => ?_)
      clear hK K hSn; (try simp only [Act.put, sI, sZ, sS])
      rw [← hgae]
      generalize V0.alloc (.cells #[.int .i8 0, .int .i64 0, .string ⟨#[]⟩, .string ⟨#[]⟩, .slice none 0 0] 44) = V1 at hga hS1 ⊢
      clear hgae hS
      obtain ⟨⟨z0, z1, z2, z3, z4⟩, zf0, zf1, zf2, zf3, zf4⟩ := five_fr hga
      obtain ⟨s5, m5⟩ := set_five (.int .i8 hk) (.int .i64 hn) (.string hs) (.string hu) (.slice hA hm hc) hga
      refine wpAnyH_ready (rs := [11]) (by kernel_rfl) (by simp) ?_
      refine AllReadyH.cons (o := ⟨none, _, _, _, _, _⟩) rfl (fun K hK => ?_) AllReadyH.nil
      · rw [if_pos (by rfl)]
        go_simp
        generalize ((((((V1).setCell ⟨ga, 0, none⟩ (.int .i8 hk)).setCell ⟨ga, 1, none⟩ (.int .i64 hn)).setCell ⟨ga, 2, none⟩ (.string hs)).setCell ⟨ga, 3, none⟩ (.string hu)).setCell ⟨ga, 4, none⟩ (.slice hA hm hc)) = V2 at s5 m5 ⊢
        have hS9 : Below W2.heap.size W2 V2 := hS1.trans (m5.below hS1.size (fun q (e : q = _) => by omega))
        refine hK.out _ _ hS9 (fun hSn => ?_)
        clear hK K hSn z0 zf0 z1 zf1 z2 zf2 z3 zf3 z4 zf4; (try simp only [Act.put, sI, sZ, sS])
        refine wpAnyH_take (i := 12) (oi := ⟨some 8, _, _, _, _, _⟩) (v := ?_) rfl (by kernel_rfl) (by kernel_rfl) (by kernel_rfl) (fun _ _ _ h => h) (Or.inl ⟨by kernel_rfl, ?_⟩) (by assumption) ?_; rotate_left; (intro VV hSw; (try dsimp only at hSw); go_simp; first | done | with_reducible rfl); (try simp only [Act.put, sI, sZ, sS])
        refine wpAnyH_done (by kernel_rfl) ?_ _
        have HV2 := Lib.hid hS9
        have HGA := Lib.hid s5
        clear hS1 hga hge m5 s5 hS9
        have HMV := Lib.hid (HM2.out.under HV2.out)
        have gt := (HV2.out.block _ (heap_lt HG1.out)).trans HG1.out
        have ga9 := HGA.out
        obtain ⟨y0, y1, y2, y3, y4⟩ := five_of ga9
        obtain ⟨x0, x1, x2, x3, x4⟩ := five_of gt
        clear gt ga9
        have hTV : TmAt (· < V2.heap.size) V2 t (.agg #[.int .i8 tk, .int .i64 tn, .string ts, .string tu, .slice TA tm tc]) := HT.out.keep (fun b (hb : b < base) => HMV.out.below.block b hb) (fun b (hb : b < base) => by have := HMV.out.size; have := HMV.out.below.size; show b < _; omega)
        have hZV : TmAt (· < V2.heap.size) V2 z (.agg #[.int .i8 hk, .int .i64 hn, .string hs, .string hu, .slice hA hm hc]) := HTZ.out.keep (fun b (hb : b < base) => HMV.out.below.block b hb) (fun b (hb : b < base) => by have := HMV.out.size; have := HMV.out.below.size; show b < _; omega)
        have HCC := Lib.hid (TCompare_any z t _ _ V2 hZV hTV HMV.out.spans)
        have HCN : Hid (compN z t = ordN z t) := if_pos ⟨HM2.out.ok (s, z) (findB_mem HFD.out), HC.out⟩
        clear hTV hZV
        go_wp2_with fail
        refine HCC.out.mono ?_
        rintro e V3 ⟨rfl, b3⟩
        rw [HCN.out]
        have HM3 := Lib.hid (HMV.out.under b3)
        have HKK : Hid (KeptM W V3) := ((KeptM.of_below HB2.out).trans (KeptM.of_below HV2.out)).trans (KeptM.of_below b3)
        clear b3 x0 x1 x2 x3 x4 y0 y1 y2 y3 y4
        go_wp2_with fail
        go_ret
        refine ⟨_, l, rfl, HM3.out, ?_, HKK.out⟩
        rw [HR2.out]
        by_cases h0 : ordN z t = 0
        · rw [if_pos h0, if_pos (by simp [h0])]
        · rw [if_neg h0, if_neg (by simp [h0])]
  · have HFD := Lib.hid hfd
    have HR2 : Hid (R = some (l ++ [(s, t)])) := by show _ = _; rw [HRES.out, hfd]
    clear hfd
    refine wp_region_held (S := fun V => Below W2.heap.size W2 V) (by kernel_rfl) ?_
    show wpAnyH _ _ _ _ _ _ _ _ W2.drew
    have hS : Below W2.heap.size W2 W2.drew := ⟨rfl, rfl, rfl, Nat.le_refl _, fun _ _ => rfl⟩
    generalize W2.drew = V0 at hS ⊢
    refine wpAnyH_take (i := 0) (oi := ⟨some 13, _, _, _, _, _⟩) (v := ?_) rfl (by kernel_rfl) (by kernel_rfl) (by kernel_rfl) (fun _ _ _ h => h) (Or.inl ⟨by kernel_rfl, ?_⟩) (by assumption) ?_; rotate_left; (intro VV hSw; (try dsimp only at hSw); go_simp; first | done | with_reducible rfl); (try simp only [Act.put, sI, sZ, sS])
    refine wpAnyH_take (i := 1) (oi := ⟨some 14, _, _, _, _, _⟩) (v := ?_) rfl (by kernel_rfl) (by kernel_rfl) (by kernel_rfl) (fun _ _ _ h => h) (Or.inl ⟨by kernel_rfl, ?_⟩) (by assumption) ?_; rotate_left; (intro VV hSw; (try dsimp only at hSw); go_simp; first | done | with_reducible rfl); (try simp only [Act.put, sI, sZ, sS])
    refine wpAnyH_take (i := 2) (oi := ⟨some 15, _, _, _, _, _⟩) (v := ?_) rfl (by kernel_rfl) (by kernel_rfl) (by kernel_rfl) (fun _ _ _ h => h) (Or.inl ⟨by kernel_rfl, ?_⟩) (by assumption) ?_; rotate_left; (intro VV hSw; (try dsimp only at hSw); go_simp; first | done | with_reducible rfl); (try simp only [Act.put, sI, sZ, sS])
    refine wpAnyH_take (i := 3) (oi := ⟨some 16, _, _, _, _, _⟩) (v := ?_) rfl (by kernel_rfl) (by kernel_rfl) (by kernel_rfl) (fun _ _ _ h => h) (Or.inl ⟨by kernel_rfl, ?_⟩) (by assumption) ?_; rotate_left; (intro VV hSw; (try dsimp only at hSw); have hr := (hSw.block _ (heap_lt HBX.out)).trans HBX.out; have q1 : VV.cell? ⟨X, 1, none⟩ = some (.map (some mb)) := cell_of_row (i := 1) hr rfl; go_simp; first | done | with_reducible rfl); (try simp only [Act.put, sI, sZ, sS])
    refine wpAnyH_take (i := 4) (oi := ⟨some 17, _, _, _, _, _⟩) (v := ?_) rfl (by kernel_rfl) (by kernel_rfl) (by kernel_rfl) (fun _ _ _ h => h) (Or.inl ⟨by kernel_rfl, ?_⟩) (by assumption) ?_; rotate_left; (intro VV hSw; (try dsimp only at hSw); go_simp; first | done | with_reducible rfl); (try simp only [Act.put, sI, sZ, sS])
    refine wpAnyH_take (i := 5) (oi := ⟨some 18, _, _, _, _, _⟩) (v := ?_) rfl (by kernel_rfl) (by kernel_rfl) (by kernel_rfl) (fun _ _ _ h => h) (Or.inl ⟨by kernel_rfl, ?_⟩) (by assumption) ?_; rotate_left; (intro VV hSw; (try dsimp only at hSw); have hr := (hSw.block _ (heap_lt HG0.out)).trans HG0.out; have q2 : VV.cell? ⟨W.heap.size, 2, none⟩ = some (.string s) := cell_of_row (i := 2) hr rfl; go_simp; first | done | with_reducible rfl); (try simp only [Act.put, sI, sZ, sS])
    refine wpAnyH_take (i := 6) (oi := ⟨some 19, _, _, _, _, _⟩) (v := ?_) rfl (by kernel_rfl) (by kernel_rfl) (by kernel_rfl) (fun _ _ _ h => h) (Or.inl ⟨by kernel_rfl, ?_⟩) (by assumption) ?_; rotate_left; (intro VV hSw; (try dsimp only at hSw); have hm := (hSw.block _ (heap_lt HMP.out)).trans HMP.out; have hlk := HMT.out.miss (t := 114) Tryz.underlying114 Tryz.underlying9 VV mb mc hm zeroTerm ((HF.out s).2 HFD.out); go_simp; first | done | with_reducible rfl); (try simp only [Act.put, sI, sZ, sS])
    refine wpAnyH_take (i := 7) (oi := ⟨some 12, _, _, _, _, _⟩) (v := ?_) rfl (by kernel_rfl) (by kernel_rfl) (by kernel_rfl) (fun _ _ _ h => h) (Or.inl ⟨by kernel_rfl, ?_⟩) (by assumption) ?_; rotate_left; (intro VV hSw; (try dsimp only at hSw); go_simp; first | done | with_reducible rfl); (try simp only [Act.put, sI, sZ, sS])
    refine wpAnyH_take (i := 8) (oi := ⟨some 20, _, _, _, _, _⟩) (v := ?_) rfl (by kernel_rfl) (by kernel_rfl) (by kernel_rfl) (fun _ _ _ h => h) (Or.inl ⟨by kernel_rfl, ?_⟩) (by assumption) ?_; rotate_left; (intro VV hSw; (try dsimp only at hSw); go_simp; first | done | with_reducible rfl); (try simp only [Act.put, sI, sZ, sS])
    refine wpAnyH_take (i := 9) (oi := ⟨some 21, _, _, _, _, _⟩) (v := ?_) rfl (by kernel_rfl) (by kernel_rfl) (by kernel_rfl) (fun _ _ _ h => h) (Or.inl ⟨by kernel_rfl, ?_⟩) (by assumption) ?_; rotate_left; (intro VV hSw; (try dsimp only at hSw); go_simp; first | done | with_reducible rfl); (try simp only [Act.put, sI, sZ, sS])
    refine wpAnyH_ready (rs := [10]) (by kernel_rfl) (by simp) ?_
    refine AllReadyH.cons (o := ⟨some 7, _, _, _, _, _⟩) rfl (fun K hK => ?_) AllReadyH.nil
    · rw [if_pos (by rfl)]
      go_simp
      have hga := block_alloc V0 (.cells #[.int .i8 0, .int .i64 0, .string ⟨#[]⟩, .string ⟨#[]⟩, .slice none 0 0] 44)
      have hS1 := hS.alloc hS.size (.cells #[.int .i8 0, .int .i64 0, .string ⟨#[]⟩, .string ⟨#[]⟩, .slice none 0 0] 44)
      have hge : W2.heap.size ≤ V0.heap.size := hS.size
      obtain ⟨ga, hgae⟩ : ∃ ga, ga = V0.heap.size := ⟨_, rfl⟩
      rw [← hgae] at hga hge
      refine hK.out _ _ hS1 (fun hSn => ?_)
      clear hK K hSn; (try simp only [Act.put, sI, sZ, sS])
      rw [← hgae]
      generalize V0.alloc (.cells #[.int .i8 0, .int .i64 0, .string ⟨#[]⟩, .string ⟨#[]⟩, .slice none 0 0] 44) = V1 at hga hS1 ⊢
      clear hgae hS
      obtain ⟨⟨z0, z1, z2, z3, z4⟩, zf0, zf1, zf2, zf3, zf4⟩ := five_fr hga
      obtain ⟨s5, m5⟩ := set_five (.int .i8 0) (.int .i64 0) (.string ⟨#[]⟩) (.string ⟨#[]⟩) (.slice none 0 0) hga
      refine wpAnyH_ready (rs := [11]) (by kernel_rfl) (by simp) ?_
      refine AllReadyH.cons (o := ⟨none, _, _, _, _, _⟩) rfl (fun K hK => ?_) AllReadyH.nil
      · rw [if_pos (by rfl)]
        go_simp
        generalize ((((((V1).setCell ⟨ga, 0, none⟩ (.int .i8 0)).setCell ⟨ga, 1, none⟩ (.int .i64 0)).setCell ⟨ga, 2, none⟩ (.string ⟨#[]⟩)).setCell ⟨ga, 3, none⟩ (.string ⟨#[]⟩)).setCell ⟨ga, 4, none⟩ (.slice none 0 0)) = V2 at s5 m5 ⊢
        have hS9 : Below W2.heap.size W2 V2 := hS1.trans (m5.below hS1.size (fun q (e : q = _) => by omega))
        refine hK.out _ _ hS9 (fun hSn => ?_)
        clear hK K hSn z0 zf0 z1 zf1 z2 zf2 z3 zf3 z4 zf4; (try simp only [Act.put, sI, sZ, sS])
        refine wpAnyH_take (i := 12) (oi := ⟨some 8, _, _, _, _, _⟩) (v := ?_) rfl (by kernel_rfl) (by kernel_rfl) (by kernel_rfl) (fun _ _ _ h => h) (Or.inl ⟨by kernel_rfl, ?_⟩) (by assumption) ?_; rotate_left; (intro VV hSw; (try dsimp only at hSw); go_simp; first | done | with_reducible rfl); (try simp only [Act.put, sI, sZ, sS])
        refine wpAnyH_done (by kernel_rfl) ?_ _
        have HV2 := Lib.hid hS9
        have HGA := Lib.hid s5
        clear hS1 hga hge m5 s5 hS9
        have HMV := Lib.hid (HM2.out.under HV2.out)
        have hbx2 := (HV2.out.block _ (heap_lt HBX.out)).trans HBX.out
        have hm2 := (HV2.out.block _ (heap_lt HMP.out)).trans HMP.out
        have hp2 := (HV2.out.block _ (heap_lt HG0.out)).trans HG0.out
        have ht2 := (HV2.out.block _ (heap_lt HG1.out)).trans HG1.out
        have hr2 := (HV2.out.block _ (heap_lt HM2.out.ptr)).trans HM2.out.ptr
        have hn2 : NmAt base V2 vv l := HNM.out.keep (F := fun _ => False) (Mod.of_below HV2.out) (Nat.le_trans HM2.out.size HM2.out.below.size) (fun _ _ f => f) (fun _ _ _ _ f => f)
        have HMVB := Lib.hid HMV.out.below
        go_upto_region 6 with fail
        refine wp_region_held (S := fun V => V.heap[W.heap.size]? = some (.cells #[.int .i8 k, .int .i64 n, .string s, .string u, .slice NA nm nc] 25 (0, 0)) ∧ V.heap[W.heap.size + 1]? = some (.cells #[.int .i8 tk, .int .i64 tn, .string ts, .string tu, .slice TA tm tc] 44 (0, 0)) ∧ V.heap[X]? = some (.cells (mRow vv mb X M) 118 (0, 0))) (by kernel_rfl) ?_
        show wpAnyH _ _ _ _ _ _ _ _ V2.drew
        have hS : V2.drew.heap[W.heap.size]? = some (.cells #[.int .i8 k, .int .i64 n, .string s, .string u, .slice NA nm nc] 25 (0, 0)) ∧ V2.drew.heap[W.heap.size + 1]? = some (.cells #[.int .i8 tk, .int .i64 tn, .string ts, .string tu, .slice TA tm tc] 44 (0, 0)) ∧ V2.drew.heap[X]? = some (.cells (mRow vv mb X M) 118 (0, 0)) := ⟨hp2, ht2, hbx2⟩
        have hmD : V2.drew.heap[mb]? = some (.map es mc) := hm2
        have hrD : V2.drew.heap[M]? = some (.cells #[.pointer (some ⟨X, 0, none⟩)] 110 (0, 0)) := hr2
        have hnD : NmAt base V2.drew vv l := hn2.keep (F := fun _ => False) ⟨rfl, rfl, rfl, Nat.le_refl _, fun _ _ _ => rfl⟩ (Nat.le_trans HMV.out.size HMV.out.below.size) (fun _ _ f => f) (fun _ _ _ _ f => f)
        have hbD : Below base W0 V2.drew := HMVB.out.trans ⟨rfl, rfl, rfl, Nat.le_refl _, fun _ _ => rfl⟩
        have hkV : KeptM W V2 := (KeptM.of_below HB2.out).trans (KeptM.of_below HV2.out)
        have hkD : KeptM W V2.drew := hkV
        clear hkV
        generalize V2.drew = D at hS hmD hrD hnD hbD hkD ⊢
        clear hbx2 hm2 hp2 ht2 hr2 hn2 HMV HV2 HGA
        refine wpAnyH_take (i := 0) (oi := ⟨some 27, _, _, _, _, _⟩) (v := ?_) rfl (by kernel_rfl) (by kernel_rfl) (by kernel_rfl) (fun _ _ _ h => h) (Or.inl ⟨by kernel_rfl, ?_⟩) (by assumption) ?_; rotate_left; (intro VV hSw; (try dsimp only at hSw); go_simp; first | done | with_reducible rfl); (try simp only [Act.put, sI, sZ, sS])
        refine wpAnyH_take (i := 1) (oi := ⟨some 28, _, _, _, _, _⟩) (v := ?_) rfl (by kernel_rfl) (by kernel_rfl) (by kernel_rfl) (fun _ _ _ h => h) (Or.inl ⟨by kernel_rfl, ?_⟩) (by assumption) ?_; rotate_left; (intro VV hSw; (try dsimp only at hSw); go_simp; first | done | with_reducible rfl); (try simp only [Act.put, sI, sZ, sS])
        refine wpAnyH_take (i := 2) (oi := ⟨some 29, _, _, _, _, _⟩) (v := ?_) rfl (by kernel_rfl) (by kernel_rfl) (by kernel_rfl) (fun _ _ _ h => h) (Or.inl ⟨by kernel_rfl, ?_⟩) (by assumption) ?_; rotate_left; (intro VV hSw; (try dsimp only at hSw); go_simp; first | done | with_reducible rfl); (try simp only [Act.put, sI, sZ, sS])
        refine wpAnyH_take (i := 3) (oi := ⟨some 30, _, _, _, _, _⟩) (v := ?_) rfl (by kernel_rfl) (by kernel_rfl) (by kernel_rfl) (fun _ _ _ h => h) (Or.inl ⟨by kernel_rfl, ?_⟩) (by assumption) ?_; rotate_left; (intro VV hSw; (try dsimp only at hSw); have q1 : VV.cell? ⟨X, 1, none⟩ = some (.map (some mb)) := cell_of_row (i := 1) hSw.2.2 rfl; go_simp; first | done | with_reducible rfl); (try simp only [Act.put, sI, sZ, sS])
        refine wpAnyH_take (i := 4) (oi := ⟨some 31, _, _, _, _, _⟩) (v := ?_) rfl (by kernel_rfl) (by kernel_rfl) (by kernel_rfl) (fun _ _ _ h => h) (Or.inl ⟨by kernel_rfl, ?_⟩) (by assumption) ?_; rotate_left; (intro VV hSw; (try dsimp only at hSw); go_simp; first | done | with_reducible rfl); (try simp only [Act.put, sI, sZ, sS])
        refine wpAnyH_take (i := 5) (oi := ⟨some 32, _, _, _, _, _⟩) (v := ?_) rfl (by kernel_rfl) (by kernel_rfl) (by kernel_rfl) (fun _ _ _ h => h) (Or.inl ⟨by kernel_rfl, ?_⟩) (by assumption) ?_; rotate_left; (intro VV hSw; (try dsimp only at hSw); have q2 : VV.cell? ⟨W.heap.size, 2, none⟩ = some (.string s) := cell_of_row (i := 2) hSw.1 rfl; go_simp; first | done | with_reducible rfl); (try simp only [Act.put, sI, sZ, sS])
        refine wpAnyH_take (i := 6) (oi := ⟨some 33, _, _, _, _, _⟩) (v := ?_) rfl (by kernel_rfl) (by kernel_rfl) (by kernel_rfl) (fun _ _ _ h => h) (Or.inl ⟨by kernel_rfl, ?_⟩) (by assumption) ?_; rotate_left; (intro VV hSw; (try dsimp only at hSw); have y0 : VV.cell? ⟨W.heap.size + 1, 0, none⟩ = some (.int .i8 tk) := cell_of_row (i := 0) hSw.2.1 rfl; have y1 : VV.cell? ⟨W.heap.size + 1, 1, none⟩ = some (.int .i64 tn) := cell_of_row (i := 1) hSw.2.1 rfl; have y2 : VV.cell? ⟨W.heap.size + 1, 2, none⟩ = some (.string ts) := cell_of_row (i := 2) hSw.2.1 rfl; have y3 : VV.cell? ⟨W.heap.size + 1, 3, none⟩ = some (.string tu) := cell_of_row (i := 3) hSw.2.1 rfl; have y4 : VV.cell? ⟨W.heap.size + 1, 4, none⟩ = some (.slice TA tm tc) := cell_of_row (i := 4) hSw.2.1 rfl; go_simp; first | done | with_reducible rfl); (try simp only [Act.put, sI, sZ, sS])
        refine wpAnyH_ready (rs := [7]) (by kernel_rfl) (by simp) ?_
        refine AllReadyH.cons (o := ⟨none, _, _, _, _, _⟩) rfl (fun K hK => ?_) AllReadyH.nil
        · rw [if_pos (by rfl)]
          obtain ⟨es2, c2, hput, hT2⟩ := HMT.out.put (t := 114) Tryz.underlying114 Tryz.underlying9 D mb mc hmD s (.agg #[.int .i8 tk, .int .i64 tn, .string ts, .string tu, .slice TA tm tc])
          go_simp
          have m5 : Mod (fun q => q = mb) D (D.putObj mb (.map es2 c2)) := Mod.putObj D _ _ rfl
          have hmE : (D.putObj mb (.map es2 c2)).heap[mb]? = some (.map es2 c2) := World.putObj_heap_same (heap_lt hmD)
          clear hput
          have hne : ∀ (q : Nat) (c : Array Value) (ty : TypeId) (fz : Nat × Nat), D.heap[q]? = some (.cells c ty fz) → ¬ q = mb := fun q c ty fz hq e => by rw [e, hmD] at hq; cases hq
          generalize D.putObj mb (.map es2 c2) = E at m5 hmE ⊢
          have hS1 : E.heap[W.heap.size]? = some (.cells #[.int .i8 k, .int .i64 n, .string s, .string u, .slice NA nm nc] 25 (0, 0)) ∧ E.heap[W.heap.size + 1]? = some (.cells #[.int .i8 tk, .int .i64 tn, .string ts, .string tu, .slice TA tm tc] 44 (0, 0)) ∧ E.heap[X]? = some (.cells (mRow vv mb X M) 118 (0, 0)) := ⟨(m5.block _ (heap_lt hS.1) (hne _ _ _ _ hS.1)).trans hS.1, (m5.block _ (heap_lt hS.2.1) (hne _ _ _ _ hS.2.1)).trans hS.2.1, (m5.block _ (heap_lt hS.2.2) (hne _ _ _ _ hS.2.2)).trans hS.2.2⟩
          have hrE := (m5.block _ (heap_lt hrD) (hne _ _ _ _ hrD)).trans hrD
          have hgs := HM2.out.ge
          have hzD : base ≤ D.heap.size := by have := heap_lt hmD; omega
          have hnE : NmAt base E vv l := hnD.keep m5 hzD (fun b hb e => by omega) (fun hO g hg hb e => by
            obtain ⟨_, c, fz, hr⟩ := hO.isRow g hg
            exact hne _ _ _ _ hr e)
          have hkE : KeptM W E := hkD.trans (fun q c ty fz hq _ _ => (m5.block q (heap_lt hq) (hne q c ty fz hq)).trans hq)
          have hbE : Below base W0 E := hbD.trans (m5.below hzD (fun q (e : q = mb) => by omega))
          refine hK.out _ _ hS1 (fun hSn => ?_)
          clear hK K hSn; (try simp only [Act.put, sI, sZ, sS])
          refine wpAnyH_done (by kernel_rfl) ?_ _
          have hMBE : MapB base W0 es2 (l ++ [(s, t)]) := MapB.snoc HF.out HFD.out hT2 HT.out
          have hzE : base ≤ E.heap.size := Nat.le_trans hzD m5.size
          clear hS hmD hrD hnD hbD m5 hne hzD hT2 hgs
          have HRE := Lib.hid hrE
          have HME := Lib.hid hmE
          have HBE := Lib.hid hbE
          have HMBE := Lib.hid hMBE
          have HKE := Lib.hid hkE
          clear hrE hmE hbE hMBE hkE hkD
          go_upto_region 7 with fail
          refine wp_region_E (S := fun V => V.heap[W.heap.size]? = some (.cells #[.int .i8 k, .int .i64 n, .string s, .string u, .slice NA nm nc] 25 (0, 0)) ∧ V.heap[W.heap.size + 1]? = some (.cells #[.int .i8 tk, .int .i64 tn, .string ts, .string tu, .slice TA tm tc] 44 (0, 0)) ∧ V.heap[X]? = some (.cells (mRow vv mb X M) 118 (0, 0))) [13] (by kernel_rfl) hS1 (fun hS => ?_)
          have hnD : NmAt base E.drew vv l := hnE.keep (F := fun _ => False) ⟨rfl, rfl, rfl, Nat.le_refl _, fun _ _ _ => rfl⟩ hzE (fun _ _ f => f) (fun _ _ _ _ f => f)
          have hKD : ∀ (q : Nat) (o : Obj), E.heap[q]? = some o → E.drew.heap[q]? = some o := fun q o h => h
          have hBD : Below base E E.drew := ⟨rfl, rfl, rfl, Nat.le_refl _, fun _ _ => rfl⟩
          have hzD : base ≤ E.drew.heap.size := hzE
          generalize E.drew = D at hS hnD hKD hBD hzD ⊢
          clear hS1 hnE
          refine wpAnyE_take (i := 0) (oi := ⟨some 34, _, _, _, _, _⟩) (v := ?_) rfl (by kernel_rfl) (by kernel_rfl) (by kernel_rfl) (by kernel_rfl) (fun _ _ _ h => h) (Or.inl ⟨by kernel_rfl, ?_⟩) (by assumption) ?_; rotate_left; (intro VV hSw; (try dsimp only at hSw); go_simp; first | done | with_reducible rfl); (try simp only [Act.put, sI, sZ, sS])
          refine wpAnyE_take (i := 1) (oi := ⟨some 35, _, _, _, _, _⟩) (v := ?_) rfl (by kernel_rfl) (by kernel_rfl) (by kernel_rfl) (by kernel_rfl) (fun _ _ _ h => h) (Or.inl ⟨by kernel_rfl, ?_⟩) (by assumption) ?_; rotate_left; (intro VV hSw; (try dsimp only at hSw); go_simp; first | done | with_reducible rfl); (try simp only [Act.put, sI, sZ, sS])
          refine wpAnyE_take (i := 2) (oi := ⟨some 36, _, _, _, _, _⟩) (v := ?_) rfl (by kernel_rfl) (by kernel_rfl) (by kernel_rfl) (by kernel_rfl) (fun _ _ _ h => h) (Or.inl ⟨by kernel_rfl, ?_⟩) (by assumption) ?_; rotate_left; (intro VV hSw; (try dsimp only at hSw); go_simp; first | done | with_reducible rfl); (try simp only [Act.put, sI, sZ, sS])
          refine wpAnyE_take (i := 3) (oi := ⟨some 37, _, _, _, _, _⟩) (v := ?_) rfl (by kernel_rfl) (by kernel_rfl) (by kernel_rfl) (by kernel_rfl) (fun _ _ _ h => h) (Or.inl ⟨by kernel_rfl, ?_⟩) (by assumption) ?_; rotate_left; (intro VV hSw; (try dsimp only at hSw); go_simp; first | done | with_reducible rfl); (try simp only [Act.put, sI, sZ, sS])
          refine wpAnyE_take (i := 4) (oi := ⟨some 38, _, _, _, _, _⟩) (v := ?_) rfl (by kernel_rfl) (by kernel_rfl) (by kernel_rfl) (by kernel_rfl) (fun _ _ _ h => h) (Or.inl ⟨by kernel_rfl, ?_⟩) (by assumption) ?_; rotate_left; (intro VV hSw; (try dsimp only at hSw); have q1 : VV.cell? ⟨X, 0, none⟩ = some vv := cell_of_row (i := 0) hSw.2.2 rfl; go_simp; first | done | with_reducible rfl); (try simp only [Act.put, sI, sZ, sS])
          refine wpAnyE_take (i := 5) (oi := ⟨some 39, _, _, _, _, _⟩) (v := ?_) rfl (by kernel_rfl) (by kernel_rfl) (by kernel_rfl) (by kernel_rfl) (fun _ _ _ h => h) (Or.inl ⟨by kernel_rfl, ?_⟩) (by assumption) ?_; rotate_left; (intro VV hSw; (try dsimp only at hSw); go_simp; first | done | with_reducible rfl); (try simp only [Act.put, sI, sZ, sS])
          refine wpAnyE_take (i := 6) (oi := ⟨some 40, _, _, _, _, _⟩) (v := ?_) rfl (by kernel_rfl) (by kernel_rfl) (by kernel_rfl) (by kernel_rfl) (fun _ _ _ h => h) (Or.inl ⟨by kernel_rfl, ?_⟩) (by assumption) ?_; rotate_left; (intro VV hSw; (try dsimp only at hSw); have q2 : VV.cell? ⟨W.heap.size, 2, none⟩ = some (.string s) := cell_of_row (i := 2) hSw.1 rfl; go_simp; first | done | with_reducible rfl); (try simp only [Act.put, sI, sZ, sS])
          refine wpAnyE_take (i := 7) (oi := ⟨some 41, _, _, _, _, _⟩) (v := ?_) rfl (by kernel_rfl) (by kernel_rfl) (by kernel_rfl) (by kernel_rfl) (fun _ _ _ h => h) (Or.inl ⟨by kernel_rfl, ?_⟩) (by assumption) ?_; rotate_left; (intro VV hSw; (try dsimp only at hSw); have y0 : VV.cell? ⟨W.heap.size + 1, 0, none⟩ = some (.int .i8 tk) := cell_of_row (i := 0) hSw.2.1 rfl; have y1 : VV.cell? ⟨W.heap.size + 1, 1, none⟩ = some (.int .i64 tn) := cell_of_row (i := 1) hSw.2.1 rfl; have y2 : VV.cell? ⟨W.heap.size + 1, 2, none⟩ = some (.string ts) := cell_of_row (i := 2) hSw.2.1 rfl; have y3 : VV.cell? ⟨W.heap.size + 1, 3, none⟩ = some (.string tu) := cell_of_row (i := 3) hSw.2.1 rfl; have y4 : VV.cell? ⟨W.heap.size + 1, 4, none⟩ = some (.slice TA tm tc) := cell_of_row (i := 4) hSw.2.1 rfl; go_simp; first | done | with_reducible rfl); (try simp only [Act.put, sI, sZ, sS])
          refine wpAnyE_take (i := 8) (oi := ⟨some 42, _, _, _, _, _⟩) (v := ?_) rfl (by kernel_rfl) (by kernel_rfl) (by kernel_rfl) (by kernel_rfl) (fun _ _ _ h => h) (Or.inl ⟨by kernel_rfl, ?_⟩) (by assumption) ?_; rotate_left; (intro VV hSw; (try dsimp only at hSw); go_simp; first | done | with_reducible rfl); (try simp only [Act.put, sI, sZ, sS])
          refine wpAnyE_one (i := 9) (o := ⟨some 43, _, _, _, _, _⟩) (by kernel_rfl) rfl (fun K hK => ?_)
          rw [if_pos (by rfl)]
          go_simp
          have hg5 := block_alloc D (.cells #[.string s, .int .i8 tk, .int .i64 tn, .string ts, .string tu, .slice TA tm tc] 61)
          have bD : Below D.heap.size D (D.alloc (.cells #[.string s, .int .i8 tk, .int .i64 tn, .string ts, .string tu, .slice TA tm tc] 61)) := (Below.refl _ D).alloc (Nat.le_refl _) _
          have hS1 : (D.alloc (.cells #[.string s, .int .i8 tk, .int .i64 tn, .string ts, .string tu, .slice TA tm tc] 61)).heap[W.heap.size]? = some (.cells #[.int .i8 k, .int .i64 n, .string s, .string u, .slice NA nm nc] 25 (0, 0)) ∧ (D.alloc (.cells #[.string s, .int .i8 tk, .int .i64 tn, .string ts, .string tu, .slice TA tm tc] 61)).heap[W.heap.size + 1]? = some (.cells #[.int .i8 tk, .int .i64 tn, .string ts, .string tu, .slice TA tm tc] 44 (0, 0)) ∧ (D.alloc (.cells #[.string s, .int .i8 tk, .int .i64 tn, .string ts, .string tu, .slice TA tm tc] 61)).heap[X]? = some (.cells (mRow vv mb X M) 118 (0, 0)) := ⟨(bD.block _ (heap_lt hS.1)).trans hS.1, (bD.block _ (heap_lt hS.2.1)).trans hS.2.1, (bD.block _ (heap_lt hS.2.2)).trans hS.2.2⟩
          have hn1 : NmAt base (D.alloc (.cells #[.string s, .int .i8 tk, .int .i64 tn, .string ts, .string tu, .slice TA tm tc] 61)) vv l := hnD.keep (F := fun _ => False) (Mod.of_below bD) hzD (fun _ _ f => f) (fun _ _ _ _ f => f)
          have hK1 : ∀ (q : Nat) (o : Obj), E.heap[q]? = some o → (D.alloc (.cells #[.string s, .int .i8 tk, .int .i64 tn, .string ts, .string tu, .slice TA tm tc] 61)).heap[q]? = some o := fun q o h => (bD.block q (heap_lt (hKD q o h))).trans (hKD q o h)
          have hB1 : Below base E (D.alloc (.cells #[.string s, .int .i8 tk, .int .i64 tn, .string ts, .string tu, .slice TA tm tc] 61)) := hBD.trans (bD.mono hzD)
          have hz1 := Nat.le_trans hzD bD.size
          obtain ⟨g5, hg⟩ : ∃ g, g = D.heap.size := ⟨_, rfl⟩
          rw [← hg] at hg5
          refine hK.out _ _ hS1 (fun hSn => ?_)
          clear hK K hSn; (try simp only [Act.put, sI, sZ, sS])
          rw [← hg]
          clear hg bD
          generalize D.alloc (.cells #[.string s, .int .i8 tk, .int .i64 tn, .string ts, .string tu, .slice TA tm tc] 61) = D1 at hg5 hS1 hn1 hK1 hB1 hz1 ⊢
          clear hS hnD hKD hBD hzD
          refine wpAnyE_one (i := 10) (o := ⟨some 44, _, _, _, _, _⟩) (by kernel_rfl) rfl (fun K hK => ?_)
          rw [if_pos (by rfl)]
          have hTD : TmAt (· < base) D1 t (.agg #[.int .i8 tk, .int .i64 tn, .string ts, .string tu, .slice TA tm tc]) := HT.out.keep (fun b (hb : b < base) => (hB1.block b hb).trans (HBE.out.block b hb)) (fun _ h => h)
          refine wp_nm_bind (.tmp 38) (.tmp 43) rfl hn1 hz1 rfl g5 rfl hg5 HS.out hTD HMANY.out ?_
          intro v2 D2 O hm
          obtain ⟨nn2, A7, cap7, rfl⟩ : ∃ nn A c, v2 = .slice A nn c := by obtain ⟨A, c, e⟩ := O.shape; exact ⟨_, _, _, e⟩
          have hk2 : ∀ (q : Nat) (o : Obj), D1.heap[q]? = some o → (∀ c fz, o ≠ .cells c 61 fz) → D2.heap[q]? = some o := fun q o h ho => (hm.block q (heap_lt h) (fun f => by obtain ⟨_, c, fz, hr⟩ := f; rw [h] at hr; exact ho c fz (Option.some.inj hr))).trans h
          have hS2 : D2.heap[W.heap.size]? = some (.cells #[.int .i8 k, .int .i64 n, .string s, .string u, .slice NA nm nc] 25 (0, 0)) ∧ D2.heap[W.heap.size + 1]? = some (.cells #[.int .i8 tk, .int .i64 tn, .string ts, .string tu, .slice TA tm tc] 44 (0, 0)) ∧ D2.heap[X]? = some (.cells (mRow vv mb X M) 118 (0, 0)) := ⟨hk2 _ _ hS1.1 (fun c fz e => by injection e with _ e _; exact absurd e (by decide)), hk2 _ _ hS1.2.1 (fun c fz e => by injection e with _ e _; exact absurd e (by decide)), hk2 _ _ hS1.2.2 (fun c fz e => by injection e with _ e _; exact absurd e (by decide))⟩
          have hpt2 := hk2 _ _ (hK1 _ _ HRE.out) (fun c fz e => by injection e with _ e _; exact absurd e (by decide))
          have hmp2 := hk2 _ _ (hK1 _ _ HME.out) (fun c fz e => by cases e)
          have hkD2 : KeptM E D2 := fun q c ty fz hq h1 _ => hk2 q _ (hK1 q _ hq) (fun c' fz' e => by injection e with _ e _; exact h1 e)
          have hB2 : Below base E D2 := hB1.trans (hm.below hz1 (fun q h => h.1))
          have hz2 := Nat.le_trans hz1 hm.size
          have y4 : D2.cell? ⟨X, 0, none⟩ = some vv := cell_of_row (i := 0) hS2.2.2 rfl
          have yf : D2.frozen? ⟨X, 0, none⟩ = false := free_of_row (i := 0) hS2.2.2
          refine hK.out _ _ hS2 (fun hSn => ?_)
          clear hK K hSn; (try simp only [Act.put, sI, sZ, sS])
          clear hg5 hS1 hn1 hK1 hB1 hz1 hm hk2 hTD
          refine wpAnyE_take0 (i := 11) (oi := ⟨some 45, _, _, _, _, _⟩) (v := ?_) rfl (by kernel_rfl) (by kernel_rfl) (by kernel_rfl) (fun _ _ _ h => h) (Or.inl ⟨by kernel_rfl, ?_⟩) (by assumption) ?_; rotate_left; (intro w; go_simp; first | done | with_reducible rfl); (try simp only [Act.put, sI, sZ, sS])
          refine wpAnyE_take (i := 12) (oi := ⟨some 46, _, _, _, _, _⟩) (v := ?_) rfl (by kernel_rfl) (by kernel_rfl) (by kernel_rfl) (by kernel_rfl) (fun _ _ _ h => h) (Or.inl ⟨by kernel_rfl, ?_⟩) (by assumption) ?_; rotate_left; (intro VV hSw; (try dsimp only at hSw); go_simp; first | done | with_reducible rfl); (try simp only [Act.put, sI, sZ, sS])
          refine wpAnyE_late (i := 13) (o := ⟨none, _, _, _, _, _⟩) (by kernel_rfl) rfl (by kernel_rfl) (fun K hK => ?_)
          rw [if_pos (by rfl)]
          go_simp
          refine hK.out _ _ ?_
          clear hK K; (try simp only [Act.put, sI, sZ, sS])
          refine wpAny_done (by kernel_rfl) ?_ _
          clear y4 yf
          have hge := HM2.out.ge
          have m9 : Mod (fun q => q = X) D2 (D2.setCell ⟨X, 0, none⟩ (.slice A7 nn2 cap7)) := Mod.setCell _ _ _ (.inl rfl)
          have hbx9 := set_row (.slice A7 nn2 cap7) (i := 0) hS2.2.2
          have HFIN : Hid (MAt base W0 X M mb (l ++ [(s, t)]) (D2.setCell ⟨X, 0, none⟩ (.slice A7 nn2 cap7))) := by
            refine ⟨HBE.out.trans (hB2.trans (m9.below hz2 (fun q (e : q = X) => by omega))), HM2.out.size, hge, ⟨.slice A7 nn2 cap7, hbx9, .inr (O.keep m9 (fun g hg e => ?_) (fun b (hb : b < base) => ⟨by omega, by omega⟩) (fun _ h => h))⟩, (m9.block _ (heap_lt hpt2) (fun e => ?_)).trans hpt2, ⟨es2, c2, (m9.block _ (heap_lt hmp2) (fun e => ?_)).trans hmp2, HMBE.out⟩, fun b hb => ?_, HM2.out.sp⟩
            · obtain ⟨_, c, fz, hr⟩ := O.isRow g hg
              rw [e, hS2.2.2] at hr
              injection hr with hr
              injection hr with _ hr _
              exact absurd hr (by decide)
            · rw [e, hS2.2.2] at hpt2
              injection hpt2 with hpt2
              injection hpt2 with _ hpt2 _
              exact absurd hpt2 (by decide)
            · rw [e, hS2.2.2] at hmp2
              cases hmp2
            · rcases List.mem_append.1 hb with hb | hb
              · exact HM2.out.ok b hb
              · rw [List.mem_singleton.1 hb]; exact HC.out
          have HKK : Hid (KeptM W (D2.setCell ⟨X, 0, none⟩ (.slice A7 nn2 cap7))) := HKE.out.trans (hkD2.trans (fun q c ty fz hq _ h2 => (m9.block q (heap_lt hq) (fun e => by
            rw [e, hS2.2.2] at hq
            injection hq with hq
            injection hq with _ hq _
            exact h2 hq.symm)).trans hq))
          clear hS2 hpt2 hmp2 hB2 hz2 hge m9 hbx9 O hkD2
          go_wp2_with fail
          go_ret
          exact ⟨true, _, rfl, HFIN.out, HR2.out, HKK.out⟩
end Go.Proofs.YtkceoiaaiaomoaaGreatDoor
