/- term.fit, FromList, List, proper: their contracts. -/
import Derived.Test.YtkceoiaaiaomoaaGreatDoorKBnd
import Derived.Test.YtkceoiaaiaomoaaGreatDoorKAppend
import Derived.Test.YtkceoiaaiaomoaaGreatDoorKSuch
import Derived.Test.YtkceoiaaiaomoaaGreatDoorKAstC
import Derived.Test.YtkceoiaaiaomoaaGreatDoorKNodes
import Derived.Laws.AppendOwn
import Derived.OwnWalk
import Derived.LoopTactic
import Derived.LoopNIn
import Derived.StillTailTactics
import Derived.RegionTactic
import Derived.Outline
import Derived.WalkKit
import Derived.Lib.Hide
import Derived.Deep.RegionHeld
import Derived.OrdersHeld
section
set_option linter.unusedVariables false
namespace Go.Proofs.YtkceoiaaiaomoaaGreatDoor
open Go.RowKit

def termZ : Obj := .cells #[.int .i8 0, .int .i64 0, .string ⟨#[]⟩, .string ⟨#[]⟩, .slice none 0 0] 44

theorem info_term : (Tryz.prog.info? 44).map (fun i => (i.zero, i.size, i.bytes)) = some (some (.agg #[.int .i8 0, .int .i64 0, .string ⟨#[]⟩, .string ⟨#[]⟩, .slice none 0 0]), 5, 72) := by kernel_rfl

theorem set_five {w : World} {b : Nat} {T : TypeId} {a0 a1 a2 a3 a4 : Value} (c0 c1 c2 c3 c4 : Value) (h : w.heap[b]? = some (.cells #[a0, a1, a2, a3, a4] T (0, 0))) :
    (((((w.setCell ⟨b, 0, none⟩ c0).setCell ⟨b, 1, none⟩ c1).setCell ⟨b, 2, none⟩ c2).setCell ⟨b, 3, none⟩ c3).setCell ⟨b, 4, none⟩ c4).heap[b]? = some (.cells #[c0, c1, c2, c3, c4] T (0, 0)) ∧
    Mod (fun k => k = b) w (((((w.setCell ⟨b, 0, none⟩ c0).setCell ⟨b, 1, none⟩ c1).setCell ⟨b, 2, none⟩ c2).setCell ⟨b, 3, none⟩ c3).setCell ⟨b, 4, none⟩ c4) := by
  refine ⟨?_, ?_⟩
  · exact set_row c4 (i := 4) (set_row c3 (i := 3) (set_row c2 (i := 2) (set_row c1 (i := 1) (set_row c0 (i := 0) h))))
  · have m : ∀ (W : World) (i : Nat) (c : Value), Mod (fun k => k = b) W (W.setCell ⟨b, i, none⟩ c) := fun W i c => Mod.setCell _ _ _ (.inl rfl)
    exact ((((m _ 0 _).trans (m _ 1 _) (fun _ _ h => h)).trans (m _ 2 _) (fun _ _ h => h)).trans (m _ 3 _) (fun _ _ h => h)).trans (m _ 4 _) (fun _ _ h => h)

def Five (u : Value) : Prop := ∃ c0 c1 c2 c3 c4, u = .agg #[c0, c1, c2, c3, c4]
theorem TmAt.five {P : Nat → Prop} {w : World} {x : Tm} {v : Value} (h : TmAt P w x v) : Five v := by cases h; exact ⟨_, _, _, _, _, rfl⟩

def five (u : Value) : List Value := match u with | .agg c => c.toList | _ => []
def flat (us : List Value) : List Value := us.flatMap five
theorem flat_append (a b : List Value) : flat (a ++ b) = flat a ++ flat b := by simp [flat]
theorem flat_length {us : List Value} (h : ∀ u ∈ us, Five u) : (flat us).length = us.length * 5 := by
  induction us with
  | nil => rfl
  | cons u us ih =>
    obtain ⟨c0, c1, c2, c3, c4, rfl⟩ := h u (by simp)
    have := ih (fun v hv => h v (by simp [hv]))
    simp only [flat, List.flatMap_cons, List.length_append, List.length_cons] at this ⊢
    rw [this]
    simp [five]; omega
theorem flat_at : ∀ {us : List Value} (_ : ∀ u ∈ us, Five u) {j : Nat} {u : Value} (_ : us[j]? = some u) (i : Nat) (_ : i < 5), (flat us)[j * 5 + i]? = (five u)[i]?
  | v :: us, h, 0, u, hj, i, hi => by
    obtain ⟨c0, c1, c2, c3, c4, rfl⟩ := h v (by simp)
    simp at hj
    subst hj
    simp only [flat, List.flatMap_cons, Nat.zero_mul, Nat.zero_add]
    rw [List.getElem?_append_left (by simp [five]; omega)]
  | v :: us, h, j + 1, u, hj, i, hi => by
    obtain ⟨c0, c1, c2, c3, c4, rfl⟩ := h v (by simp)
    have := flat_at (us := us) (fun u hu => h u (by simp [hu])) (j := j) (by simpa using hj) i hi
    simp only [flat, List.flatMap_cons] at this ⊢
    rw [List.getElem?_append_right (by simp [five]; omega)]
    rw [← this]
    congr 1
    simp [five]; omega

theorem own_elem {base : Nat} {w : World} {A : Option Addr} {n cap : Nat} {us : List Value} (h : w.ownsRow base 44 5 (.slice A n cap) n (flat us)) (hf : ∀ u ∈ us, Five u) {j : Nat} {u : Value} (hj : us[j]? = some u) :
    ∃ g, A = some ⟨g, 0, none⟩ ∧ base ≤ g ∧ g < w.heap.size ∧ (∃ c fz, w.heap[g]? = some (.cells c 44 fz)) ∧ ElemAt w ⟨g, 0, none⟩ j u := by
  have hlen := flat_length hf
  have hjl := (List.getElem?_eq_some_iff.1 hj).1
  have hown := h
  rcases h.2 with ⟨e, hn⟩ | ⟨g, cap', cur, e, hb, hg, rest⟩
  · have h1 := h.1
    omega
  · simp only [Value.slice.injEq] at e
    obtain ⟨rfl, _, rfl⟩ := e
    refine ⟨g, rfl, hb, heap_lt hg, ⟨_, _, hg⟩, ?_⟩
    have hc := hown.cells (g := g) rfl
    obtain ⟨c0, c1, c2, c3, c4, rfl⟩ := hf u (List.mem_of_getElem? hj)
    have at_ : ∀ i, i < 5 → ∀ x, (five (.agg #[c0, c1, c2, c3, c4]))[i]? = some x → w.cell? ((⟨g, 0, none⟩ : Addr).add (j * 5 + i)) = some x := fun i hi x hx => hc _ _ ((flat_at hf hj i hi).trans hx)
    have a0 := at_ 0 (by decide) c0 rfl
    have a1 := at_ 1 (by decide) c1 rfl
    have a2 := at_ 2 (by decide) c2 rfl
    have a3 := at_ 3 (by decide) c3 rfl
    have a4 := at_ 4 (by decide) c4 rfl
    have addj : ∀ i, (⟨g, 0, none⟩ : Addr).add (j * 5 + (i + 1)) = ⟨((⟨g, 0, none⟩ : Addr).add (j * 5)).block, ((⟨g, 0, none⟩ : Addr).add (j * 5)).off + (i + 1), none⟩ := by
      intro i
      unfold Addr.add
      by_cases h0 : j * 5 = 0
      · simp [h0]
      · simp [h0]
    rw [addj 0] at a1
    rw [addj 1] at a2
    rw [addj 2] at a3
    rw [addj 3] at a4
    exact ⟨c0, c1, c2, c3, c4, rfl, a0, a1, a2, a3, a4⟩

structure OwnT (base : Nat) (P : Nat → Prop) (w : World) (v : Value) (hs : List Tm) : Prop where
  row : ∃ us : List Value, w.ownsRow base 44 5 v hs.length (flat us) ∧ us.length = hs.length ∧ ∀ (j : Nat) (x : Tm), hs[j]? = some x → ∃ u, us[j]? = some u ∧ TmAt P w x u

theorem OwnT.nil (base : Nat) (P : Nat → Prop) (w : World) : OwnT base P w (.slice none 0 0) [] := ⟨[], World.ownsRow_nil _ _ _ _, rfl, fun j x h => by simp at h⟩
theorem ownT_five {P : Nat → Prop} {w : World} {hs : List Tm} {us : List Value} (hl : us.length = hs.length) (h : ∀ (j : Nat) (x : Tm), hs[j]? = some x → ∃ u, us[j]? = some u ∧ TmAt P w x u) : ∀ u ∈ us, Five u := by
  intro u hu
  obtain ⟨j, hj, rfl⟩ := List.getElem_of_mem hu
  obtain ⟨u', h1, h2⟩ := h j hs[j] (List.getElem?_eq_getElem (by omega))
  rw [List.getElem?_eq_getElem hj] at h1
  cases h1
  exact h2.five
theorem OwnT.trow {base : Nat} {P Q : Nat → Prop} {w : World} {A : Option Addr} {n cap : Nat} {hs : List Tm} (h : OwnT base P w (.slice A n cap) hs) (hP : ∀ b, P b → Q b) (hQ : ∀ b, base ≤ b → b < w.heap.size → (∃ c fz, w.heap[b]? = some (.cells c 44 fz)) → Q b) : n = hs.length ∧ TRow Q w A n cap hs := by
  obtain ⟨us, ho, hl, ht⟩ := h.row
  have hf := ownT_five hl ht
  have hn : n = hs.length ∧ n ≤ cap ∧ cap ≤ maxLen := by
    rcases ho.2 with ⟨e, hn⟩ | ⟨g, cap', cur, e, _, _, hc, hm, _⟩
    · simp only [Value.slice.injEq] at e
      obtain ⟨rfl, rfl, rfl⟩ := e
      exact ⟨hn.symm, Nat.le_refl _, Nat.zero_le _⟩
    · simp only [Value.slice.injEq] at e
      obtain ⟨_, rfl, rfl⟩ := e
      exact ⟨rfl, hc, hm⟩
  obtain ⟨rfl, h2, h3⟩ := hn
  refine ⟨rfl, rfl, Nat.le_trans h2 h3, h2, fun j x hj => ?_⟩
  obtain ⟨u, hu, hT⟩ := ht j x hj
  obtain ⟨g, rfl, hb, hg, hty, hE⟩ := own_elem ho hf hu
  exact ⟨_, u, rfl, hQ _ hb hg hty, hE, hT.mono hP⟩
theorem OwnT.shape {base : Nat} {P : Nat → Prop} {w : World} {v : Value} {hs : List Tm} (h : OwnT base P w v hs) : ∃ A cap, v = .slice A hs.length cap := by
  obtain ⟨us, ho, _⟩ := h.row
  rcases ho.2 with ⟨rfl, hn⟩ | ⟨g, cap', cur, rfl, _⟩
  · exact ⟨none, 0, by rw [hn]⟩
  · exact ⟨_, _, rfl⟩
theorem OwnT.keep {base : Nat} {P Q F : Nat → Prop} {w w' : World} {v : Value} {hs : List Tm} (h : OwnT base P w v hs) (hm : Mod F w w') (hv : ∀ g, v.ownBlock = some g → ¬ F g) (hP : ∀ b, P b → b < w.heap.size ∧ ¬ F b) (hQ : ∀ b, P b → Q b) : OwnT base Q w' v hs := by
  obtain ⟨us, ho, hl, ht⟩ := h.row
  exact ⟨us, hm.row ho hv, hl, fun j x hj => by obtain ⟨u, hu, hT⟩ := ht j x hj; exact ⟨u, hu, hT.keep (fun b hb => hm.block b (hP b hb).1 (hP b hb).2) hQ⟩⟩

section
variable {ops : Array Oper} {rest : List Oper} {o : Oper} {a : Act} {w : World}
theorem wp_own_term {K : Act → World → Prop} {Q : Exit → Act → World → Prop} (sl x : Operand)
    (ho : o.op = .call { callee := .builtin .append, args := #[sl, x], argTypes := #[42, 42] })
    {base : Nat} {P : Nat → Prop} {v : Value} {hs : List Tm} (hown : OwnT base P w v hs) (hbase : base ≤ w.heap.size) (hP : ∀ b, P b → b < w.heap.size ∧ v.ownBlock ≠ some b) (he : a.eval sl = v)
    (g : Nat) {c0 c1 c2 c3 c4 : Value} (hx : a.eval x = .slice (some ⟨g, 0, none⟩) 1 1) (hg : w.heap[g]? = some (.cells #[c0, c1, c2, c3, c4] 44 (0, 0))) {y : Tm} (hy : TmAt P w y (.agg #[c0, c1, c2, c3, c4])) (hlen : hs.length + 1 ≤ 1000000)
    (h : ∀ v' w', OwnT base P w' v' (hs ++ [y]) → w.grownBy w' v.ownBlock → (v.ownBlock = v'.ownBlock ∨ v'.ownBlock = some w.heap.size) → K (a.put o.dst v') w') : o.wp Tryz.prog a w K Q := by
  obtain ⟨i, hi, hz, hsz, hby⟩ := info_parts info_term
  obtain ⟨us, hu, hl, ht⟩ := hown.row
  have hf := ownT_five hl ht
  obtain ⟨k', n', s', t', A', len', cap', e'⟩ : ∃ k' n' s' t' A' len' cap', (Value.agg #[c0, c1, c2, c3, c4]) = .agg #[.int .i8 k', .int .i64 n', .string s', .string t', .slice A' len' cap'] := by cases hy; exact ⟨_, _, _, _, _, _, _, rfl⟩
  simp only [Value.agg.injEq, Array.mk.injEq, List.cons.injEq, and_true] at e'
  obtain ⟨rfl, rfl, rfl, rfl, rfl⟩ := e'
  have hnews : ∀ j u, [Value.int .i8 k', .int .i64 n', .string s', .string t', .slice A' len' cap'][j]? = some u → w.cell? ((⟨g, 0, none⟩ : Addr).add j) = some u := by
    intro j u hj
    match j, hj with
    | 0, hj => simp at hj; subst hj; exact cell_of_row hg rfl
    | 1, hj => simp at hj; subst hj; exact cell_of_row (i := 1) hg rfl
    | 2, hj => simp at hj; subst hj; exact cell_of_row (i := 2) hg rfl
    | 3, hj => simp at hj; subst hj; exact cell_of_row (i := 3) hg rfl
    | 4, hj => simp at hj; subst hj; exact cell_of_row (i := 4) hg rfl
    | j + 5, hj => simp at hj
  have h1 : ∀ u ∈ [Value.int .i8 k', .int .i64 n', .string s', .string t', .slice A' len' cap'], u.oneCell' = true := by
    intro u hu; simp at hu; rcases hu with rfl | rfl | rfl | rfl | rfl <;> rfl
  obtain ⟨v', w', hr, h2, h3, _⟩ := run_append_own (P := Tryz.prog) w base 42 o.type 44 i _ 5 72 Tryz.underlying42 hi hz hsz hby rfl (by decide) v hs.length (flat us) hu ⟨g, 0, none⟩ 1 1 _ rfl hnews h1 (by unfold maxLen; omega) (by omega) hbase
  obtain ⟨g', cap2, rfl, hwh⟩ := append_where (P := Tryz.prog) w base 42 o.type 44 i _ 5 72 Tryz.underlying42 hi hz hsz hby (by decide) v hs.length (flat us) hu ⟨g, 0, none⟩ 1 1 _ (by decide) rfl hnews h1 (by unfold maxLen; omega) (by omega) hr
  unfold Oper.wp execOp
  simp only [ho, resolve, invoke, builtin, Sem.run_bind, Sem.run_pure, Result.andThen_ok, List.map_toArray, List.map_cons, List.map_nil, he, hx, hr]
  have keepP : ∀ b, P b → w'.heap[b]? = w.heap[b]? := fun b hb => h3.block b (hP b hb).1 (fun e => (hP b hb).2 e.symm)
  refine h _ _ ⟨us ++ [.agg #[.int .i8 k', .int .i64 n', .string s', .string t', .slice A' len' cap']], ?_, by simp [hl], fun j z hj => ?_⟩ h3 ?_
  · rw [List.length_append, flat_append]; exact h2
  · rw [List.getElem?_append] at hj
    split at hj
    · obtain ⟨u, hu', hT⟩ := ht j z hj
      exact ⟨u, by rw [List.getElem?_append_left (by omega)]; exact hu', hT.keep keepP (fun _ h => h)⟩
    · have hjl := (List.getElem?_eq_some_iff.1 hj).1
      have ej : j = hs.length := by simp at hjl; omega
      subst ej
      simp at hj
      subst hj
      exact ⟨_, by rw [← hl]; simp, hy.keep keepP (fun _ h => h)⟩
  · rcases hwh with hw | hw
    · exact .inl (by rw [hw]; simp [Value.ownBlock])
    · exact .inr (by rw [hw]; simp [Value.ownBlock])
theorem wpList_own_term {Q : Exit → Act → World → Prop} (hgd : o.guard = none) (sl x : Operand)
    (ho : o.op = .call { callee := .builtin .append, args := #[sl, x], argTypes := #[42, 42] })
    {base : Nat} {P : Nat → Prop} {v : Value} {hs : List Tm} (hown : OwnT base P w v hs) (hbase : base ≤ w.heap.size) (hP : ∀ b, P b → b < w.heap.size ∧ v.ownBlock ≠ some b) (he : a.eval sl = v)
    (g : Nat) {c0 c1 c2 c3 c4 : Value} (hx : a.eval x = .slice (some ⟨g, 0, none⟩) 1 1) (hg : w.heap[g]? = some (.cells #[c0, c1, c2, c3, c4] 44 (0, 0))) {y : Tm} (hy : TmAt P w y (.agg #[c0, c1, c2, c3, c4])) (hlen : hs.length + 1 ≤ 1000000)
    (h : ∀ v' w', OwnT base P w' v' (hs ++ [y]) → w.grownBy w' v.ownBlock → (v.ownBlock = v'.ownBlock ∨ v'.ownBlock = some w.heap.size) → wpList Tryz.prog ops Q rest (a.put o.dst v') w') : wpList Tryz.prog ops Q (o :: rest) a w :=
  wpList_plain hgd fun K hK => wp_own_term sl x ho hown hbase hP he g hx hg hy hlen fun v' w' h1 h2 h3 => hK _ _ (h v' w' h1 h2 h3)
end
end Go.Proofs.YtkceoiaaiaomoaaGreatDoor
end
section
set_option linter.unusedVariables false
namespace Go.Proofs.YtkceoiaaiaomoaaGreatDoor
open Go.RowKit

def Valid (x : Tm) : Prop := ∀ y ∈ x.pre, okB y = true
theorem Valid.own {x : Tm} (h : Valid x) : okB x = true := h x (by cases x; simp [Tm.pre])
theorem Tm.pre_sub {y : Tm} {l : List Tm} (h : y ∈ l) : ∀ z ∈ y.pre, z ∈ Tm.pres l := by
  induction l with
  | nil => simp at h
  | cons a l ih =>
    intro z hz
    rw [Tm.pres]
    rcases List.mem_cons.1 h with rfl | h
    · exact List.mem_append_left _ hz
    · exact List.mem_append_right _ (ih h z hz)
theorem Valid.part {k n : Int} {s t : ByteArray} {l : List Tm} (h : Valid (.mk k n s t l)) {y : Tm} (hy : y ∈ l) : Valid y := fun z hz => h z (by rw [Tm.pre]; exact List.mem_cons_of_mem _ (Tm.pre_sub hy z hz))
end Go.Proofs.YtkceoiaaiaomoaaGreatDoor
end
section
set_option linter.unusedVariables false
namespace Go.Proofs.YtkceoiaaiaomoaaGreatDoor
open Go.RowKit

theorem okN_no {k n : Int} {s t : ByteArray} {len : Nat} (h : k < 0 ∨ 7 < k) : okN k n s t len = false := by
  unfold okN
  rw [if_neg (by omega), if_neg (by omega), if_neg (by omega), if_neg (by omega), if_neg (by omega), if_neg (by omega), if_neg (by omega), if_neg (by omega)]

theorem check_valid {x : Tm} (h : checkN x = 0) : Valid x ∧ x.nodes ≤ 256 := by
  unfold checkN at h
  by_cases ha : (x.pre.take 257).all okB = true
  · rw [if_pos ha] at h
    by_cases hn : 256 < x.nodes
    · rw [if_pos hn] at h; cases h
    · refine ⟨fun y hy => ?_, by omega⟩
      have : x.pre.take 257 = x.pre := List.take_of_length_le (by unfold Tm.nodes at hn; omega)
      rw [this] at ha
      exact List.all_eq_true.1 ha y hy
  · rw [if_neg ha] at h; cases h

theorem valid_cases {k n : Int} {s t : ByteArray} {l : List Tm} (h : okB (.mk k n s t l) = true) :
    (k = 0 ∧ s = ⟨#[]⟩ ∧ t = ⟨#[]⟩ ∧ l = []) ∨ (k = 1 ∧ n = 0 ∧ t = ⟨#[]⟩ ∧ l = []) ∨ (k = 2 ∧ s = ⟨#[]⟩ ∧ t = ⟨#[]⟩ ∧ l = []) ∨ (k = 3 ∧ l = []) ∨ (k = 4 ∧ s = ⟨#[]⟩ ∧ t = ⟨#[]⟩ ∧ l = []) ∨
    (k = 5 ∧ n = 0 ∧ s = ⟨#[]⟩ ∧ t = ⟨#[]⟩) ∨ (k = 6 ∧ n = 0 ∧ s = ⟨#[]⟩ ∧ t = ⟨#[]⟩ ∧ l = []) ∨ (k = 7 ∧ n = 0 ∧ s = ⟨#[]⟩ ∧ t = ⟨#[]⟩ ∧ l.length = 2) := by
  by_cases h8 : k < 0 ∨ 7 < k
  · rw [show okB (.mk k n s t l) = okN k n s t l.length from rfl, okN_no h8] at h
    cases h
  · have h8 : k = 0 ∨ k = 1 ∨ k = 2 ∨ k = 3 ∨ k = 4 ∨ k = 5 ∨ k = 6 ∨ k = 7 := by omega
    have em : ∀ {u : ByteArray}, u.toList.isEmpty = true → u = ⟨#[]⟩ := fun {u} hu => by
      apply ByteArray.ext
      apply Array.toList_inj.1
      rw [← ByteArray.toList_eq]
      simpa using hu
    have nl : ((l.length : Int) == 0) = true → l = [] := fun hl => by
      have : (l.length : Int) = 0 := by simpa using hl
      exact List.length_eq_zero_iff.1 (by omega)
    rcases h8 with rfl | rfl | rfl | rfl | rfl | rfl | rfl | rfl
    · have h := (show ok_integer n s t l.length = true from h)
      unfold ok_integer at h; simp only [Bool.and_eq_true] at h
      exact .inl ⟨rfl, em h.1.1.2, em h.1.2, nl h.2⟩
    · have h := (show ok_atom n s t l.length = true from h)
      unfold ok_atom at h; simp only [Bool.and_eq_true] at h
      exact .inr (.inl ⟨rfl, beq_iff_eq.1 h.1.1.2, em h.1.2, nl h.2⟩)
    · have h := (show ok_ref n s t l.length = true from h)
      unfold ok_ref at h; simp only [Bool.and_eq_true] at h
      exact .inr (.inr (.inl ⟨rfl, em h.1.1.2, em h.1.2, nl h.2⟩))
    · have h := (show ok_fun n s t l.length = true from h)
      unfold ok_fun at h; simp only [Bool.and_eq_true] at h
      exact .inr (.inr (.inr (.inl ⟨rfl, nl h.2⟩)))
    · have h := (show ok_pid n s t l.length = true from h)
      unfold ok_pid at h; simp only [Bool.and_eq_true] at h
      exact .inr (.inr (.inr (.inr (.inl ⟨rfl, em h.1.1.2, em h.1.2, nl h.2⟩))))
    · have h := (show ok_tuple n s t l.length = true from h)
      unfold ok_tuple at h; simp only [Bool.and_eq_true] at h
      exact .inr (.inr (.inr (.inr (.inr (.inl ⟨rfl, beq_iff_eq.1 h.1.1, em h.1.2, em h.2⟩)))))
    · have h := (show ok_empty n s t l.length = true from h)
      unfold ok_empty at h; simp only [Bool.and_eq_true] at h
      exact .inr (.inr (.inr (.inr (.inr (.inr (.inl ⟨rfl, beq_iff_eq.1 h.1.1.1, em h.1.1.2, em h.1.2, nl h.2⟩))))))
    · have h := (show ok_cons n s t l.length = true from h)
      unfold ok_cons at h; simp only [Bool.and_eq_true] at h
      have : (l.length : Int) = 2 := by simpa using h.1.1.1
      exact .inr (.inr (.inr (.inr (.inr (.inr (.inr ⟨rfl, beq_iff_eq.1 h.1.1.2, em h.1.2, em h.2, by omega⟩))))))

theorem check_of {x : Tm} (hV : Valid x) (hn : x.nodes ≤ 256) : checkN x = 0 := by
  unfold checkN
  rw [if_pos (List.all_eq_true.2 (fun y hy => hV y (List.mem_of_mem_take hy))), if_neg (by omega)]

def sumN : List Tm → Nat
  | [] => 0
  | x :: l => min 257 x.nodes + sumN l
theorem sumN_append (a b : List Tm) : sumN (a ++ b) = sumN a + sumN b := by
  induction a with
  | nil => simp [sumN]
  | cons x a ih => simp [sumN, ih]; omega
theorem sumN_le (l : List Tm) : sumN l ≤ 257 * l.length := by
  induction l with
  | nil => simp [sumN]
  | cons x l ih => simp [sumN]; omega
theorem sumN_take_succ {l : List Tm} {j : Nat} {x : Tm} (h : l[j]? = some x) : sumN (l.take (j + 1)) = sumN (l.take j) + min 257 x.nodes := by
  rw [List.take_add_one, h, sumN_append]; simp [sumN]
theorem sumN_take_le (l : List Tm) (j : Nat) : sumN (l.take j) ≤ sumN l := by
  have h : sumN l = sumN (l.take j) + sumN (l.drop j) := by rw [← sumN_append, List.take_append_drop]
  omega
theorem sumN_small (l : List Tm) (h : sumN l ≤ 256) : (Tm.pres l).length = sumN l ∧ ∀ x ∈ l, x.nodes ≤ 256 := by
  induction l with
  | nil => exact ⟨rfl, fun x hx => by simp at hx⟩
  | cons x l ih =>
    simp only [sumN] at h ⊢
    have hn : x.nodes ≤ 256 := by omega
    obtain ⟨h1, h2⟩ := ih (by omega)
    refine ⟨by rw [Tm.pres, List.length_append, h1]; unfold Tm.nodes at *; omega, fun y hy => ?_⟩
    rcases List.mem_cons.1 hy with rfl | hy
    · exact hn
    · exact h2 y hy

def fitN (b : Nat) (l : List Tm) : Int := if l.any (fun x => checkN x == 30) = true then 30 else if 256 < b + sumN l then 11 else 0

theorem check_val (x : Tm) : checkN x = 0 ∨ checkN x = 11 ∨ checkN x = 30 := by
  unfold checkN; split
  · split
    · exact .inr (.inl rfl)
    · exact .inl rfl
  · exact .inr (.inr rfl)

theorem sumN_ge (l : List Tm) : l.length ≤ sumN l := by
  induction l with
  | nil => simp
  | cons x l ih =>
    have := Tm.pre_ne x
    simp only [sumN, List.length_cons]; unfold Tm.nodes; omega
theorem fit_zero {b : Nat} {l : List Tm} (h : fitN b l = 0) : b + sumN l ≤ 256 ∧ ∀ x ∈ l, Valid x ∧ x.nodes ≤ 256 := by
  unfold fitN at h
  by_cases h1 : l.any (fun x => checkN x == 30) = true
  · rw [if_pos h1] at h; cases h
  · rw [if_neg h1] at h
    by_cases h2 : 256 < b + sumN l
    · rw [if_pos h2] at h; cases h
    · have hs := (sumN_small l (by omega)).2
      refine ⟨by omega, fun x hx => ⟨?_, hs x hx⟩⟩
      rw [Bool.not_eq_true, List.any_eq_false] at h1
      have h3 := h1 x hx
      rcases check_val x with h4 | h4 | h4
      · exact (check_valid h4).1
      · unfold checkN at h4
        split at h4
        · rw [if_neg (by have := hs x hx; omega)] at h4; cases h4
        · cases h4
      · exact absurd (by rw [h4]; rfl) h3

end Go.Proofs.YtkceoiaaiaomoaaGreatDoor
end
section
set_option linter.unusedVariables false
namespace Go.Proofs.YtkceoiaaiaomoaaGreatDoor
open Go.RowKit Go.Shelf
attribute [local go_sem] Oper.semAt_some

set_option maxRecDepth 100000 in
set_option maxHeartbeats 4000000 in
theorem Size_any (x : Tm) (v : Value) (w : World) (hT : TmAt (· < w.heap.size) w x v) :
    Calls Tryz.prog 290 #[v] w fun e w' => e = .returned (.int .i64 (min 257 x.nodes : Nat)) ∧ Below w.heap.size w w' := by
  obtain ⟨kk, nn, s, t, L, A, cap, hx, rfl⟩ : ∃ k' n' s' t' L' A' cap', x = Tm.mk k' n' s' t' L' ∧ v = .agg #[.int .i8 k', .int .i64 n', .string s', .string t', .slice A' L'.length cap'] := by
    cases hT; exact ⟨_, _, _, _, _, _, _, rfl, rfl⟩
  have HX := Lib.hid hx
  clear hx
  obtain ⟨w3, hw3⟩ : ∃ w3, w3 = (w.alloc (.cells #[.int .i8 kk, .int .i64 nn, .string s, .string t, .slice A L.length cap] 44)).alloc (.cells #[.int .i64 0] 3) := ⟨_, rfl⟩
  have hs3 : w3.heap.size = w.heap.size + 2 := by rw [hw3]; simp
  have b3 : Below w.heap.size w w3 := by rw [hw3]; exact ((Below.refl _ w).alloc (Nat.le_refl _) _).alloc (by simp) _
  have n3 : w3.heap[w.heap.size + 1]? = some (.cells #[.int .i64 0] 3) := by
    rw [hw3]
    have := World.alloc_heap_new (w.alloc (.cells #[.int .i8 kk, .int .i64 nn, .string s, .string t, .slice A L.length cap] 44)) (.cells #[.int .i64 0] 3)
    rwa [World.size_alloc] at this
  obtain ⟨wL, hwL⟩ : ∃ wL, wL = w3.alloc (.cells #[.int .i8 kk, .int .i64 nn, .string s, .string t, .slice A L.length cap] 44) := ⟨_, rfl⟩
  have hsL : wL.heap.size = w.heap.size + 3 := by rw [hwL]; simp [hs3]
  have bL : Below w.heap.size w wL := by rw [hwL]; exact b3.alloc (by omega) _
  have HNL : Hid (wL.heap[w.heap.size + 1]? = some (.cells #[.int .i64 0] 3)) := by rw [hwL]; exact (Below.heap_alloc _ _ _ (by omega)).trans n3
  have hbt : wL.heap[w.heap.size + 1 + 1]? = some (.cells #[.int .i8 kk, .int .i64 nn, .string s, .string t, .slice A L.length cap] 44) := by
    rw [hwL]; have := World.alloc_heap_new w3 (.cells #[.int .i8 kk, .int .i64 nn, .string s, .string t, .slice A L.length cap] 44); rwa [hs3] at this
  have hTL : TmAt (· < w.heap.size) wL x _ := hT.under bL (Nat.le_refl _)
  have HSeq := Lib.hid (nodes_seq (3 - 1) w.heap.size (w.heap.size + 1 + 1) x _ wL hTL (by omega) ⟨_, rfl, hbt⟩)
  have HBL := Lib.hid bL
  have HSL := Lib.hid hsL
  clear hTL hbt hsL bL b3 n3 hs3 hT
  refine (callsIn_wide (n := 3)).1 ?_
  refine callsIn_of_wp_marks Tryz.func290 rfl trivial ?_ rfl
  simp only [Tryz.ntmps290, List.size_toArray, List.length_cons, List.length_nil, Nat.reduceAdd, Nat.reduceSub, Array.replicate_succ, Array.replicate_zero, List.push_toArray, List.append_toArray, List.nil_append, List.cons_append]
  gi_wp2_with (refine ⟨trivial, ?_⟩; gi_at_call 198; refine (nodes_in _ _ _).mono ?_; rintro e w' ⟨rfl, rfl⟩)
  rw [← hw3, ← hwL]
  refine range_cells (α := Tm × Value) (gf := 235) (lb := #[.pointer (some ⟨w.heap.size + 1 + 1, 0, none⟩)]) rfl (enters_of Tryz.func235 (by kernel_rfl) rfl) (fun _ => rfl) HSeq.out (by rw [HSL.out]; omega)
    (fun pre W => W.heap[w.heap.size + 1]? = some (.cells #[.int .i64 pre.length] 3 (0, 0)) ∧ Below w.heap.size w W)
    (fun c pre W => False)
    (fun s X Y hb h => ⟨(hb.block _ (by rw [HSL.out]; omega)).trans h.1, h.2.trans (hb.mono (by rw [HSL.out]; omega))⟩)
    (fun c s X Y hb h => h)
    ⟨HNL.out, HBL.out⟩
    (fun x a' W => a' = { tmps := #[.agg #[.int .i8 kk, .int .i64 nn, .string s, .string t, .slice A L.length cap], .pointer (some ⟨w.heap.size, 0, none⟩), .int .i64 0, .pointer (some ⟨w.heap.size + 1, 0, none⟩),
      .agg #[.int .i8 kk, .int .i64 nn, .string s, .string t, .slice A L.length cap], .func (.func 235) #[] #[.pointer (some ⟨w.heap.size + 1 + 1, 0, none⟩)], x.2, undef, undef, undef], defers := [] })
    (fun x a' X Y hm h => h) ?assign ?body ?done ?stop (by decide)
  case assign =>
    rintro l pre ⟨y, u⟩ W K hi hE hsz hK
    have HK := Lib.hid (hK _ _ (Below.refl _ W) rfl)
    clear hK hi hE
    gi_wp2
    exact HK.out
  case body =>
    rintro l pre ⟨y, u⟩ a' W ⟨hn, hB⟩ hE rfl hlen hsz
    have f2 : W.frozen? ⟨w.heap.size + 1, 0, none⟩ = false := free_of_row hn
    have c2 : W.cell? ⟨w.heap.size + 1, 0, none⟩ = some (.int .i64 pre.length) := cell_of_row hn rfl
    have HN := Lib.hid hn
    have HB := Lib.hid hB
    clear hn hB hE
    gi_wp2
    refine ⟨Mod.setCell _ _ _ (.inl (by have := HSL.out; dsimp only; omega)), ?_, HB.out.setCell (by dsimp only; omega) _⟩
    have e : ((pre ++ [(y, u)]).length : Int) = (pre.length : Int) + 1 := by simp
    rw [e]
    exact set_row _ HN.out
  case done =>
    rintro xs W hxs ⟨hn, hB⟩ hK
    have hlen : xs.length = min 257 x.nodes := by rw [← List.length_map (f := (·.1)), hxs, List.length_take]; rfl
    have c2 : W.cell? ⟨w.heap.size + 1, 0, none⟩ = some (.int .i64 xs.length) := cell_of_row hn rfl
    have HB := Lib.hid hB
    have HK := Lib.hid hK
    have HLE := Lib.hid hlen
    clear hn hB hK hxs hlen
    gi_wp2
    refine ⟨by simp, .inl ⟨_, _, rfl, run_takeDeferred HK.out, ?_⟩⟩
    refine ⟨.int .i64 xs.length, by simp [results, Tryz.f290, go_sem], ret_int (by rw [HLE.out]), ?_⟩
    exact HB.out.trans ((Mod.putObj (F := fun k => k = wL.heap.size) _ _ _ rfl).below (by have := heap_lt HK.out; have := HSL.out; omega) (fun k (e : k = wL.heap.size) => by have := HSL.out; omega))
  case stop =>
    rintro c pre W ⟨k, hk, hkl⟩ h
    exact h.elim
end Go.Proofs.YtkceoiaaiaomoaaGreatDoor
end
section
set_option linter.unusedVariables false
namespace Go.Proofs.YtkceoiaaiaomoaaGreatDoor
open Go.RowKit

set_option maxHeartbeats 1000000 in
set_option maxRecDepth 100000 in
theorem rsize_any (x : Tm) : ∀ (v : Value) (most : Nat) (w : World), TmAt (· < w.heap.size) w x v → 1 ≤ most → most ≤ 1000000 →
    Calls Tryz.prog 67 #[v, .int .i64 most] w fun e w' => e = .returned (.int .i64 (min x.nodes most : Nat)) ∧ Below w.heap.size w w' := by
  induction x using Tm.ind with
  | h k n s t l ih =>
    intro v most w hT h1 hmost
    obtain ⟨A, cap, rfl, hR, hk, hn, hs, ht⟩ := hT.parts
    have hlen := hR.max
    unfold maxLen at hlen
    have HR := Lib.hid hR
    have HIH := Lib.hid ih
    clear hR ih hT
    obtain ⟨w1, hw1⟩ : ∃ w1, w1 = w.alloc (.cells #[.int .i8 k, .int .i64 n, .string s, .string t, .slice A l.length cap] 44) := ⟨_, rfl⟩
    have hB1 : Below w.heap.size w w1 := by rw [hw1]; exact (Below.refl _ w).alloc (Nat.le_refl _) _
    have hs1 : w1.heap.size = w.heap.size + 1 := by rw [hw1]; simp
    have hbox : w1.heap[w.heap.size]? = some (.cells #[.int .i8 k, .int .i64 n, .string s, .string t, .slice A l.length cap] 44) := by rw [hw1]; exact block_alloc _ _
    have HB1 := Lib.hid hB1
    have HS1 := Lib.hid hs1
    clear hB1 hs1
    go_enter Tryz.func67, Tryz.ntmps67
    go_wp2_with fail
    rw [← hw1]
    clear hw1
    have HX := Lib.hid hbox
    clear hbox
    go_loopw [5, 6] (fun r i wr => ∃ j : Nat, j ≤ l.length ∧ i = .int .i64 j ∧ (∃ q : Nat, r = .int .i64 q ∧ q = min (1 + (Tm.pres (l.take j)).length) most) ∧ Below w1.heap.size w1 wr) (fun _ i _ => l.length - (intOf i).toNat)
    case atStart => exact ⟨0, Nat.zero_le _, rfl, ⟨1, rfl, by simp [Tm.pres]; omega⟩, Below.refl _ _⟩
    case round =>
      obtain ⟨j, hj, rfl, ⟨q, rfl, hq⟩, hB⟩ := hrel
      have hbw : wr.heap[w.heap.size]? = _ := (hB.block w.heap.size (by rw [HS1.out]; omega)).trans HX.out
      have hc4 : wr.cell? ⟨w.heap.size, 4, none⟩ = some (.slice A l.length cap) := cell_of_row hbw rfl
      have hq1 : 1 ≤ q := by omega
      have hq2 : q ≤ most := by omega
      have HQ := Lib.hid hq
      have HB := Lib.hid hB
      clear hq hB hbw
      by_cases hlt : j < l.length
      · by_cases hm : q < most
        · obtain ⟨y, hy⟩ : ∃ y, l[j]? = some y := ⟨l[j], List.getElem?_eq_getElem hlt⟩
          obtain ⟨ad, u, rfl, had, hE, hTy⟩ := HR.out.at_ j y hy
          have hEr : ElemAt wr ad j u := hE.keep ((HB.out.block ad.block (by rw [HS1.out]; omega)).trans (HB1.out.block ad.block had))
          have hTr : TmAt (· < wr.heap.size) wr y u := hTy.keep (fun b hb => (HB.out.block b (by rw [HS1.out]; omega)).trans (HB1.out.block b hb)) (fun b hb => by have := HB1.out.size; have := HB.out.size; omega)
          obtain ⟨c0, c1, c2, c3, c4, rfl, e0, e1, e2, e3, e4⟩ := hEr
          have hmem := List.mem_of_getElem? hy
          have hpy := Tm.pre_ne y
          have HY := Lib.hid hy
          clear hE hTy hy
          go_wp2_with fail
          have he : (most : Int) - q = ((most - q : Nat) : Int) := by omega
          rw [he]
          refine (HIH.out y hmem _ (most - q) _ hTr (by omega) (by omega)).mono ?_
          rintro e w2 ⟨rfl, b2⟩
          have hr : q + min y.nodes (most - q) = min (1 + (Tm.pres (l.take (j + 1))).length) most := by
            rw [Tm.pres_take_succ HY.out, List.length_append]
            have := HQ.out
            unfold Tm.nodes
            omega
          have HRR := Lib.hid hr
          have hle : min y.nodes (most - q) ≤ 1000000 := by omega
          clear hr he
          generalize min y.nodes (most - q) = z at HRR hle ⊢
          go_wp2_with fail
          go_roundw
          case rel => exact ⟨j + 1, by omega, by go_num, ⟨q + z, by go_num, HRR.out⟩, HB.out.trans (b2.mono HB.out.size)⟩
          case measure => simp [intOf]; omega
        · go_wp2_with fail
          go_ret
          refine ⟨ret_int ?_, HB1.out.trans (HB.out.mono (by rw [HS1.out]; omega))⟩
          have h := HQ.out
          have : (Tm.pres (l.take j)).length ≤ (Tm.pres l).length := by
            rw [show Tm.pres l = Tm.pres (l.take j) ++ Tm.pres (l.drop j) by rw [← Tm.pres_append, List.take_append_drop]]
            simp
          unfold Tm.nodes Tm.pre
          simp only [List.length_cons]
          omega
      · obtain rfl : j = l.length := by omega
        go_wp2_with fail
        go_ret
        refine ⟨ret_int ?_, HB1.out.trans (HB.out.mono (by rw [HS1.out]; omega))⟩
        have h := HQ.out
        rw [List.take_length] at h
        unfold Tm.nodes Tm.pre
        simp only [List.length_cons]
        omega

def NoThen (p : Prop) (w : World) (e : Ending) (w' : World) : Prop := ∃ b : Bool, e = .returned (.bool b) ∧ (b = false → p) ∧ Below w.heap.size w w'

theorem Great_any (x : Tm) (v : Value) (w : World) (hT : TmAt (· < w.heap.size) w x v) : Calls Tryz.prog 24 #[v] w (NoThen (x.nodes < 1024) w) := by
  obtain ⟨c, rfl⟩ : ∃ c, v = .agg c := by cases hT; exact ⟨_, rfl⟩
  have hT2 : TmAt (· < (w.alloc (.cells c 44)).heap.size) (w.alloc (.cells c 44)) x (.agg c) := hT.keep (fun b hb => Below.heap_alloc _ _ _ hb) (fun b hb => by simp; omega)
  cases hT with
  | mk vs hk hn hs ht hl hcap hc hx =>
    have HC := Lib.hid (rsize_any _ _ 1024 _ hT2 (by decide) (by decide))
    clear hT2 hc hx hl hcap
    unfold maxLen at hs ht
    go_enter Tryz.func24, Tryz.ntmps24
    go_wp2_with fail
    refine HC.out.mono ?_
    rintro e w1 ⟨rfl, b1⟩
    go_wp2_with fail
    go_ret
    refine ⟨_, rfl, fun h => ?_, ((Below.refl _ w).alloc (Nat.le_refl _) _).trans (b1.mono (by simp))⟩
    have := of_decide_eq_false h
    omega

set_option maxHeartbeats 1000000 in
set_option maxRecDepth 100000 in
theorem GreatAll_any (A : Option Addr) (n cap : Nat) (l : List Tm) (w : World) (hR : TRow (· < w.heap.size) w A n cap l) : Calls Tryz.prog 32 #[.slice A n cap] w (NoThen (l.length + (Tm.pres l).length < 4000) w) := by
  have hlen := hR.max
  have hll := hR.len
  unfold maxLen at hlen
  have HR := Lib.hid hR
  have HL := Lib.hid hll
  clear hR hll
  go_enter Tryz.func32, Tryz.ntmps32
  go_wp2_with fail
  go_loopw [3, 4] (fun r i wr => ∃ j : Nat, j ≤ n ∧ i = .int .i64 j ∧ (∃ q : Nat, r = .int .i64 q ∧ n ≤ q ∧ (q < 4000 → q = n + (Tm.pres (l.take j)).length) ∧ q ≤ n + 8000) ∧ Below w.heap.size w wr) (fun _ i _ => n - (intOf i).toNat)
  case atStart => exact ⟨0, Nat.zero_le _, rfl, ⟨n, rfl, Nat.le_refl _, fun _ => by simp [Tm.pres], by omega⟩, Below.refl _ _⟩
  case round =>
    obtain ⟨j, hj, rfl, ⟨q, rfl, hq0, hq, hqb⟩, hB⟩ := hrel
    have HQ := Lib.hid hq
    have HB := Lib.hid hB
    clear hq hB
    by_cases hlt : j < n
    · by_cases hm : q < 4000
      · obtain ⟨y, hy⟩ : ∃ y, l[j]? = some y := ⟨l[j]'(by have := HL.out; omega), List.getElem?_eq_getElem _⟩
        obtain ⟨ad, u, rfl, had, hE, hTy⟩ := HR.out.at_ j y hy
        have hEr : ElemAt wr ad j u := hE.keep (HB.out.block ad.block had)
        have hTr : TmAt (· < wr.heap.size) wr y u := hTy.keep (fun b hb => HB.out.block b hb) (fun b hb => Nat.lt_of_lt_of_le hb HB.out.size)
        obtain ⟨c0, c1, c2, c3, c4, rfl, e0, e1, e2, e3, e4⟩ := hEr
        have HY := Lib.hid hy
        clear hE hTy hy
        go_wp2_with fail
        refine (rsize_any y _ 4000 _ hTr (by decide) (by decide)).mono ?_
        rintro e w2 ⟨rfl, b2⟩
        have hr : q + min y.nodes 4000 < 4000 → q + min y.nodes 4000 = n + (Tm.pres (l.take (j + 1))).length := by
          intro h4
          rw [Tm.pres_take_succ HY.out, List.length_append]
          have := HQ.out hm
          unfold Tm.nodes at h4 ⊢
          omega
        have HRR := Lib.hid hr
        have hle : min y.nodes 4000 ≤ 4000 := by omega
        clear hr
        generalize min y.nodes 4000 = z at HRR hle ⊢
        go_wp2_with fail
        go_roundw
        case rel => exact ⟨j + 1, by omega, by go_num, ⟨q + z, by go_num, by omega, HRR.out, by omega⟩, HB.out.trans (b2.mono HB.out.size)⟩
        case measure => simp [intOf]; omega
      · go_wp2_with fail
        go_ret
        exact ⟨_, rfl, fun h => (by cases h), HB.out⟩
    · obtain rfl : j = n := by omega
      go_wp2_with fail
      go_ret
      refine ⟨_, rfl, fun h => ?_, HB.out⟩
      have h1 := of_decide_eq_false h
      have h2 := HQ.out (by omega)
      rw [← HL.out, List.take_length] at h2
      have := HL.out
      omega
end Go.Proofs.YtkceoiaaiaomoaaGreatDoor
set_option linter.unusedVariables false
namespace Go.Proofs.YtkceoiaaiaomoaaGreatDoor
open Go.RowKit

structure Bx2 (w V : World) (cx cy : Array Value) : Prop where
  below : Below w.heap.size w V
  bx : V.heap[w.heap.size]? = some (.cells cx 44 (0, 0))
  by_ : V.heap[w.heap.size + 1]? = some (.cells cy 44 (0, 0))
theorem Bx2.on {w V V' : World} {cx cy : Array Value} (h : Bx2 w V cx cy) (hb : Below V.heap.size V V') : Bx2 w V' cx cy :=
  ⟨h.below.trans (hb.mono h.below.size), (hb.block _ (heap_lt h.bx)).trans h.bx, (hb.block _ (heap_lt h.by_)).trans h.by_⟩
theorem bx2_of (w : World) (cx cy : Array Value) : Bx2 w ((w.alloc (.cells cx 44)).alloc (.cells cy 44)) cx cy := by
  refine ⟨((Below.refl _ w).alloc (Nat.le_refl _) _).alloc (by simp) _, (Below.heap_alloc _ _ _ (by simp)).trans (block_alloc _ _), ?_⟩
  have := block_alloc (w.alloc (.cells cx 44)) (.cells cy 44)
  rwa [World.size_alloc] at this
theorem TmAt.later {w V : World} {x : Tm} {v : Value} (h : TmAt (· < w.heap.size) w x v) (hb : Below w.heap.size w V) : TmAt (· < V.heap.size) V x v :=
  h.keep (fun b hb' => hb.block b hb') (fun b hb' => Nat.lt_of_lt_of_le hb' hb.size)
end Go.Proofs.YtkceoiaaiaomoaaGreatDoor
end
section
set_option linter.unusedVariables false
namespace Go.Proofs.YtkceoiaaiaomoaaGreatDoor
open Go.RowKit


set_option maxHeartbeats 4000000 in
set_option maxRecDepth 100000 in
theorem fit_any (b : Nat) (hb : b ≤ 1000000000000) (A : Option Addr) (n cap : Nat) (l : List Tm) (hl : l.length ≤ 1000000000000) (w : World) (hR : TRow (· < w.heap.size) w A n cap l) (hS : Spans w) :
    Calls Tryz.prog 241 #[.int .i64 b, .slice A n cap] w fun e w' => e = .returned (.int .i64 (fitN b l)) ∧ Below w.heap.size w w' := by
  obtain rfl := hR.len
  have HR := Lib.hid hR
  have HSP := Lib.hid hS
  obtain ⟨R, hRd⟩ : ∃ R, R = fitN b l := ⟨_, rfl⟩
  have HF := Lib.hid hRd
  rw [← hRd]
  have hsl := sumN_le l
  have HSL := Lib.hid hsl
  clear hR hS hRd hsl
  go_enter Tryz.func241, Tryz.ntmps241
  go_wp2_with fail
  go_loopw [5, 11] (fun s i wr => ∃ j : Nat, j ≤ l.length ∧ i = .int .i64 j ∧ (∃ q : Nat, s = .int .i64 q ∧ q = b + sumN (l.take j)) ∧ (∀ y ∈ l.take j, checkN y ≠ 30) ∧ Below w.heap.size w wr) (fun _ i _ => l.length - (intOf i).toNat)
  case atStart => exact ⟨0, Nat.zero_le _, rfl, ⟨b, rfl, by simp [sumN]⟩, fun y hy => by simp at hy, Below.refl _ _⟩
  case round =>
    obtain ⟨j, hj, rfl, ⟨q, rfl, hq⟩, hno, hB⟩ := hrel
    have hqb : q ≤ 300000000000000 := by have := sumN_take_le l j; have := HSL.out; omega
    have HQ := Lib.hid hq
    have HNO := Lib.hid hno
    have HB := Lib.hid hB
    clear hq hno hB
    by_cases hlt : j < l.length
    · obtain ⟨y, hy⟩ : ∃ y, l[j]? = some y := ⟨l[j], List.getElem?_eq_getElem hlt⟩
      obtain ⟨ad, u, rfl, had, hE, hTy⟩ := HR.out.at_ j y hy
      have hEr : ElemAt wr ad j u := hE.keep (HB.out.block ad.block had)
      have hTr := hTy.later HB.out
      obtain ⟨ky, ny, sy, ty, Ly, Ay, capy, ey, rfl⟩ : ∃ k' n' s' t' L' A' cap', y = Tm.mk k' n' s' t' L' ∧ u = .agg #[.int .i8 k', .int .i64 n', .string s', .string t', .slice A' L'.length cap'] := by
        cases hTy; exact ⟨_, _, _, _, _, _, _, rfl, rfl⟩
      clear ey
      obtain ⟨c0, c1, c2, c3, c4, hcc, e0, e1, e2, e3, e4⟩ := hEr
      simp only [Value.agg.injEq, Array.mk.injEq, List.cons.injEq, and_true] at hcc
      obtain ⟨rfl, rfl, rfl, rfl, rfl⟩ := hcc
      obtain ⟨wz, hwz⟩ : ∃ wz, wz = wr.alloc (.cells #[.int .i8 ky, .int .i64 ny, .string sy, .string ty, .slice Ay Ly.length capy] 44) := ⟨_, rfl⟩
      have bz : Below wr.heap.size wr wz := by rw [hwz]; exact (Below.refl _ _).alloc (Nat.le_refl _) _
      have gz : wz.heap[wr.heap.size]? = some (.cells #[.int .i8 ky, .int .i64 ny, .string sy, .string ty, .slice Ay Ly.length capy] 44 (0, 0)) := by rw [hwz]; exact block_alloc _ _
      have hBz : Below w.heap.size w wz := HB.out.trans (bz.mono HB.out.size)
      have HC := Lib.hid (Check_any y _ wz (hTr.later bz) (HSP.out.below hBz HSP.out.lt))
      have HTZ := Lib.hid (hTr.later bz)
      have HGZ := Lib.hid gz
      have HBZ := Lib.hid hBz
      have HY := Lib.hid hy
      have z0 : wz.cell? ⟨wr.heap.size, 0, none⟩ = some (.int .i8 ky) := cell_of_row gz rfl
      have z1 : wz.cell? ⟨wr.heap.size, 1, none⟩ = some (.int .i64 ny) := cell_of_row gz rfl
      have z2 : wz.cell? ⟨wr.heap.size, 2, none⟩ = some (.string sy) := cell_of_row gz rfl
      have z3 : wz.cell? ⟨wr.heap.size, 3, none⟩ = some (.string ty) := cell_of_row gz rfl
      have z4 : wz.cell? ⟨wr.heap.size, 4, none⟩ = some (.slice Ay Ly.length capy) := cell_of_row gz rfl
      subst hwz
      clear hE hTy hTr bz gz hBz hy had
      go_wp2_with fail
      refine HC.out.mono ?_
      rintro e w2 ⟨rfl, b2⟩
      have g2 := (b2.block _ (heap_lt HGZ.out)).trans HGZ.out
      have HB2 := Lib.hid (HBZ.out.trans (b2.mono HBZ.out.size))
      have HT2 := Lib.hid (HTZ.out.keep (fun b hb => b2.block b hb) (fun b hb => Nat.lt_of_lt_of_le hb b2.size))
      clear z0 z1 z2 z3 z4 e0 e1 e2 e3 e4 b2
      by_cases hc : checkN y = 30
      · have hc1 : (checkN y == 30) = true := by simpa using hc
        have HCY := Lib.hid hc
        clear hc g2
        go_wp2_with fail
        go_ret
        refine ⟨ret_int ?_, HB2.out⟩
        rw [HF.out]; unfold fitN
        rw [if_pos]
        rw [List.any_eq_true]
        exact ⟨y, List.mem_of_getElem? HY.out, by rw [HCY.out]; rfl⟩
      · have hc1 : (checkN y == 30) = false := by simpa using hc
        have HCY := Lib.hid hc
        have z0 : w2.cell? ⟨wr.heap.size, 0, none⟩ = some (.int .i8 ky) := cell_of_row g2 rfl
        have z1 : w2.cell? ⟨wr.heap.size, 1, none⟩ = some (.int .i64 ny) := cell_of_row g2 rfl
        have z2 : w2.cell? ⟨wr.heap.size, 2, none⟩ = some (.string sy) := cell_of_row g2 rfl
        have z3 : w2.cell? ⟨wr.heap.size, 3, none⟩ = some (.string ty) := cell_of_row g2 rfl
        have z4 : w2.cell? ⟨wr.heap.size, 4, none⟩ = some (.slice Ay Ly.length capy) := cell_of_row g2 rfl
        clear hc g2
        go_wp2_with fail
        refine (Size_any y _ _ HT2.out).mono ?_
        rintro e w3 ⟨rfl, b3⟩
        have HB3 := Lib.hid (HB2.out.trans (b3.mono HB2.out.size))
        clear b3 z0 z1 z2 z3 z4
        have hs : q + min 257 y.nodes = b + sumN (l.take (j + 1)) := by rw [sumN_take_succ HY.out, HQ.out]; omega
        have HSS := Lib.hid hs
        have hm : min 257 y.nodes ≤ 257 := by omega
        clear hs
        generalize min 257 y.nodes = m at HSS hm ⊢
        go_wp2_with fail
        go_roundw
        case rel =>
          refine ⟨j + 1, by omega, by go_num, ⟨q + m, by go_num, HSS.out⟩, fun z hz => ?_, HB3.out⟩
          rw [List.take_add_one, HY.out, List.mem_append] at hz
          rcases hz with hz | hz
          · exact HNO.out z hz
          · simp at hz; subst hz; exact HCY.out
        case measure => simp [intOf]; omega
    · obtain rfl : j = l.length := by omega
      have hR : R = if 256 < q then 11 else 0 := by
        rw [HF.out]; unfold fitN
        rw [if_neg, HQ.out, List.take_length]
        rw [Bool.not_eq_true, List.any_eq_false]
        intro y hy h
        exact HNO.out y (by rw [List.take_length]; exact hy) (by simpa using h)
      by_cases h256 : 256 < q
      · have hd : decide ((256 : Int) < (q : Int)) = true := decide_eq_true (by omega)
        rw [if_pos h256] at hR
        have HRR := Lib.hid hR
        clear hR
        go_wp2_with fail
        go_ret
        exact ⟨ret_int HRR.out.symm, HB.out⟩
      · have hd : decide ((256 : Int) < (q : Int)) = false := decide_eq_false (by omega)
        rw [if_neg h256] at hR
        have HRR := Lib.hid hR
        clear hR
        go_wp2_with fail
        go_ret
        exact ⟨ret_int HRR.out.symm, HB.out⟩
end Go.Proofs.YtkceoiaaiaomoaaGreatDoor
end
