/- Rows of terms, in a later world. -/
import Derived.Test.YtmdcdhdjojimeaaGreatDoorKFirst9
import Derived.Test.YtmdcdhdjojimeaaGreatDoorKCla9
import Derived.Test.YtmdcdhdjojimeaaGreatDoorKIMay
section
set_option linter.unusedVariables false
set_option linter.unusedSimpArgs false
namespace Go.Proofs.YtmdcdhdjojimeaaGreatDoor
open Go.RowKit

def anyB (y : Tm) : Prop := patB y = true ∨ guaB y = true ∨ testB y = true ∨ guardB y = true ∨ exprB y = true ∨ (∃ m, m ≤ 8 ∧ clB m y = true) ∨ afterB y = true
theorem patsB_mem : ∀ {l : List Tm} {y : Tm}, patsB l = true → y ∈ l → anyB y
 | x :: l, y, h, hy => by
  rw [patsB, Bool.and_eq_true] at h
  rcases List.mem_cons.1 hy with rfl | hy
  ·exact .inl h.1
  ·exact patsB_mem h.2 hy
theorem guasB_mem : ∀ {l : List Tm} {y : Tm}, guasB l = true → y ∈ l → anyB y
 | x :: l, y, h, hy => by
  rw [guasB, Bool.and_eq_true] at h
  rcases List.mem_cons.1 hy with rfl | hy
  ·exact .inr (.inl h.1)
  ·exact guasB_mem h.2 hy
theorem exprsB_mem : ∀ {l : List Tm} {y : Tm}, exprsB l = true → y ∈ l → anyB y
 | x :: l, y, h, hy => by
  rw [exprsB, Bool.and_eq_true] at h
  rcases List.mem_cons.1 hy with rfl | hy
  ·exact .inr (.inr (.inr (.inr (.inl h.1))))
  ·exact exprsB_mem h.2 hy
theorem patFirst_mem : ∀ {l : List Tm} {y : Tm}, patFirst l = true → y ∈ l → anyB y
 | x :: l, y, h, hy => by
  rw [patFirst, Bool.and_eq_true] at h
  rcases List.mem_cons.1 hy with rfl | hy
  ·exact .inl h.1
  ·exact exprsB_mem h.2 hy
theorem clsB_mem {m : Nat} (hm : m ≤ 8) : ∀ {l : List Tm} {y : Tm}, clsB m l = true → y ∈ l → clB m y = true
 | x :: l, y, h, hy => by
  rw [clsB, Bool.and_eq_true] at h
  rcases List.mem_cons.1 hy with rfl | hy
  ·exact h.1
  ·exact clsB_mem hm h.2 hy
theorem cl_any {m : Nat} (hm : m ≤ 8) {y : Tm} (h : clB m y = true) : anyB y := .inr (.inr (.inr (.inr (.inr (.inl ⟨m, hm, h⟩)))))
theorem caseB_mem {m : Nat} (hm : m ≤ 8) : ∀ {l : List Tm} {y : Tm}, caseB m l = true → y ∈ l → anyB y
 | x :: l, y, h, hy => by
  rw [caseB, Bool.and_eq_true] at h
  rcases List.mem_cons.1 hy with rfl | hy
  ·exact .inr (.inr (.inr (.inr (.inl h.1))))
  ·exact cl_any hm (clsB_mem hm h.2 hy)
theorem recvB_mem : ∀ {l : List Tm} {y : Tm}, recvB l = true → y ∈ l → anyB y
 | x :: l, y, h, hy => by
  rw [recvB] at h
  by_cases he : l.isEmpty = true
  ·rw [if_pos he] at h
   rcases List.mem_cons.1 hy with rfl | hy
   ·exact .inr (.inr (.inr (.inr (.inr (.inr h)))))
   ·rw [List.isEmpty_iff.1 he] at hy; cases hy
  ·rw [if_neg he, Bool.and_eq_true] at h
   rcases List.mem_cons.1 hy with rfl | hy
   ·exact cl_any (by decide) h.1
   ·exact recvB_mem h.2 hy
theorem partsB_mem : ∀ {m : Nat} {l : List Tm} {y : Tm}, partsB m l = true → y ∈ l → anyB y
 | 0, g :: l, y, h, hy => by
  rw [partsB, Bool.and_eq_true, Bool.and_eq_true] at h
  rcases List.mem_cons.1 hy with rfl | hy
  ·exact .inr (.inr (.inr (.inl h.1.1)))
  ·exact exprsB_mem h.2 hy
 | m + 1, p :: l, y, h, hy => by
  rw [partsB, Bool.and_eq_true] at h
  rcases List.mem_cons.1 hy with rfl | hy
  ·exact .inl h.1
  ·exact partsB_mem h.2 hy
theorem partsB_len : ∀ {m : Nat} {l : List Tm}, partsB m l = true → m ≤ l.length
 | 0, g :: l, h => Nat.zero_le _
 | 0, [], h => Nat.zero_le _
 | m + 1, p :: l, h => by
  rw [partsB, Bool.and_eq_true] at h
  have := partsB_len h.2
  rw [List.length_cons]; omega
theorem okN_of {k n : Int} {s t : ByteArray} {l : List Tm} (h1 : k ≠ 13) (h2 : k ≠ 3) (h3 : k ≠ 19) : okN (.mk k n s t l) := ⟨fun h => absurd h h1, fun h => absurd h h2, fun h => absurd h h3⟩
theorem leaf9 {k n : Int} {s t : ByteArray} {l : List Tm} (h : leafB k n s t l = true) : okN (.mk k n s t l) ∧ k ≠ 2 ∧ ∀ y ∈ l, anyB y := by
 unfold leafB at h
 simp only [Bool.and_eq_true, Bool.or_eq_true, beq_iff_eq] at h
 obtain ⟨⟨hl, -⟩, h⟩ := h
 rw [List.isEmpty_iff.1 hl]
 have hk : k = 5 ∨ k = 6 ∨ k = 7 ∨ k = 8 := by
  rcases h with ((h | h) | h) | h
  ·exact .inl h.1.1
  ·exact .inr (.inl h.1.1)
  ·exact .inr (.inr (.inl h.1.1))
  ·exact .inr (.inr (.inr h.1.1))
 exact ⟨okN_of (by omega) (by omega) (by omega), by omega, fun y hy => by cases hy⟩
theorem step9 {k n : Int} {s t : ByteArray} {l : List Tm} (h : anyB (.mk k n s t l)) : okN (.mk k n s t l) ∧ k ≠ 2 ∧ ∀ y ∈ l, anyB y := by
 rcases h with h | h | h | h | h | ⟨m, hm, h⟩ | h
 ·rw [patB, Bool.or_eq_true] at h
  rcases h with h | h
  ·exact leaf9 h
  ·simp only [Bool.and_eq_true, Bool.or_eq_true, beq_iff_eq] at h
   have hk : k = 10 ∨ k = 9 := by rcases h.1.1.1.1 with h | h; exact .inl h; exact .inr h.1
   exact ⟨okN_of (by omega) (by omega) (by omega), by omega, fun y hy => patsB_mem h.2 hy⟩
 ·rw [guaB, Bool.or_eq_true] at h
  rcases h with h | h
  ·exact leaf9 h
  ·simp only [Bool.and_eq_true, Bool.or_eq_true, beq_iff_eq] at h
   have hk : k = 10 ∨ k = 9 ∨ k = 11 := by
    rcases h.1.1.1 with (h | h) | h
    ·exact .inl h.1
    ·exact .inr (.inl h.1.1)
    ·exact .inr (.inr h.1.1)
   exact ⟨okN_of (by omega) (by omega) (by omega), by omega, fun y hy => guasB_mem h.2 hy⟩
 ·rw [testB] at h
  simp only [Bool.and_eq_true, Bool.or_eq_true, beq_iff_eq] at h
  have hk : k = 11 ∨ k = 12 := by
   rcases h.1.1.1 with h | h
   ·exact .inl h.1.1
   ·exact .inr h.1.1
  exact ⟨okN_of (by omega) (by omega) (by omega), by omega, fun y hy => guasB_mem h.2 hy⟩
 ·rw [guardB] at h
  simp only [Bool.and_eq_true, beq_iff_eq, List.all_eq_true] at h
  exact ⟨okN_of (by omega) (by omega) (by omega), by omega, fun y hy => .inr (.inr (.inl (h.2 y hy)))⟩
 ·rw [exprB] at h
  simp only [Bool.or_eq_true, or_assoc] at h
  rcases h with h | h | h | h | h | h | h | h | h | h | h | h
  ·exact leaf9 h
  ·simp only [Bool.and_eq_true, beq_iff_eq] at h
   exact ⟨okN_of (by omega) (by omega) (by omega), by omega, fun y hy => exprsB_mem h.2 hy⟩
  ·simp only [Bool.and_eq_true, beq_iff_eq] at h
   exact ⟨okN_of (by omega) (by omega) (by omega), by omega, fun y hy => exprsB_mem h.2 hy⟩
  ·simp only [Bool.and_eq_true, beq_iff_eq] at h
   exact ⟨okN_of (by omega) (by omega) (by omega), by omega, fun y hy => exprsB_mem h.2 hy⟩
  ·simp only [Bool.and_eq_true, beq_iff_eq] at h
   exact ⟨⟨fun _ => h.1.2, fun e => by have e' : k = 3 := e; omega, fun e => by have e' : k = 19 := e; omega⟩, by omega, fun y hy => patFirst_mem h.2 hy⟩
  ·simp only [Bool.and_eq_true, beq_iff_eq] at h
   exact ⟨okN_of (by omega) (by omega) (by omega), by omega, fun y hy => exprsB_mem h.2 hy⟩
  ·simp only [Bool.and_eq_true, beq_iff_eq] at h
   exact ⟨okN_of (by omega) (by omega) (by omega), by omega, fun y hy => exprsB_mem h.2 hy⟩
  ·simp only [Bool.and_eq_true, beq_iff_eq] at h
   exact ⟨okN_of (by omega) (by omega) (by omega), by omega, fun y hy => exprsB_mem h.2 hy⟩
  ·simp only [Bool.and_eq_true, beq_iff_eq] at h
   rw [List.isEmpty_iff.1 h.2]
   exact ⟨okN_of (by omega) (by omega) (by omega), by omega, fun y hy => by cases hy⟩
  ·simp only [Bool.and_eq_true, beq_iff_eq] at h
   exact ⟨okN_of (by omega) (by omega) (by omega), by omega, fun y hy => caseB_mem (by decide) h.2 hy⟩
  ·simp only [Bool.and_eq_true, beq_iff_eq, decide_eq_true_eq] at h
   exact ⟨⟨fun e => by have e' : k = 13 := e; omega, fun e => by have e' : k = 3 := e; omega, fun _ => by have := h.1.1.2; show 1 ≤ l.length; omega⟩, by omega, fun y hy => caseB_mem (m := 2) (by decide) h.1.2 hy⟩
  ·simp only [Bool.and_eq_true, Bool.or_eq_true, beq_iff_eq] at h
   refine ⟨okN_of (by omega) (by omega) (by omega), by omega, fun y hy => ?_⟩
   rcases h.2 with h | h
   ·exact cl_any (by decide) (clsB_mem (m := 1) (by decide) h.2 hy)
   ·exact recvB_mem h.2 hy
 ·rw [clB] at h
  simp only [Bool.and_eq_true, beq_iff_eq] at h
  have hlen := partsB_len h.2
  exact ⟨⟨fun e => by have e' : k = 13 := e; omega, fun _ => ⟨m, h.1.1.1.2, hm, hlen⟩, fun e => by have e' : k = 19 := e; omega⟩, by omega, fun y hy => partsB_mem h.2 hy⟩
 ·rw [afterB] at h
  simp only [Bool.and_eq_true, beq_iff_eq] at h
  exact ⟨okN_of (by omega) (by omega) (by omega), by omega, fun y hy => exprsB_mem h.2 hy⟩
theorem mem_presX : ∀ {l : List Tm} {z : Tm}, z ∈ Tm.pres l → ∃ y ∈ l, z ∈ y.pre
 | y :: l, z, h => by
  rw [Tm.pres, List.mem_append] at h
  rcases h with h | h
  ·exact ⟨y, List.mem_cons_self, h⟩
  ·obtain ⟨y', h1, h2⟩ := mem_presX h
   exact ⟨y', List.mem_cons_of_mem _ h1, h2⟩
theorem any_pre (x : Tm) : anyB x → ∀ z ∈ x.pre, okN z ∧ z.k ≠ 2 := by
 induction x using Tm.ind with
 | h k n s t l ih =>
 intro h z hz
 obtain ⟨h1, h2, h3⟩ := step9 h
 rw [Tm.pre] at hz
 rcases List.mem_cons.1 hz with rfl | hz
 ·exact ⟨h1, h2⟩
 ·obtain ⟨y, hy, hzy⟩ := mem_presX hz
  exact ih y hy (h3 y hy) z hzy
structure FunOk (f : Tm) : Prop where
 kind : f.k = 2
 arity : 0 ≤ f.n ∧ f.n ≤ 8
 cls : ∀ c ∈ f.l, (c.n = f.n) ∧ ∀ z ∈ c.pre, okN z ∧ z.k ≠ 2
theorem funB_ok {f : Tm} (h : funB f = true) : FunOk f := by
 obtain ⟨k, n, s, t, l⟩ := f
 rw [funB] at h
 simp only [Bool.and_eq_true, beq_iff_eq, decide_eq_true_eq] at h
 refine ⟨h.1.1.1.1.1, h.1.1.2, fun c hc => ?_⟩
 have h8 : n.toNat ≤ 8 := by omega
 have h2 := clsB_mem h8 h.2 hc
 refine ⟨?_, any_pre c (cl_any h8 h2)⟩
 obtain ⟨k', n', s', t', l'⟩ := c
 rw [clB] at h2
 simp only [Bool.and_eq_true, beq_iff_eq] at h2
 show n' = n
 have := h2.1.1.1.2
 omega
theorem modB_ok {m : Tm} (h : modB m = true) : m.k = 1 ∧ ∀ f ∈ m.l, FunOk f := by
 obtain ⟨k, n, s, t, l⟩ := m
 rw [modB] at h
 simp only [Bool.and_eq_true, beq_iff_eq, List.all_eq_true] at h
 exact ⟨h.1.1.1.1, fun f hf => funB_ok (h.2 f hf)⟩
theorem modsB_ok {x : Tm} (h : modsB x = true) : x.k = 0 ∧ ∀ m ∈ x.l, m.k = 1 ∧ ∀ f ∈ m.l, FunOk f := by
 obtain ⟨k, n, s, t, l⟩ := x
 rw [modsB] at h
 simp only [Bool.and_eq_true, beq_iff_eq, List.all_eq_true] at h
 exact ⟨h.1.1.1.1, fun m hm => modB_ok (h.2 m hm)⟩
def fltP (p : Nat) : List Tm → List (Int × Nat)
 | [] => []
 | z :: l => (if z.k = 2 then clsF (p + 1) z.l else []) ++ fltP (p + 1) l
theorem fltP_append : ∀ (a b : List Tm) (p : Nat), fltP p (a ++ b) = fltP p a ++ fltP (p + a.length) b
 | [], b, p => rfl
 | z :: a, b, p => by
  rw [List.cons_append, fltP, fltP, fltP_append a b, List.append_assoc, List.length_cons, show p + 1 + a.length = p + (a.length + 1) by omega]
theorem fltP_none : ∀ (a : List Tm) (p : Nat), (∀ z ∈ a, z.k ≠ 2) → fltP p a = []
 | [], _, _ => rfl
 | z :: a, p, h => by rw [fltP, if_neg (h z List.mem_cons_self), fltP_none a _ (fun y hy => h y (List.mem_cons_of_mem _ hy))]; rfl
theorem fltP_take {a : List Tm} {i : Nat} {z : Tm} (h : a[i]? = some z) : fltP 0 (a.take (i + 1)) = fltP 0 (a.take i) ++ (if z.k = 2 then clsF (i + 1) z.l else []) := by
 have hi := (List.getElem?_eq_some_iff.1 h).1
 rw [List.take_add_one, h, Option.toList, fltP_append, fltP, fltP, List.append_nil, List.length_take, Nat.min_eq_left (Nat.le_of_lt hi), Nat.zero_add]
theorem fltP_fun {f : Tm} (h : FunOk f) (p : Nat) : fltP p f.pre = clsF (p + 1) f.l := by
 obtain ⟨k, n, s, t, l⟩ := f
 rw [Tm.pre, fltP, if_pos h.kind, fltP_none (Tm.pres l) _ (fun z hz => by
  obtain ⟨y, hy, hzy⟩ := mem_presX hz
  exact ((h.cls y hy).2 z hzy).2), List.append_nil]

theorem fltP_funs : ∀ (l : List Tm) (p : Nat), (∀ f ∈ l, FunOk f) → fltP p (Tm.pres l) = funsF p l
 | [], _, _ => rfl
 | f :: l, p, h => by
  rw [Tm.pres, fltP_append, fltP_fun (h f List.mem_cons_self), fltP_funs l _ (fun g hg => h g (List.mem_cons_of_mem _ hg)), funsF]
  rfl
theorem fltP_mods : ∀ (l : List Tm) (p : Nat), (∀ m ∈ l, m.k = 1 ∧ ∀ f ∈ m.l, FunOk f) → fltP p (Tm.pres l) = modsF p l
 | [], _, _ => rfl
 | m :: l, p, h => by
  obtain ⟨h1, h2⟩ := h m List.mem_cons_self
  have e : fltP p m.pre = funsF (p + 1) m.l := by
   obtain ⟨k, n, s, t, q⟩ := m
   have hk : k = 1 := h1
   rw [Tm.pre, fltP, if_neg (by show ¬ k = 2; omega), fltP_funs q _ h2]
   rfl
  rw [Tm.pres, fltP_append, e, fltP_mods l _ (fun g hg => h g (List.mem_cons_of_mem _ hg)), modsF]
  rfl
theorem fltP_eq {x : Tm} (h : modsB x = true) : fltP 0 x.pre = modsF 1 x.l := by
 obtain ⟨h1, h2⟩ := modsB_ok h
 obtain ⟨k, n, s, t, l⟩ := x
 have hk : k = 0 := h1
 rw [Tm.pre, fltP, if_neg (by show ¬ k = 2; omega), fltP_mods l _ h2]
 rfl
theorem mem_pre_mods {x y : Tm} (h : modsB x = true) (hy : y ∈ x.pre) (h2 : y.k = 2) : FunOk y := by
 obtain ⟨h1, hm⟩ := modsB_ok h
 obtain ⟨k, n, s, t, l⟩ := x
 have hk : k = 0 := h1
 rw [Tm.pre] at hy
 rcases List.mem_cons.1 hy with rfl | hy
 ·exact absurd h2 (by show ¬ k = 2; omega)
 obtain ⟨m, hml, hy⟩ := mem_presX hy
 obtain ⟨hm1, hmf⟩ := hm m hml
 obtain ⟨k', n', s', t', l'⟩ := m
 rw [Tm.pre] at hy
 rcases List.mem_cons.1 hy with rfl | hy
 ·have hk' : k' = 1 := hm1
  exact absurd h2 (by show ¬ k' = 2; omega)
 obtain ⟨f, hf, hy⟩ := mem_presX hy
 have hfo := hmf f hf
 obtain ⟨k2, n2, s2, t2, l2⟩ := f
 rw [Tm.pre] at hy
 rcases List.mem_cons.1 hy with rfl | hy
 ·exact hfo
 obtain ⟨c, hc, hy⟩ := mem_presX hy
 exact absurd h2 (((hfo.cls c hc).2 y hy).2)
end Go.Proofs.YtmdcdhdjojimeaaGreatDoor
end
section
set_option linter.unusedVariables false
set_option linter.unusedSimpArgs false
namespace Go.Proofs.YtmdcdhdjojimeaaGreatDoor
open Go.RowKit

theorem run_own_row {T E : TypeId} {z : Value} {size : Nat} (hT : ElT T E z size) (w : World) (ty : TypeId) {base : Nat} {v : Value} {n : Nat} {xs : List Value} (hown : w.ownsRow base E size v n xs) (hbase : base ≤ w.heap.size)
    {base2 : Nat} {v2 : Value} {m : Nat} {ys : List Value} (h2 : w.ownsRow base2 E size v2 m ys) (h1 : ∀ u ∈ ys, u.oneCell' = true) (hlen : n + m ≤ 2000000) :
    ∃ v' w', (Builtin.append_ #[T, T] ty #[v, v2]).run Tryz.prog w = .ok v' w' ∧ w'.ownsRow base E size v' (n + m) (xs ++ ys) ∧ w.grownBy w' v.ownBlock ∧ (v'.ownBlock = v.ownBlock ∨ v'.ownBlock = some w.heap.size) := by
  obtain ⟨i, hi, hz, hsz, hby⟩ := hT.info
  rcases h2.2 with ⟨rfl, rfl⟩ | ⟨g, cap, cur, rfl, hg0, hg, _, _, _, _⟩
  · have hys : ys = [] := List.eq_nil_of_length_eq_zero (by rw [h2.1]; omega)
    subst hys
    obtain ⟨A, c, rfl, hc⟩ := own_slice hown
    refine ⟨.slice A n c, w, ?_, by rw [List.append_nil]; exact hown, World.grownBy.refl _ _, .inl rfl⟩
    cases A <;> simp [Builtin.append_, run_underlying hT.sl, sizeOf, typeInfo, hi, hc, Builtin.lenOf, Builtin.firstCells, storeCells]
  · have hnews : ∀ j u, ys[j]? = some u → w.cell? ((⟨g, 0, none⟩ : Addr).add j) = some u := by
      intro j u hj
      have e : (⟨g, 0, none⟩ : Addr).add j = ⟨g, j, none⟩ := by unfold Addr.add; split <;> simp_all
      have hlt := (List.getElem?_eq_some_iff.1 hj).1
      rw [e, h2.cellAt j (by rw [← h2.1]; exact hlt)]
      exact hj
    obtain ⟨v', w', hr, h2', h3, _, h5⟩ := run_append_own_at (P := Tryz.prog) w base T ty E i z size i.bytes hT.sl hi hz hsz rfl hT.zs hT.pos v n xs hown ⟨g, 0, none⟩ m cap ys h2.1 hnews h1 (by unfold maxLen; omega)
      (by have h9 : (n + m) * i.bytes ≤ 2000000 * 200 := Nat.mul_le_mul hlen hby
          omega) hbase
    exact ⟨v', w', hr, h2', h3, h5⟩
theorem wp_own_row {T E : TypeId} {z : Value} {size : Nat} (hT : ElT T E z size) {o : Oper} {a : Act} {w : World} {K : Act → World → Prop} {Q : Exit → Act → World → Prop} (sl x : Operand)
  (ho : o.op = .call { callee := .builtin .append, args := #[sl, x], argTypes := #[T, T] })
  {base : Nat} {v : Value} {n : Nat} {xs : List Value} (hown : w.ownsRow base E size v n xs) (hbase : base ≤ w.heap.size) (he : a.eval sl = v)
  {base2 : Nat} {v2 : Value} {m : Nat} {ys : List Value} (h2 : w.ownsRow base2 E size v2 m ys) (hx : a.eval x = v2) (h1 : ∀ u ∈ ys, u.oneCell' = true) (hlen : n + m ≤ 2000000)
  (h : ∀ v' w', w'.ownsRow base E size v' (n + m) (xs ++ ys) → w.grownBy w' v.ownBlock → (v'.ownBlock = v.ownBlock ∨ v'.ownBlock = some w.heap.size) → K (a.put o.dst v') w') : o.wp Tryz.prog a w K Q := by
 obtain ⟨v', w', hr, h3, h4, h5⟩ := run_own_row hT w o.type hown hbase h2 h1 hlen
 unfold Oper.wp execOp
 simp only [ho, resolve, invoke, builtin, Sem.run_bind, Sem.run_pure, Result.andThen_ok, List.map_toArray, List.map_cons, List.map_nil, he, hx, hr]
 exact h _ _ h3 h4 h5
theorem pres_place : ∀ {l : List Tm} (h : ∀ y ∈ l, ∀ (i : Nat) (z : Tm), y.pre[i]? = some z → ∃ r, y.pre.drop i = z.pre ++ r) (i : Nat) (z : Tm), (Tm.pres l)[i]? = some z → ∃ r, (Tm.pres l).drop i = z.pre ++ r
 | [], _, i, z, hz => by simp [Tm.pres] at hz
 | y :: l, h, i, z, hz => by
  rw [Tm.pres] at hz ⊢
  by_cases hi : i < y.pre.length
  ·rw [List.getElem?_append_left hi] at hz
   obtain ⟨r, hr⟩ := h y List.mem_cons_self i z hz
   exact ⟨r ++ Tm.pres l, by rw [List.drop_append_of_le_length (Nat.le_of_lt hi), hr, List.append_assoc]⟩
  ·rw [List.getElem?_append_right (by omega)] at hz
   obtain ⟨r, hr⟩ := pres_place (fun y' hy' => h y' (List.mem_cons_of_mem _ hy')) _ z hz
   refine ⟨r, ?_⟩
   rw [List.drop_append, List.drop_eq_nil_of_le (by omega), List.nil_append, hr]
theorem pre_place (x : Tm) : ∀ (i : Nat) (z : Tm), x.pre[i]? = some z → PlaceAt x.pre i z := by
 induction x using Tm.ind with
 | h k n s t l ih =>
 intro i z hz
 rw [Tm.pre] at hz
 unfold PlaceAt
 match i, hz with
 | 0, hz =>
  simp at hz; subst hz
  exact ⟨[], by rw [List.append_nil]; rfl⟩
 | i + 1, hz =>
  obtain ⟨r, hr⟩ := pres_place (fun y hy i z h => ih y hy i z h) i z (by simpa using hz)
  refine ⟨r, ?_⟩
  rw [Tm.pre, List.drop_succ_cons]
  exact hr
end Go.Proofs.YtmdcdhdjojimeaaGreatDoor
end
section
set_option linter.unusedVariables false
set_option linter.unusedSimpArgs false
namespace Go.Proofs.YtmdcdhdjojimeaaGreatDoor
open Go.RowKit Go.Shelf
attribute [local go_sem] Oper.semAt_some

structure KeepB (V V' : World) : Prop where
 size : V.heap.size ≤ V'.heap.size
 cells : ∀ (k : Nat) (c : Array Value) (t : TypeId) (z : Nat × Nat), V.heap[k]? = some (.cells c t z) → t = 102 ∨ t = 66 ∨ t = 3 → V'.heap[k]? = some (.cells c t z)
theorem KeepB.refl (V : World) : KeepB V V := ⟨Nat.le_refl _, fun _ _ _ _ h _ => h⟩
theorem KeepB.trans {A B C : World} (h : KeepB A B) (g : KeepB B C) : KeepB A C := ⟨Nat.le_trans h.size g.size, fun k c t z hk h1 => g.cells k c t z (h.cells k c t z hk h1) h1⟩
theorem KeepB.put {W : World} {l : Nat} {o o' : Obj} (h : W.heap[l]? = some o) (ho : o.isCells = false) : KeepB W (W.putObj l o') :=
 ⟨by rw [World.putObj_size]; exact Nat.le_refl _, fun k c t z hk _ => (World.putObj_heap_other (fun e => by subst e; rw [h] at hk; cases hk; cases ho)).trans hk⟩
theorem KeepB.of_below {A B : World} (h : Below A.heap.size A B) : KeepB A B := ⟨h.size, fun k c t z hk _ => (h.block k (heap_lt hk)).trans hk⟩
theorem Bet.keepB {LB lc bf bt bl : Nat} {P : List Tm} {p E : Nat} {W W' : World} (h : Bet LB lc bf bt bl P p E W) (k : KeepB W W') : Bet LB lc bf bt bl P p E W' := by
 obtain ⟨cs, h1, h2⟩ := h.row.row
 have h3 := k.cells _ _ _ _ h1 (.inl rfl)
 exact ⟨k.cells _ _ _ _ h.from_ (.inr (.inr rfl)), k.cells _ _ _ _ h.to_ (.inr (.inr rfl)), k.cells _ _ _ _ h.lay (.inr (.inl rfl)), h.row.len, h.row.cap, cs, h3, h2⟩
set_option maxHeartbeats 4000000 in
set_option maxRecDepth 100000 in
theorem between1_stopsB (LB lc bf bt bl : Nat) (P : List Tm) (p E : Nat) (L : List Tm) (n : Nat) (hn : 1 ≤ n) (w : World) (hB : Bet LB lc bf bt bl P p E w) (hP : PlacesAt P p L) (hp : p ≤ P.length) (hE : E = p + (Tm.pres L).length) :
  SeqE n Tryz.prog 91 #[.pointer (some ⟨bf, 0, none⟩), .pointer (some ⟨bt, 0, none⟩), .pointer (some ⟨bl, 0, none⟩)] encP KeepB (fun pre q => ∃ j, pre = (placesL p L).take j ∧ (placesL p L)[j]? = some q) (fun ys => ys = placesL p L) (fun pre => ∃ k, pre = (placesL p L).take k) w := by
 intro l J Jx W hW _ _ hY h0
 have hBW : Bet LB lc bf bt bl P p E W := hB.keep ⟨hW.size, fun k c t z hk _ _ _ => (hW.block k (heap_lt hk)).trans hk⟩
 have hlen := hB.row.len
 have hle := hP.le hp
 have c1 : W.cell? ⟨bf, 0, none⟩ = some (.int .i64 (p : Int)) := cell_of_row hBW.from_ rfl
 have HB := Lib.hid hBW
 have HE := Lib.hid hE
 have HP := Lib.hid hP
 have HY := Lib.hid hY
 have H0 := Lib.hid h0
 have HN := Lib.hid hn
 have HEP : Hid (E ≤ P.length) := by show _ ≤ _; omega
 have HPL := Lib.hid hlen
 clear hB hW hY h0 hBW hlen hle hE hP hp hn
 refine callsIn_of_wp Tryz.func91 rfl trivial ?_ rfl
 simp only [Tryz.ntmps91, List.size_toArray, List.length_cons, List.length_nil, Nat.reduceAdd, Nat.reduceSub, Array.replicate_succ, Array.replicate_zero, List.push_toArray, List.append_toArray, List.nil_append, List.cons_append]
 gi_wp2_with fail
 clear c1
 gi_loopw [5] (fun q wr => ∃ j : Nat, j ≤ L.length ∧ (∃ r : Nat, q = .int .i64 (r : Int) ∧ r = p + (Tm.pres (L.take j)).length) ∧ J ((placesL p L).take j) wr ∧ Bet LB lc bf bt bl P p E wr) (fun q _ => E - (intOf q).toNat)
 case atStart => exact ⟨0, Nat.zero_le _, ⟨p, rfl, by simp [Tm.pres]⟩, by rw [List.take_zero]; exact H0.out, HB.out⟩
 case round =>
  obtain ⟨j, hj, ⟨r, rfl, hr⟩, hJr, hBr⟩ := hrel
  have c2 : wr.cell? ⟨bt, 0, none⟩ = some (.int .i64 (E : Int)) := cell_of_row hBr.to_ rfl
  have HJ := Lib.hid hJr
  have HBr := Lib.hid hBr
  have HR := Lib.hid hr
  clear hJr hBr hr
  by_cases hlt : j < L.length
  ·obtain ⟨x, hx⟩ : ∃ x, L[j]? = some x := ⟨L[j], List.getElem?_eq_getElem hlt⟩
   have hpl := HP.out.at_ hx
   have hpn := Tm.pre_ne x
   have hsx : (Tm.pres (L.take (j + 1))).length = (Tm.pres (L.take j)).length + x.nodes := by rw [Tm.pres_take_succ hx, List.length_append]; rfl
   have htl := pres_take_le L (j + 1)
   have hr1 : (r : Int) < (E : Int) := by have := HR.out; have := HE.out; unfold Tm.nodes at hsx; omega
   have hrP : P[r]? = some x := by rw [HR.out]; exact hpl.get
   have hgl := placesL_get L p j hlt
   have htk : (placesL p L).take (j + 1) = (placesL p L).take j ++ [r] := by rw [List.take_add_one, hgl, ← HR.out]; rfl
   obtain ⟨fn, tmps, assign, body, hy, hRound⟩ := HY.out ((placesL p L).take j) r wr HJ.out ⟨j, rfl, by rw [hgl, HR.out]⟩
   unfold encP at hy
   have hr9 : r + x.nodes = p + (Tm.pres (L.take (j + 1))).length := by rw [HR.out, hsx]; omega
   have HX := Lib.hid hrP
   have HTK := Lib.hid htk
   have HR9 := Lib.hid hr9
   have HLT := Lib.hid hlt
   have HPN : Hid (1 ≤ x.nodes) := hpn
   clear hx hpl hpn hsx htl hrP hgl htk hr9 hlt
   gi_wp2_with fail
   refine ⟨fun h => (by cases h), ?_⟩
   refine hRound.mono ?_
   clear hRound hy c2
   rintro e W3 (⟨rfl, hJ3, hK3⟩ | ⟨rfl, hx3⟩)
   ·have hB3 := HBr.out.keepB hK3
    have c3 : W3.cell? ⟨bl, 0, none⟩ = some (.slice (some ⟨LB, 0, none⟩) P.length lc) := cell_of_row hB3.lay rfl
    obtain ⟨A, cap, -, -, -, -, -, s5⟩ := hB3.row.spot HX.out
    have had := add6 LB r
    have hr2 : (r : Int) < (P.length : Int) := by have := HEP.out; omega
    have hr0 : (0 : Int) ≤ (r : Int) := by omega
    have HJ3 := Lib.hid hJ3
    have HB3 := Lib.hid hB3
    obtain ⟨r2, hr2e⟩ : ∃ r2 : Nat, r2 = r + x.nodes := ⟨_, rfl⟩
    rw [← hr2e] at s5
    have HR2 := Lib.hid hr2e
    clear hJ3 hB3 hK3 hr2e
    gi_wp2_with fail
    go_roundw
    case rel => exact ⟨j + 1, HLT.out, ⟨r2, rfl, by rw [HR2.out, HR9.out]⟩, by rw [HTK.out]; exact HJ3.out, HB3.out⟩
    case measure => simp [intOf]; have := HR2.out; have := HPN.out; omega
   ·gi_wp2_with fail
    go_end0
    exact ⟨⟨_, rfl⟩, .inr ⟨_, ⟨j + 1, HTK.out.symm⟩, hx3⟩⟩
  ·obtain rfl : j = L.length := by omega
   have hr1 : ¬ (r : Int) < (E : Int) := by have h1 := HR.out; rw [List.take_length] at h1; have := HE.out; omega
   gi_wp2_with fail
   refine ⟨fun f h => (by cases h), ?_⟩
   gi_wp2_with fail
   go_end0
   refine ⟨⟨_, rfl⟩, .inl ⟨_, rfl, ?_⟩⟩
   have h1 := HJ.out
   rw [List.take_of_length_le (by rw [placesL_len]; exact Nat.le_refl _)] at h1
   exact h1
end Go.Proofs.YtmdcdhdjojimeaaGreatDoor
end
section
set_option linter.unusedVariables false
namespace Go.Proofs.YtmdcdhdjojimeaaGreatDoor
open Go.RowKit

theorem TRow.later {w V : World} {A : Option Addr} {n cap : Nat} {l : List Tm} (h : TRow (· < w.heap.size) w A n cap l) (hb : Below w.heap.size w V) : TRow (· < V.heap.size) V A n cap l :=
 h.keep (fun b hb' => hb.block b hb') (fun b hb' => Nat.lt_of_lt_of_le hb' hb.size)
end Go.Proofs.YtmdcdhdjojimeaaGreatDoor
end
