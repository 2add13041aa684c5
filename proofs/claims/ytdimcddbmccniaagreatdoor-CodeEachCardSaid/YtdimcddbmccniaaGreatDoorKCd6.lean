/- Layer 13: the set of places that a code names: gather, below. -/
import Derived.Test.YtdimcddbmccniaaGreatDoorKRangeO
import Derived.Test.YtdimcddbmccniaaGreatDoorKVar7
import Derived.Test.YtdimcddbmccniaaGreatDoorKTmL
import Derived.Test.YtdimcddbmccniaaGreatDoorKCd1
import Derived.Lib.AppendIntMem
import Derived.Lib.ItoaLen
import Derived.Maps.Keyed
import Derived.Laws.IdiomRangeMap
import Derived.WalkKit
import Derived.Lib.Hide
section
set_option linter.unusedVariables false
set_option linter.unusedSimpArgs false
namespace Go.Proofs.YtdimcddbmccniaaGreatDoor
open Go.RowKit
open Go.Lib (decDigits itoa)

theorem ret_str {a b : ByteArray} (h : a = b) : Ending.returned (.string a) = .returned (.string b) := by rw [h]
theorem ret_ib {k : IntKind} {a b : Int} {c d : Bool} (h : a = b) (h2 : c = d) : Ending.returned (.tuple #[.int k a, .bool c]) = .returned (.tuple #[.int k b, .bool d]) := by rw [h, h2]
theorem pow7_tab {w : World} (h : PowTab7 w) : Go.Lib.TabIs Tryz.prog w "internal/strconv.uint64pow10" .u64 Go.Lib.pow10Tab := h (by kernel_rfl)
set_option maxHeartbeats 1000000 in
theorem name13_any (n : Int) (w : World) (h0 : -9223372036854775808 ≤ n) (h1 : n ≤ 9223372036854775807) (hp : PowTab7 w) :
    Calls Tryz.prog 45 #[.int .i64 n] w fun e w' => e = .returned (.string (nameV n)) ∧ Below w.heap.size w w' := by
  by_cases ha : n < 0
  · have H : Hid (nameV n = ⟨#[]⟩) := Lib.hid (by unfold nameV; rw [if_pos (.inl ha)])
    go_enter Tryz.func45, Tryz.ntmps45
    go_wp2
    go_ret
    exact ⟨ret_str H.out.symm, Below.refl _ _⟩
  by_cases hb : 32 ≤ n
  · have H : Hid (nameV n = ⟨#[]⟩) := Lib.hid (by unfold nameV; rw [if_pos (.inr hb)])
    go_enter Tryz.func45, Tryz.ntmps45
    go_wp2
    go_ret
    exact ⟨ret_str H.out.symm, Below.refl _ _⟩
  have H : Hid (nameV n = ⟨(86 :: itoa n).toArray⟩) := Lib.hid (by unfold nameV; rw [if_neg (by omega)])
  have HI := Lib.hid (Tryz.strconv_Itoa n h0 h1 w (pow7_tab hp))
  clear hp
  go_enter Tryz.func45, Tryz.ntmps45
  go_wp2_with fail
  refine HI.out.mono ?_
  rintro e Y ⟨rfl, k9, os9, hY⟩
  have HB : Hid (Below w.heap.size w Y) := Lib.hid (by rw [hY]; exact Go.Lib.below_grow _ _ (Nat.le_refl _) _ _)
  clear hY
  obtain ⟨num, hnum⟩ : ∃ num : ByteArray, num = ⟨(itoa n).toArray⟩ := ⟨_, rfl⟩
  rw [← hnum]
  have HN := Lib.hid hnum
  have hns : num.size ≤ 21 := by
    have h2 : num.data.toList.length = num.size := by rw [Array.length_toList]; rfl
    have h3 := Go.Lib.itoa_length_le n h0 h1
    rw [hnum] at h2 ⊢
    have h4 : (itoa n).length = (ByteArray.mk (itoa n).toArray).size := by simp [ByteArray.size]
    omega
  clear hnum
  go_wp2_with fail
  go_ret
  exact ⟨ret_str (by rw [H.out, HN.out]; rfl), HB.out⟩

theorem trimV_eq (l : List UInt8) : Go.Lib.trimPrefix l [86] = trimV l := by
  unfold Go.Lib.trimPrefix
  cases l with
  | nil => rfl
  | cons c l =>
    unfold trimV Go.Lib.hasPrefix
    by_cases h : c = 86
    · subst h; simp [List.isPrefixOf]
    · have h2 : (86 == c) = false := by rw [beq_eq_false_iff_ne]; exact fun e => h e.symm
      rw [List.isPrefixOf, h2]
      show c :: l = if c = 86 then l else c :: l
      rw [if_neg h]
theorem trimV_le (l : List UInt8) : (trimV l).length ≤ l.length := by
  unfold trimV
  cases l with
  | nil => simp
  | cons c l => simp only []; split <;> simp
theorem dg_le13 (l : List UInt8) (k : Nat) : -1 ≤ (fit (held (vl l k))).1 ∧ (fit (held (vl l k))).1 ≤ 576460752303423487 := by
  unfold fit
  split
  · rename_i h
    have := may_bd h
    have h2 := held_bd (vl l k)
    omega
  · simp
theorem slotN_bd (s : ByteArray) : -9223372036854775808 ≤ slotN s ∧ slotN s ≤ 9223372036854775807 := by
  unfold slotN
  by_cases h : dg (trimV s.data.toList) = 0
  · rw [readR_none h]; decide
  · rw [readR_some rfl h]
    have := dg_le13 (trimV s.data.toList) (dg (trimV s.data.toList))
    omega
set_option maxHeartbeats 2000000 in
theorem slot13_any (s : ByteArray) (w : World) (hs : s.size ≤ maxLen) (hp : PowTab7 w) :
    Calls Tryz.prog 217 #[.string s] w fun e w' => e = .returned (.tuple #[.int .i64 (if slotB s = true then slotN s else 0), .bool (slotB s)]) ∧ Below w.heap.size w w' := by
  have H1 : Hid (Calls Tryz.prog 259 #[.string s, .string ⟨#[86]⟩] w fun e w' => e = .returned (.string ⟨(trimV s.data.toList).toArray⟩) ∧ w = w') := Lib.hid ((Tryz.strings_TrimPrefix s ⟨#[86]⟩ w).mono fun e w' h => ⟨by rw [h.1]; rw [show (ByteArray.mk #[86]).data.toList = [86] from rfl, trimV_eq], h.2.symm⟩)
  obtain ⟨t, ht⟩ : ∃ t : ByteArray, t = ⟨(trimV s.data.toList).toArray⟩ := ⟨_, rfl⟩
  rw [← ht] at H1
  have hts : t.data.toList = trimV s.data.toList := by rw [ht]
  have htz : t.size ≤ maxLen := by
    have h1 : t.data.toList.length = t.size := by rw [Array.length_toList]; rfl
    have h2 : s.data.toList.length = s.size := by rw [Array.length_toList]; rfl
    have := trimV_le s.data.toList
    rw [hts] at h1
    omega
  have HRD := Lib.hid (Read_any t w htz)
  obtain ⟨q, hq⟩ : ∃ q, q = readR t.data.toList := ⟨_, rfl⟩
  rw [← hq] at HRD
  obtain ⟨q1, q2, q3⟩ := q
  have hn : slotN s = q1 := by unfold slotN; rw [← hts, ← hq]
  have hbd := slotN_bd s
  rw [hn] at hbd
  have HN := Lib.hid (name13_any q1 w hbd.1 hbd.2 hp)
  obtain ⟨r1, hr1⟩ : ∃ r1, r1 = (if slotB s = true then slotN s else 0) := ⟨_, rfl⟩
  obtain ⟨rb, hrb⟩ : ∃ rb, rb = slotB s := ⟨_, rfl⟩
  rw [← hr1, ← hrb]
  have HR1 := Lib.hid hr1
  have HRB := Lib.hid hrb
  clear hr1 hrb
  have HSB : Hid (slotB s = decide (nameV q1 = s)) := Lib.hid (by unfold slotB; rw [hn])
  have HSN := Lib.hid hn
  clear ht hts htz hq hn hbd hp hs
  obtain ⟨u, hu⟩ : ∃ u, u = nameV q1 := ⟨_, rfl⟩
  rw [← hu] at HN HSB
  clear hu
  go_enter Tryz.func217, Tryz.ntmps217
  go_wp2_with fail
  refine H1.out.mono ?_
  rintro e w2 ⟨rfl, rfl⟩
  go_wp2_with fail
  refine HRD.out.mono ?_
  rintro e w2 ⟨rfl, rfl⟩
  go_wp2_with fail
  refine HN.out.mono ?_
  rintro e w2 ⟨rfl, b2⟩
  have HB := Lib.hid b2
  clear b2
  by_cases h : u = s
  · have hb : (u.toList == s.toList) = true := by rw [h]; simp
    have hb2 : u.toList = s.toList := by rw [h]
    have HF : Hid (slotB s = true) := Lib.hid (by rw [HSB.out]; exact decide_eq_true h)
    clear h
    go_wp2_with fail
    go_ret2
    exact ⟨ret_ib (by rw [HR1.out, HF.out, if_pos rfl, HSN.out]) (by rw [HRB.out, HF.out]), HB.out⟩
  · have hb2 : ¬ u.toList = s.toList := by
      intro e; exact h (ByteArray.ext (Array.toList_inj.1 (by rwa [ByteArray.toList_eq, ByteArray.toList_eq] at e)))
    have hb : (u.toList == s.toList) = false := by rw [beq_eq_false_iff_ne]; exact hb2
    have HF : Hid (slotB s = false) := Lib.hid (by rw [HSB.out]; exact decide_eq_false h)
    clear h
    go_wp2_with fail
    go_ret2
    exact ⟨ret_ib (by rw [HR1.out, HF.out]; rfl) (by rw [HRB.out, HF.out]), HB.out⟩
end Go.Proofs.YtdimcddbmccniaaGreatDoor
end
section
set_option linter.unusedVariables false
set_option linter.unusedSimpArgs false
namespace Go.Proofs.YtdimcddbmccniaaGreatDoor
open Go.RowKit

structure SetI (es : Array MapEntry) (c : Nat) (L : List Int) : Prop where
  key : ∀ x ∈ es.toList, (∃ n, x.key = .int .i64 n) ∧ x.val = .agg #[]
  mem : ∀ n, (∃ x ∈ es.toList, x.key = .int .i64 n) ↔ n ∈ L
  st : MapKept.Stamped es c
theorem SetI.nil : SetI #[] 0 [] := ⟨by simp, by simp, MapKept.stamped_empty 0⟩
theorem SetI.ext {es : Array MapEntry} {c : Nat} {L M : List Int} (h : SetI es c L) (e : ∀ f, f ∈ L ↔ f ∈ M) : SetI es c M := ⟨h.key, fun s => (h.mem s).trans (e s), h.st⟩
theorem SetI.isKey {es : Array MapEntry} {c : Nat} {L : List Int} (h : SetI es c L) : ∀ x ∈ es.toList, MapKept.IsKey (.int .i64) x.key := by
  intro x hx
  obtain ⟨⟨n, e⟩, _⟩ := h.key x hx
  rw [e]; simp [MapKept.IsKey]
theorem SetI.put {es : Array MapEntry} {c : Nat} {L : List Int} (h : SetI es c L) {P : Program} {t k e : TypeId} (ht : P.underlying t = some (.map k e)) (hk : P.underlying k = some (.int .i64)) (w : World) (mb : Nat) (hb : w.heap[mb]? = some (.map es c)) (n : Int) :
    ∃ es2 c2, (Instr.mapUpdate t (.map (some mb)) (.int .i64 n) (.agg #[])).run P w = .ok () (w.putObj mb (.map es2 c2)) ∧ SetI es2 c2 (L ++ [n]) := by
  have hkey : MapKept.IsKey (.int .i64) (.int .i64 n) := by simp [MapKept.IsKey]
  rcases MapKept.findNow_spec hkey es.toList 0 h.isKey with ⟨h1, h2⟩ | ⟨j, e, h1, hj, h3⟩
  · refine ⟨es.push ⟨.int .i64 n, .agg #[], c⟩, c + 1, ?_, ?_, ?_, MapKept.stamped_push h.st (fun x hx => h2 x hx)⟩
    · simp [Instr.mapUpdate, run_underlying ht, MapKept.run_getObj_map hb, MapKept.run_checkKey hk hkey, MapKept.run_findKey hk h1, MapKept.run_setObj_map _ hb, Result.andThen]
      rfl
    · intro x hx
      simp only [Array.toList_push, List.mem_append, List.mem_singleton] at hx
      rcases hx with hx | rfl
      · exact h.key x hx
      · exact ⟨⟨n, rfl⟩, rfl⟩
    · intro g
      simp only [Array.toList_push, List.mem_append, List.mem_singleton]
      constructor
      · rintro ⟨x, hx | rfl, e⟩
        · exact .inl ((h.mem g).1 ⟨x, hx, e⟩)
        · simp at e; exact .inr e.symm
      · rintro (hg | rfl)
        · obtain ⟨x, hx, e⟩ := (h.mem g).2 hg; exact ⟨x, .inl hx, e⟩
        · exact ⟨_, .inr rfl, rfl⟩
  · have hje : es[j]? = some e := by simpa using hj
    have hkeyE : ∀ e', es[j]? = some e' → ({ e' with key := .int .i64 n, val := .agg #[] } : MapEntry).key = e'.key := fun e' he' => by rw [hje] at he'; cases he'; exact h3.symm
    refine ⟨es.modify j (fun e' => { e' with key := .int .i64 n, val := .agg #[] }), c, ?_, ?_, ?_, ?_⟩
    · simp [Instr.mapUpdate, run_underlying ht, MapKept.run_getObj_map hb, MapKept.run_checkKey hk hkey, MapKept.run_findKey hk h1, MapKept.run_setObj_map _ hb, Result.andThen, hje, h3, MapKept.run_keyThatStays hkey]
      rfl
    · intro x hx
      rcases MapFrom.mem_modify hx with hx | ⟨e', _, rfl⟩
      · exact h.key x hx
      · exact ⟨⟨n, rfl⟩, rfl⟩
    · intro g
      have hkk := MapKept.modify_keys (es := es) j (fun e' => { e' with key := .int .i64 n, val := .agg #[] }) hkeyE
      have e1 : (∃ x ∈ (es.modify j (fun e' => { e' with key := .int .i64 n, val := .agg #[] })).toList, x.key = .int .i64 g) ↔ (∃ x ∈ es.toList, x.key = .int .i64 g) := by
        constructor
        · rintro ⟨x, hx, e⟩
          have : x.key ∈ (es.modify j (fun e' => { e' with key := .int .i64 n, val := .agg #[] })).toList.map (·.key) := List.mem_map.2 ⟨x, hx, rfl⟩
          rw [hkk] at this
          obtain ⟨y, hy, e2⟩ := List.mem_map.1 this
          exact ⟨y, hy, e2.trans e⟩
        · rintro ⟨x, hx, e⟩
          have : x.key ∈ es.toList.map (·.key) := List.mem_map.2 ⟨x, hx, rfl⟩
          rw [← hkk] at this
          obtain ⟨y, hy, e2⟩ := List.mem_map.1 this
          exact ⟨y, hy, e2.trans e⟩
      rw [e1, h.mem g, List.mem_append, List.mem_singleton]
      refine ⟨.inl, fun hg => ?_⟩
      rcases hg with hg | rfl
      · exact hg
      · exact (h.mem g).1 ⟨e, List.mem_of_getElem? hj, h3⟩
    · exact MapKept.stamped_modify h.st j _ (fun _ _ => rfl) (fun e' he' hj' => hkeyE e' hj')
end Go.Proofs.YtdimcddbmccniaaGreatDoor
end
section
set_option linter.unusedVariables false
set_option linter.unusedSimpArgs false
namespace Go.Proofs.YtdimcddbmccniaaGreatDoor
open Go.RowKit

def GS (mb : Nat) (S : List Int) (W : World) : Prop := ∃ es c, W.heap[mb]? = some (.map es c) ∧ SetI es c S
theorem GS.lt {mb : Nat} {S : List Int} {W : World} (h : GS mb S W) : mb < W.heap.size := by obtain ⟨es, c, h, _⟩ := h; exact heap_lt h
theorem GS.keep {mb : Nat} {S : List Int} {W V : World} (h : GS mb S W) (hb : Below W.heap.size W V) : GS mb S V := by
  have hl := h.lt
  obtain ⟨es, c, h, s⟩ := h; exact ⟨es, c, (hb.block _ hl).trans h, s⟩
theorem GS.nil {mb : Nat} {W : World} (h : W.heap[mb]? = some (.map #[] 0)) : GS mb [] W := ⟨_, _, h, SetI.nil⟩
theorem GS.put {mb : Nat} {S : List Int} {W : World} (h : GS mb S W) (n : Int) :
    ∃ V, (Instr.mapUpdate 94 (.map (some mb)) (.int .i64 n) (.agg #[])).run Tryz.prog W = .ok () V ∧ GS mb (S ++ [n]) V ∧ Mod (fun k => k = mb) W V := by
  have hl := h.lt
  obtain ⟨es, c, h, s⟩ := h
  obtain ⟨es2, c2, h1, h2⟩ := s.put Tryz.underlying94 Tryz.underlying3 W mb h n
  exact ⟨_, h1, ⟨es2, c2, World.putObj_heap_same hl, h2⟩, Mod.putObj _ _ _ rfl⟩
abbrev Lo (mb : Nat) (W : World) : Nat → Prop := fun b => b < W.heap.size ∧ b ≠ mb
theorem CdAt.mod {mb : Nat} {W V : World} {c : Cd} {v : Value} (h : CdAt (Lo mb W) W c v) (m : Mod (fun k => k = mb) W V) : CdAt (Lo mb V) V c v :=
  h.keep (fun b hb => m.block b hb.1 hb.2) (fun b hb => ⟨Nat.lt_of_lt_of_le hb.1 m.size, hb.2⟩)
theorem PgAt.mod {mb : Nat} {W V : World} {x : Pg} {A B C : Option Addr} {ca cb cc : Nat} (h : PgAt (Lo mb W) W x A ca B cb C cc) (m : Mod (fun k => k = mb) W V) : PgAt (Lo mb V) V x A ca B cb C cc :=
  h.keep (fun b hb => m.block b hb.1 hb.2) (fun b hb => ⟨Nat.lt_of_lt_of_le hb.1 m.size, hb.2⟩)
theorem TmAt.modL {mb : Nat} {W V : World} {x : Tm} {v : Value} (h : TmAt (Lo mb W) W x v) (m : Mod (fun k => k = mb) W V) : TmAt (Lo mb V) V x v :=
  h.keep (fun b hb => m.block b hb.1 hb.2) (fun b hb => ⟨Nat.lt_of_lt_of_le hb.1 m.size, hb.2⟩)
theorem TmAt.loLt {mb : Nat} {W : World} {x : Tm} {v : Value} (h : TmAt (Lo mb W) W x v) : TmAt (· < W.heap.size) W x v := h.mono (fun _ h => h.1)
theorem TRow.modL {mb : Nat} {W V : World} {A : Option Addr} {n cap : Nat} {l : List Tm} (h : TRow (Lo mb W) W A n cap l) (m : Mod (fun k => k = mb) W V) : TRow (Lo mb V) V A n cap l :=
  h.keep (fun b hb => m.block b hb.1 hb.2) (fun b hb => ⟨Nat.lt_of_lt_of_le hb.1 m.size, hb.2⟩)
theorem TRow.loLt {mb : Nat} {W : World} {A : Option Addr} {n cap : Nat} {l : List Tm} (h : TRow (Lo mb W) W A n cap l) : TRow (· < W.heap.size) W A n cap l := h.mono (fun _ h => h.1)
def fldRow : Array Value := #[.int .u8 4, .int .u8 1, .int .u8 1, .int .u8 0, .int .u8 1, .int .u8 0, .int .u8 4, .int .u8 5, .int .u8 3, .int .u8 3, .int .u8 1, .int .u8 0, .int .u8 1, .int .u8 11, .int .u8 9, .int .u8 6, .int .u8 1, .int .u8 0, .int .u8 23, .int .u8 0]
def FldTab (w : World) : Prop := ∃ t fr, w.heap[1]? = some (.cells fldRow t fr)
structure Env13 (w : World) : Prop where
  env : Env7 w
  fld : FldTab w
theorem Env13.under {w w' : World} (h : Env13 w) (hb : Below w.heap.size w w') : Env13 w' := by
  refine ⟨h.env.under hb, ?_⟩
  obtain ⟨t, fr, h⟩ := h.fld
  exact ⟨t, fr, (hb.block _ (heap_lt h)).trans h⟩
structure EnvB (N : Nat) (W : World) : Prop where
  env : Env13 W
  keep : ∀ V, Below N W V → Env13 V
  le : N ≤ W.heap.size
theorem EnvB.of {W : World} (h : Env13 W) : EnvB W.heap.size W := ⟨h, fun V b => h.under b, Nat.le_refl _⟩
theorem EnvB.under {N : Nat} {W V : World} (h : EnvB N W) (b : Below N W V) : EnvB N V := ⟨h.keep V b, fun U c => h.keep U (b.trans c), Nat.le_trans h.le b.size⟩
theorem EnvB.mod {N mb : Nat} {W V : World} (h : EnvB N W) (hN : N ≤ mb) (m : Mod (fun k => k = mb) W V) : EnvB N V := h.under (m.below h.le (fun i e => by omega))

set_option maxHeartbeats 2000000 in
set_option maxRecDepth 100000 in
theorem gather_any (A : Option Addr) (a ca : Nat) (B : Option Addr) (b cb : Nat) (C : Option Addr) (c cc : Nat) (mb : Nat) (L : Option Addr) (cap : Nat) (l S : List Int) (W : World)
    (hR : NRow (fun b => b < W.heap.size ∧ b ≠ mb) W L l.length cap l) (hG : GS mb S W) :
    Calls Tryz.prog 70 #[.agg #[.slice A a ca, .slice B b cb, .slice C c cc, .map (some mb)], .slice L l.length cap] W fun e w' => e = .returned (.tuple #[]) ∧ GS mb (S ++ l) w' ∧ Mod (fun k => k = mb) W w' := by
  have hmax := hR.max
  unfold maxLen at hmax
  obtain ⟨W1, hW1⟩ : ∃ W1, W1 = W.alloc (.cells #[.slice A a ca, .slice B b cb, .slice C c cc, .map (some mb)] 96) := ⟨_, rfl⟩
  have b1 : Below W.heap.size W W1 := by rw [hW1]; exact (Below.refl _ W).alloc (Nat.le_refl _) _
  have g1 : W1.heap[W.heap.size]? = some (.cells #[.slice A a ca, .slice B b cb, .slice C c cc, .map (some mb)] 96 (0, 0)) := by rw [hW1]; exact block_alloc _ _
  have HG1 := Lib.hid (hG.keep b1)
  have HMB := Lib.hid hG.lt
  have HB1 := Lib.hid b1
  have HBX := Lib.hid g1
  have HR := Lib.hid hR
  clear hR hG b1 g1
  go_enter Tryz.func70, Tryz.ntmps70
  go_upto_region 1 with fail
  rw [← hW1]
  clear hW1
  go_wp2_with fail
  go_loopw [8] (fun i wr => ∃ j : Nat, j ≤ l.length ∧ i = .int .i64 j ∧ Hid (GS mb (S ++ l.take j) wr) ∧ Hid (Mod (fun k => k = mb) W1 wr)) (fun i _ => l.length - (intOf i).toNat)
  case atStart => exact ⟨0, Nat.zero_le _, rfl, Lib.hid (by simpa using HG1.out), Lib.hid (Mod.refl _ _)⟩
  case round =>
    obtain ⟨j, hj, rfl, HS, HM⟩ := hrel
    have hbx := HM.out.block W.heap.size (heap_lt HBX.out) (by have := HMB.out; omega)
    have x3 : wr.cell? ⟨W.heap.size, 3, none⟩ = some (.map (some mb)) := cell_of_row (i := 3) (hbx.trans HBX.out) rfl
    by_cases hlt : j < l.length
    case neg =>
      obtain rfl : j = l.length := by omega
      have HS2 : Hid (GS mb (S ++ l) wr) := Lib.hid (by have := HS.out; rwa [List.take_length] at this)
      clear HS hbx
      go_wp2_with fail
      go_end0
      exact ⟨rfl, HS2.out, (Mod.of_below HB1.out).trans HM.out (fun _ _ e => e)⟩
    obtain ⟨y, hy⟩ : ∃ y, l[j]? = some y := ⟨l[j], List.getElem?_eq_getElem hlt⟩
    obtain ⟨ad, rfl, had, hc, hbd⟩ := HR.out.at_ j y hy
    have h0 : wr.cell? (ad.add j) = some (.int .i64 y) := (HM.out.cell (by rw [add_block]; exact Nat.lt_of_lt_of_le had.1 HB1.out.size) (by rw [add_block]; exact had.2)).trans ((HB1.out.cell (by rw [add_block]; exact had.1)).trans hc)
    obtain ⟨V, hput, hGV, hMV⟩ := HS.out.put y
    have HY := Lib.hid hy
    have HGV := Lib.hid hGV
    have HMV := Lib.hid hMV
    clear hy hbx hc hGV hMV had
    go_wp2_with fail
    go_roundw
    case rel =>
      refine ⟨j + 1, by omega, by go_num, Lib.hid ?_, Lib.hid (HM.out.trans HMV.out (fun _ _ e => e))⟩
      rw [List.take_add_one, HY.out, ← List.append_assoc]
      exact HGV.out
    case measure => simp [intOf]; omega
end Go.Proofs.YtdimcddbmccniaaGreatDoor
end
