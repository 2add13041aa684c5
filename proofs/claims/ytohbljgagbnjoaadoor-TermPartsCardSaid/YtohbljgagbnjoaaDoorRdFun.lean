/- The reader: fun, name. -/
import Derived.Test.YtohbljgagbnjoaaDoorRdName
set_option linter.unusedVariables false
namespace Go.Proofs.YtohbljgagbnjoaaDoor
open Go.RowKit
open Go.Lib (decDigits itoa)

def funO (a b : ByteArray) (n : Int) : Obj := .cells #[.string a, .string b, .int .i64 n] 105
def funZ : Obj := .cells #[.string ⟨#[]⟩, .string ⟨#[]⟩, .int .i64 0] 105
theorem set_three {w : World} {b : Nat} {T : TypeId} {a0 a1 a2 : Value} (c0 c1 c2 : Value) (h : w.heap[b]? = some (.cells #[a0, a1, a2] T (0, 0))) :
    (((w.setCell ⟨b, 0, none⟩ c0).setCell ⟨b, 1, none⟩ c1).setCell ⟨b, 2, none⟩ c2).heap[b]? = some (.cells #[c0, c1, c2] T (0, 0)) ∧
    Mod (fun k => k = b) w (((w.setCell ⟨b, 0, none⟩ c0).setCell ⟨b, 1, none⟩ c1).setCell ⟨b, 2, none⟩ c2) := by
  refine ⟨set_row c2 (i := 2) (set_row c1 (i := 1) (set_row c0 (i := 0) h)), ?_⟩
  have m : ∀ (W : World) (i : Nat) (c : Value), Mod (fun k => k = b) W (W.setCell ⟨b, i, none⟩ c) := fun W i c => Mod.setCell _ _ _ (.inl rfl)
  exact ((m _ 0 _).trans (m _ 1 _) (fun _ _ h => h)).trans (m _ 2 _) (fun _ _ h => h)
/-- The world in which fun reads: what it answers with in block B, what it reads in block B + 1, a copy of the reader in block B + 2. -/
structure Ahead (w0 W : World) (s : ByteArray) (pos bg : Nat) (fs ft : ByteArray) (V : World) : Prop where
  rs : RS w0 (W.heap.size + 2) s pos bg V
  b0 : V.heap[W.heap.size]? = some funZ
  b1 : V.heap[W.heap.size + 1]? = some (funO fs ft 0)
  below : Below W.heap.size W V
theorem Ahead.on {w0 W V V' : World} {s : ByteArray} {pos pos' bg : Nat} {fs ft fs' ft' : ByteArray} (h : Ahead w0 W s pos bg fs ft V) (hr : RS w0 (W.heap.size + 2) s pos' bg V') (hb : V'.heap[W.heap.size + 1]? = some (funO fs' ft' 0)) (m : Mod (fun k => k = W.heap.size + 2 ∨ k = W.heap.size + 1) V V') : Ahead w0 W s pos' bg fs' ft' V' :=
  ⟨hr, (m.block _ (heap_lt h.b0) (by omega)).trans h.b0, hb, h.below.trans (m.below h.below.size (fun k hk => by omega))⟩
theorem Ahead.on' {w0 W V V' : World} {s : ByteArray} {pos pos' bg : Nat} {fs ft : ByteArray} (h : Ahead w0 W s pos bg fs ft V) (hr : RS w0 (W.heap.size + 2) s pos' bg V') (m : Mod (fun k => k = W.heap.size + 2) V V') : Ahead w0 W s pos' bg fs ft V' :=
  h.on hr ((m.block _ (heap_lt h.b1) (by omega)).trans h.b1) (m.mono (fun _ _ h => .inl h))
theorem ahead_of {w0 W : World} {rb pos bg : Nat} {s : ByteArray} (h : RS w0 rb s pos bg W) : Ahead w0 W s pos bg ⟨#[]⟩ ⟨#[]⟩ (((W.alloc funZ).alloc funZ).alloc (.cells #[.string s, .int .i64 pos, .int .i64 bg] 74)) := by
  have z1 : (W.alloc funZ).heap.size = W.heap.size + 1 := World.size_alloc _ _
  have z2 : ((W.alloc funZ).alloc funZ).heap.size = W.heap.size + 2 := by rw [World.size_alloc, z1]
  have hb : Below W.heap.size W (((W.alloc funZ).alloc funZ).alloc (.cells #[.string s, .int .i64 pos, .int .i64 bg] 74)) := (((Below.refl _ W).alloc (Nat.le_refl _) _).alloc (by simp) _).alloc (by omega) _
  have hlo : w0.heap.size ≤ W.heap.size := h.below.size
  refine ⟨⟨?_, h.below.trans (hb.mono hlo), by omega⟩, ?_, ?_, hb⟩
  · rw [← z2]; exact block_alloc _ _
  · rw [Below.heap_alloc _ _ _ (by omega), Below.heap_alloc _ _ _ (by omega)]; exact block_alloc _ _
  · rw [Below.heap_alloc _ _ _ (by omega), ← z1]; exact block_alloc _ _
theorem two_allocs {W : World} {rb : Nat} {c : Obj} (h : W.heap[rb]? = some c) : ((W.alloc funZ).alloc funZ).heap[rb]? = some c := by
  rw [Below.heap_alloc _ _ _ (by have := heap_lt h; simp; omega), Below.heap_alloc _ _ _ (heap_lt h)]; exact h

set_option maxHeartbeats 4000000 in
set_option maxRecDepth 100000 in
/-- No fun's text stands here. -/
theorem fun_no {w0 W : World} {rb pos bg : Nat} {s : ByteArray} (h : RS w0 rb s pos bg W) (hS : Spans w0) (hs : s.size ≤ 1099511627776) (hpos : pos ≤ s.size) (hd : Go.Lib.hasPrefix (s.data.toList.drop pos) [32] = false) :
    Calls Tryd.prog 99 #[.pointer (some ⟨rb, 0, none⟩)] W fun e W' => e = .returned (.tuple #[.agg #[.string ⟨#[]⟩, .string ⟨#[]⟩, .int .i64 0], .bool false]) ∧ Below W.heap.size W W' := by
  have c0 : ((W.alloc funZ).alloc funZ).cell? ⟨rb, 0, none⟩ = some (.string s) := cell_of_row (two_allocs h.rd) rfl
  have c1 : ((W.alloc funZ).alloc funZ).cell? ⟨rb, 1, none⟩ = some (.int .i64 pos) := cell_of_row (two_allocs h.rd) rfl
  have c2 : ((W.alloc funZ).alloc funZ).cell? ⟨rb, 2, none⟩ = some (.int .i64 bg) := cell_of_row (two_allocs h.rd) rfl
  have HA := Lib.hid (ahead_of h)
  have T1 : Hid (∀ V, RS w0 (W.heap.size + 2) s pos bg V → Calls Tryd.prog 93 #[.pointer (some ⟨W.heap.size + 2, 0, none⟩), .string ⟨#[32]⟩] V fun e W' => e = .returned (.bool false) ∧ RS w0 (W.heap.size + 2) s pos bg W' ∧ Mod (fun k => k = W.heap.size + 2) V W') := fun V hV =>
    take_is hV hpos hs ⟨#[32]⟩ (by decide) false hd
  clear h hd hpos
  unfold funZ at c0 c1 c2
  go_enter Tryd.func99, Tryd.ntmps99
  go_wp2_with fail
  refine (T1.out _ HA.out.rs).mono ?_
  rintro e V ⟨rfl, hV, hmV⟩
  have g0 : V.heap[W.heap.size]? = some funZ := (hmV.block _ (heap_lt HA.out.b0) (by omega)).trans HA.out.b0
  unfold funZ at g0
  have e0 : V.cell? ⟨W.heap.size, 0, none⟩ = some (.string ⟨#[]⟩) := cell_of_row g0 rfl
  have e1 : V.cell? ⟨W.heap.size, 1, none⟩ = some (.string ⟨#[]⟩) := cell_of_row g0 rfl
  have e2 : V.cell? ⟨W.heap.size, 2, none⟩ = some (.int .i64 0) := cell_of_row g0 rfl
  have f0 : V.frozen? ⟨W.heap.size, 0, none⟩ = false := free_of_row g0
  have f1 : V.frozen? ⟨W.heap.size, 1, none⟩ = false := free_of_row g0
  have f2 : V.frozen? ⟨W.heap.size, 2, none⟩ = false := free_of_row g0
  have S3 := Lib.hid (set_three (.string ⟨#[]⟩) (.string ⟨#[]⟩) (.int .i64 0) g0)
  have HM := Lib.hid (HA.out.below.trans (hmV.below HA.out.below.size (fun k (e : k = _) => by omega)))
  clear hV hmV g0 c0 c1 c2
  go_wp2_with fail
  obtain ⟨s3, m3⟩ := S3.out
  generalize (((V.setCell ⟨W.heap.size, 0, none⟩ (.string ⟨#[]⟩)).setCell ⟨W.heap.size, 1, none⟩ (.string ⟨#[]⟩)).setCell ⟨W.heap.size, 2, none⟩ (.int .i64 0)) = V3 at s3 m3 ⊢
  have z0 : V3.cell? ⟨W.heap.size, 0, none⟩ = some (.string ⟨#[]⟩) := cell_of_row s3 rfl
  have z1 : V3.cell? ⟨W.heap.size, 1, none⟩ = some (.string ⟨#[]⟩) := cell_of_row s3 rfl
  have z2 : V3.cell? ⟨W.heap.size, 2, none⟩ = some (.int .i64 0) := cell_of_row s3 rfl
  exact bodyPost_ret (v := .tuple #[.agg #[.string ⟨#[]⟩, .string ⟨#[]⟩, .int .i64 0], .bool false]) (by simp [results, Tryd.f99, go_sem, z0, z1, z2]) rfl ⟨rfl, HM.out.trans (m3.below HM.out.size (fun k (e : k = _) => by omega))⟩

theorem digits_at {w0 W : World} {rb pos bg : Nat} {s : ByteArray} (h : RS w0 rb s pos bg W) (hs : s.size ≤ 1099511627776) (n : Nat) (hn : n ≤ 576460752303423487) {r : List UInt8} (hr : Sep r) (hd : s.data.toList.drop pos = decDigits n ++ r) :
    Calls Tryd.prog 96 #[.pointer (some ⟨rb, 0, none⟩)] W fun e W' => e = .returned (.tuple #[.int .i64 n, .int .i64 0]) ∧ RS w0 rb s (pos + (decDigits n).length) bg W' ∧ Mod (fun k => k = rb) W W' := by
  obtain ⟨hd2, hl2⟩ := drop_more hd
  refine digits_is h hs n (decDigits n).length 0 (by rw [hd, readR_dec n hr, if_neg (by omega)]) (hl2 (dec_facts n).2.2.2.2) ?_
  intro h1 hlt
  have h10 : 10 ≤ n := by
    rcases Nat.lt_or_ge n 10 with h9 | h9
    · rw [decDigits, dif_pos h9] at h1; simp at h1
    · exact h9
  obtain ⟨c, t, e, hc⟩ := (dec_facts n).2.2.1 h10
  rw [e] at hd
  obtain ⟨_, e2, -, -⟩ := drop_one hd
  rw [e2]; exact hc

theorem take_at {w0 W : World} {rb pos bg : Nat} {s : ByteArray} (h : RS w0 rb s pos bg W) (hs : s.size ≤ 1099511627776) (c : UInt8) {r : List UInt8} (hd : s.data.toList.drop pos = c :: r) :
    Calls Tryd.prog 93 #[.pointer (some ⟨rb, 0, none⟩), .string ⟨#[c]⟩] W fun e W' => e = .returned (.bool true) ∧ RS w0 rb s (pos + 1) bg W' ∧ Mod (fun k => k = rb) W W' := by
  obtain ⟨hp, -⟩ := drop_one hd
  exact take_is h (Nat.le_of_lt hp) hs ⟨#[c]⟩ (by show 1 ≤ 1000; omega) true (by rw [hd]; exact has_append [c] r)

theorem sep_of {c : UInt8} {r : List UInt8} (h : kindN (c.toNat : Int) = 0) : Sep (c :: r) := by intro d t e; injection e with e1 e2; subst e1; exact h

set_option maxHeartbeats 4000000 in
set_option maxRecDepth 100000 in
/-- What stands behind the word fun in a fun's text. -/
theorem fun_is {w0 W : World} {rb pos bg : Nat} {s : ByteArray} (h : RS w0 rb s pos bg W) (hS : Spans w0) (hs : s.size ≤ 1099511627776) (a b : ByteArray) (n : Nat) (ha : nameB a 2 = true) (hb : nameB b 2 = true) (hn : n ≤ 8) {r : List UInt8} (hr : Sep r)
    (hd : s.data.toList.drop pos = 32 :: (a.data.toList ++ 58 :: (b.data.toList ++ 47 :: (decDigits n ++ r)))) :
    Calls Tryd.prog 99 #[.pointer (some ⟨rb, 0, none⟩)] W fun e W' => e = .returned (.tuple #[.agg #[.string a, .string b, .int .i64 n], .bool true]) ∧ RS w0 rb s (pos + 1 + a.size + 1 + b.size + 1 + (decDigits n).length) bg W' ∧ Mod (fun k => k = rb) W W' := by
  have c0 : ((W.alloc funZ).alloc funZ).cell? ⟨rb, 0, none⟩ = some (.string s) := cell_of_row (two_allocs h.rd) rfl
  have c1 : ((W.alloc funZ).alloc funZ).cell? ⟨rb, 1, none⟩ = some (.int .i64 pos) := cell_of_row (two_allocs h.rd) rfl
  have c2 : ((W.alloc funZ).alloc funZ).cell? ⟨rb, 2, none⟩ = some (.int .i64 bg) := cell_of_row (two_allocs h.rd) rfl
  have HA := Lib.hid (ahead_of h)
  have HH := Lib.hid h
  have hla : a.data.toList.length = a.size := Array.length_toList
  have hlb : b.data.toList.length = b.size := Array.length_toList
  obtain ⟨-, -, -, hd1⟩ := drop_one hd
  obtain ⟨hd2, -⟩ := drop_more hd1
  rw [hla] at hd2
  obtain ⟨-, -, -, hd3⟩ := drop_one hd2
  obtain ⟨hd4, -⟩ := drop_more hd3
  rw [hlb] at hd4
  obtain ⟨-, -, -, hd5⟩ := drop_one hd4
  have T1 : Hid (∀ V, RS w0 (W.heap.size + 2) s pos bg V → Calls Tryd.prog 93 #[.pointer (some ⟨W.heap.size + 2, 0, none⟩), .string ⟨#[32]⟩] V fun e W' => e = .returned (.bool true) ∧ RS w0 (W.heap.size + 2) s (pos + 1) bg W' ∧ Mod (fun k => k = W.heap.size + 2) V W') := fun V hV => take_at hV hs 32 hd
  have T2 : Hid (∀ V, RS w0 (W.heap.size + 2) s (pos + 1) bg V → V.heap[W.heap.size + 1]? = some (funO ⟨#[]⟩ ⟨#[]⟩ 0) → Calls Tryd.prog 98 #[.pointer (some ⟨W.heap.size + 2, 0, none⟩), .pointer (some ⟨W.heap.size + 1, 0, none⟩)] V fun e W' => e = .returned (.bool true) ∧ RS w0 (W.heap.size + 2) s (pos + 1 + a.size) bg W' ∧ W'.heap[W.heap.size + 1]? = some (funO a ⟨#[]⟩ 0) ∧ Mod (fun k => k = W.heap.size + 2 ∨ k = W.heap.size + 1) V W') := fun V hV hf =>
    word_is hV hS hs a ha (sep_of (c := 58) (by decide)) hd1 hf (by show _ < 3; omega) (by omega) (by have := h.below.size; omega)
  have T3 : Hid (∀ V, RS w0 (W.heap.size + 2) s (pos + 1 + a.size) bg V → Calls Tryd.prog 93 #[.pointer (some ⟨W.heap.size + 2, 0, none⟩), .string ⟨#[58]⟩] V fun e W' => e = .returned (.bool true) ∧ RS w0 (W.heap.size + 2) s (pos + 1 + a.size + 1) bg W' ∧ Mod (fun k => k = W.heap.size + 2) V W') := fun V hV => take_at hV hs 58 hd2
  have T4 : Hid (∀ V, RS w0 (W.heap.size + 2) s (pos + 1 + a.size + 1) bg V → V.heap[W.heap.size + 1]? = some (funO a ⟨#[]⟩ 0) → Calls Tryd.prog 98 #[.pointer (some ⟨W.heap.size + 2, 0, none⟩), .pointer (some ⟨W.heap.size + 1, 1, none⟩)] V fun e W' => e = .returned (.bool true) ∧ RS w0 (W.heap.size + 2) s (pos + 1 + a.size + 1 + b.size) bg W' ∧ W'.heap[W.heap.size + 1]? = some (funO a b 0) ∧ Mod (fun k => k = W.heap.size + 2 ∨ k = W.heap.size + 1) V W') := fun V hV hf =>
    word_is hV hS hs b hb (sep_of (c := 47) (by decide)) hd3 hf (by show _ < 3; omega) (by omega) (by have := h.below.size; omega)
  have T5 : Hid (∀ V, RS w0 (W.heap.size + 2) s (pos + 1 + a.size + 1 + b.size) bg V → Calls Tryd.prog 93 #[.pointer (some ⟨W.heap.size + 2, 0, none⟩), .string ⟨#[47]⟩] V fun e W' => e = .returned (.bool true) ∧ RS w0 (W.heap.size + 2) s (pos + 1 + a.size + 1 + b.size + 1) bg W' ∧ Mod (fun k => k = W.heap.size + 2) V W') := fun V hV => take_at hV hs 47 hd4
  have T6 : Hid (∀ V, RS w0 (W.heap.size + 2) s (pos + 1 + a.size + 1 + b.size + 1) bg V → Calls Tryd.prog 96 #[.pointer (some ⟨W.heap.size + 2, 0, none⟩)] V fun e W' => e = .returned (.tuple #[.int .i64 n, .int .i64 0]) ∧ RS w0 (W.heap.size + 2) s (pos + 1 + a.size + 1 + b.size + 1 + (decDigits n).length) bg W' ∧ Mod (fun k => k = W.heap.size + 2) V W') := fun V hV => digits_at hV hs n (by omega) hr hd5
  have T7 : Hid (∀ V, Spans V → Calls Tryd.prog 65 #[.iface 105 (.agg #[.string a, .string b, .int .i64 n])] V fun e w' => e = .returned (.bool true) ∧ Below V.heap.size V w') := fun V hV => by
    have h1 := name_len ha
    have h2 := name_len hb
    refine (mayN_fun a b n (by unfold maxLen; omega) (by unfold maxLen; omega) V hV).mono fun e w' h => ⟨by rw [h.1, ha, hb]; unfold arB; rw [decide_eq_true (by omega)]; rfl, h.2⟩
  clear h hd hd1 hd2 hd3 hd4 hd5 hla hlb ha hb
  unfold funZ at c0 c1 c2
  go_enter Tryd.func99, Tryd.ntmps99
  go_wp2_with fail
  refine (T1.out _ HA.out.rs).mono ?_
  rintro e V1 ⟨rfl, h1, m1⟩
  have A1 := Lib.hid (HA.out.on' h1 m1)
  clear h1 m1 c0 c1 c2
  go_wp2_with fail
  refine (T2.out _ A1.out.rs A1.out.b1).mono ?_
  rintro e V2 ⟨rfl, h1, h2, m1⟩
  have A2 := Lib.hid (A1.out.on h1 h2 m1)
  clear h1 h2 m1
  go_wp2_with fail
  refine (T3.out _ A2.out.rs).mono ?_
  rintro e V3 ⟨rfl, h1, m1⟩
  have A3 := Lib.hid (A2.out.on' h1 m1)
  clear h1 m1
  go_wp2_with fail
  refine (T4.out _ A3.out.rs A3.out.b1).mono ?_
  rintro e V4 ⟨rfl, h1, h2, m1⟩
  have A4 := Lib.hid (A3.out.on h1 h2 m1)
  clear h1 h2 m1
  go_wp2_with fail
  refine (T5.out _ A4.out.rs).mono ?_
  rintro e V5 ⟨rfl, h1, m1⟩
  have A5 := Lib.hid (A4.out.on' h1 m1)
  clear h1 m1
  go_wp2_with fail
  refine (T6.out _ A5.out.rs).mono ?_
  rintro e V6 ⟨rfl, h1, m1⟩
  have a6 := A5.out.on' h1 m1
  have g1 := a6.b1
  unfold funO at g1
  have e0 : V6.cell? ⟨W.heap.size + 1, 2, none⟩ = some (.int .i64 0) := cell_of_row g1 rfl
  have f0 : V6.frozen? ⟨W.heap.size + 1, 2, none⟩ = false := free_of_row g1
  have m7 : Mod (fun k => k = W.heap.size + 1) V6 (V6.setCell ⟨W.heap.size + 1, 2, none⟩ (.int .i64 n)) := Mod.setCell _ _ _ (.inl rfl)
  have g7 : (V6.setCell ⟨W.heap.size + 1, 2, none⟩ (.int .i64 n)).heap[W.heap.size + 1]? = some (funO a b n) := set_row (i := 2) _ g1
  have A6 := Lib.hid a6
  have M7 := Lib.hid m7
  have G7 := Lib.hid g7
  have k0 : (V6.setCell ⟨W.heap.size + 1, 2, none⟩ (.int .i64 n)).cell? ⟨W.heap.size + 1, 0, none⟩ = some (.string a) := cell_of_row g7 rfl
  have k1 : (V6.setCell ⟨W.heap.size + 1, 2, none⟩ (.int .i64 n)).cell? ⟨W.heap.size + 1, 1, none⟩ = some (.string b) := cell_of_row g7 rfl
  have k2 : (V6.setCell ⟨W.heap.size + 1, 2, none⟩ (.int .i64 n)).cell? ⟨W.heap.size + 1, 2, none⟩ = some (.int .i64 n) := cell_of_row g7 rfl
  clear h1 m1 a6 g1 m7 g7
  go_wp2_with fail
  have r7 : RS w0 (W.heap.size + 2) s (pos + 1 + a.size + 1 + b.size + 1 + (decDigits n).length) bg (V6.setCell ⟨W.heap.size + 1, 2, none⟩ (.int .i64 n)) := A6.out.rs.mod M7.out (by omega) (fun k (e : k = _) => by have := HH.out.below.size; omega)
  have R7 := Lib.hid r7
  clear r7 k0 k1 k2 e0 f0
  refine (T7.out _ (R7.out.spans hS)).mono ?_
  rintro e V8 ⟨rfl, b8⟩
  have r8 := R7.out.under b8
  obtain ⟨q, hq⟩ : ∃ q, q = pos + 1 + a.size + 1 + b.size + 1 + (decDigits n).length := ⟨_, rfl⟩
  rw [← hq] at r8
  have HQ := Lib.hid hq
  clear hq
  have g8 := (b8.block _ (heap_lt G7.out)).trans G7.out
  have q8 : V8.heap[W.heap.size]? = some funZ := (b8.block _ (by have := M7.out.size; have := heap_lt A6.out.b0; omega)).trans ((M7.out.block _ (heap_lt A6.out.b0) (by omega)).trans A6.out.b0)
  have bl8 : Below W.heap.size W V8 := A6.out.below.trans ((M7.out.below A6.out.below.size (fun k (e : k = _) => by omega)).trans (b8.mono (by have := M7.out.size; have := A6.out.below.size; omega)))
  have p8 : V8.heap[rb]? = _ := (bl8.block _ (heap_lt HH.out.rd)).trans HH.out.rd
  have hrb := heap_lt HH.out.rd
  have n0 : V8.cell? ⟨W.heap.size + 2, 0, none⟩ = some (.string s) := cell_of_row r8.rd rfl
  have n1 : V8.cell? ⟨W.heap.size + 2, 1, none⟩ = some (.int .i64 ((q : Nat) : Int)) := cell_of_row r8.rd rfl
  have n2 : V8.cell? ⟨W.heap.size + 2, 2, none⟩ = some (.int .i64 bg) := cell_of_row r8.rd rfl
  have x0 : V8.cell? ⟨rb, 0, none⟩ = some (.string s) := cell_of_row p8 rfl
  have x1 : V8.cell? ⟨rb, 1, none⟩ = some (.int .i64 pos) := cell_of_row p8 rfl
  have x2 : V8.cell? ⟨rb, 2, none⟩ = some (.int .i64 bg) := cell_of_row p8 rfl
  have y0 : V8.frozen? ⟨rb, 0, none⟩ = false := free_of_row p8
  have y1 : V8.frozen? ⟨rb, 1, none⟩ = false := free_of_row p8
  have y2 : V8.frozen? ⟨rb, 2, none⟩ = false := free_of_row p8
  have S9 := Lib.hid (set_three (.string s) (.int .i64 ((q : Nat) : Int)) (.int .i64 bg) p8)
  have R8 := Lib.hid r8
  have G8 := Lib.hid g8
  have Q8 := Lib.hid q8
  have B8 := Lib.hid bl8
  have HRB := Lib.hid hrb
  obtain ⟨V9, hV9⟩ : ∃ V9, V9 = (((V8.setCell ⟨rb, 0, none⟩ (.string s)).setCell ⟨rb, 1, none⟩ (.int .i64 ((q : Nat) : Int))).setCell ⟨rb, 2, none⟩ (.int .i64 bg)) := ⟨_, rfl⟩
  have s9 := S9.out
  rw [← hV9] at s9
  have g9 := (s9.2.block _ (heap_lt g8) (by omega)).trans g8
  have q9 := (s9.2.block _ (heap_lt q8) (by omega)).trans q8
  unfold funO at g9
  unfold funZ at q9
  have k0 : V9.cell? ⟨W.heap.size + 1, 0, none⟩ = some (.string a) := cell_of_row g9 rfl
  have k1 : V9.cell? ⟨W.heap.size + 1, 1, none⟩ = some (.string b) := cell_of_row g9 rfl
  have k2 : V9.cell? ⟨W.heap.size + 1, 2, none⟩ = some (.int .i64 n) := cell_of_row g9 rfl
  have i0 : V9.cell? ⟨W.heap.size, 0, none⟩ = some (.string ⟨#[]⟩) := cell_of_row q9 rfl
  have i1 : V9.cell? ⟨W.heap.size, 1, none⟩ = some (.string ⟨#[]⟩) := cell_of_row q9 rfl
  have i2 : V9.cell? ⟨W.heap.size, 2, none⟩ = some (.int .i64 0) := cell_of_row q9 rfl
  have j0 : V9.frozen? ⟨W.heap.size, 0, none⟩ = false := free_of_row q9
  have j1 : V9.frozen? ⟨W.heap.size, 1, none⟩ = false := free_of_row q9
  have j2 : V9.frozen? ⟨W.heap.size, 2, none⟩ = false := free_of_row q9
  obtain ⟨VX, hVX⟩ : ∃ VX, VX = (((V9.setCell ⟨W.heap.size, 0, none⟩ (.string a)).setCell ⟨W.heap.size, 1, none⟩ (.string b)).setCell ⟨W.heap.size, 2, none⟩ (.int .i64 n)) := ⟨_, rfl⟩
  have sr := set_three (.string a) (.string b) (.int .i64 n) q9
  rw [← hVX] at sr
  have SR := Lib.hid sr
  have S9' := Lib.hid s9
  clear r8 g8 q8 p8 bl8 b8 hrb s9 g9 q9 sr
  subst hV9
  go_wp2_with fail
  obtain ⟨s3, m3⟩ := SR.out
  rw [← hVX]
  have z0 : VX.cell? ⟨W.heap.size, 0, none⟩ = some (.string a) := cell_of_row s3 rfl
  have z1 : VX.cell? ⟨W.heap.size, 1, none⟩ = some (.string b) := cell_of_row s3 rfl
  have z2 : VX.cell? ⟨W.heap.size, 2, none⟩ = some (.int .i64 n) := cell_of_row s3 rfl
  refine bodyPost_ret (v := .tuple #[.agg #[.string a, .string b, .int .i64 n], .bool true]) (by simp [results, Tryd.f99, go_sem, z0, z1, z2]) rfl ?_
  have hrb := HRB.out
  obtain ⟨s9, m9⟩ := S9'.out
  have m8 : Mod (fun k => k = rb) W V8 := Mod.of_below B8.out
  have m9' := m8.trans m9 (fun _ _ h => h)
  have hq := HQ.out
  rw [← hq]
  refine ⟨rfl, ⟨(m3.block _ (heap_lt s9) (by omega)).trans s9, ?_, HH.out.lo⟩, ⟨m3.os.trans m9'.os, m3.tape.trans m9'.tape, m3.output.trans m9'.output, Nat.le_trans m9'.size m3.size, fun k hk hF => (m3.block k (Nat.lt_of_lt_of_le hk m9'.size) (by omega)).trans (m9'.block k hk hF)⟩⟩
  have hlo := HH.out.lo
  exact HH.out.below.trans ((m9'.below HH.out.below.size (fun k (e : k = rb) => by omega)).trans (m3.below (Nat.le_trans HH.out.below.size m9'.size) (fun k (e : k = W.heap.size) => by omega)))
end Go.Proofs.YtohbljgagbnjoaaDoor
