/- term.appendCons, term.appendTerm, term.Text: contracts. term.Text: its contract. -/
import Derived.Test.YtdimcddbmccniaaGreatDoorKTxtLen
import Derived.Test.YtdimcddbmccniaaGreatDoorKNd7
import Derived.Deep.RegionHeld
import Derived.OrdersHeld
import Derived.Laws.IdiomStrings
import Derived.Lib.LaidTab
set_option linter.unusedVariables false
namespace Go.Proofs.YtdimcddbmccniaaGreatDoor
open Go.RowKit
open Go.Lib (itoa byteCells)

theorem chain_less {n : Int} {s t : ByteArray} {a b : Tm} {hs : List Tm} {z : Tm} (h : Chain (.mk 7 n s t [a, b]) hs z) : (∀ y ∈ hs, y.nodes < (Tm.mk 7 n s t [a, b]).nodes) ∧ (hs = [] ∨ z.nodes < (Tm.mk 7 n s t [a, b]).nodes) := by
  induction h with
  | nil => exact ⟨fun y h => by simp at h, .inl rfl⟩
  | @snoc hs n' s' t' c d hch ih =>
    have h1 := nodes_part (k := 7) (n := n') (s := s') (t := t') (l := [c, d]) (y := c) (by simp)
    have h2 := nodes_part (k := 7) (n := n') (s := s') (t := t') (l := [c, d]) (y := d) (by simp)
    have h3 := hch.nodes
    refine ⟨fun y hy => ?_, .inr (by omega)⟩
    rcases List.mem_append.1 hy with hy | hy
    · exact ih.1 y hy
    · simp at hy; subst hy; omega

theorem Buf.kept_box {B : Nat} {w0 w : World} {v : Value} {l : List UInt8} (h : Buf B w0 v l w) {b : Nat} {cs : Array Value} {T : TypeId} {fz : Nat × Nat} (hT : T ≠ 5) (hb : w0.heap[b]? = some (.cells cs T fz)) : w.heap[b]? = some (.cells cs T fz) :=
  h.block hb (fun c' fz' e => by injection e with _ e2; exact hT e2)

set_option maxHeartbeats 8000000 in
set_option maxRecDepth 100000 in
theorem appendCons_any (n : Int) (s t : ByteArray) (a b : Tm) (hO : ∀ y : Tm, y.nodes < (Tm.mk 7 n s t [a, b]).nodes → TxtOf y) (B : Nat) (P : Nat → Prop) (sv v : Value) (xs : List UInt8) (w : World) (hb : Buf B w sv xs w) (hp : Pow B w) (hP : ∀ b, P b → Stays B w b)
    (hT : TmAt P w (.mk 7 n s t [a, b]) v) (hV : Valid (.mk 7 n s t [a, b])) (hn : (Tm.mk 7 n s t [a, b]).nodes ≤ 100000) (hlen : xs.length + (txt (.mk 7 n s t [a, b])).length + 64 ≤ 140737488355328) :
    Calls Tryz.prog 235 #[sv, v] w fun e w' => ∃ v', e = .returned v' ∧ Buf B w v' (xs ++ txt (.mk 7 n s t [a, b])) w' := by
  obtain ⟨X, hX⟩ : ∃ X, X = Tm.mk 7 n s t [a, b] := ⟨_, rfl⟩
  obtain ⟨A, cap, rfl, _⟩ := hT.parts
  have hx0 : ∃ bx : Array Value, bx = #[.int .i8 7, .int .i64 n, .string s, .string t, .slice A 2 cap] := ⟨_, rfl⟩
  obtain ⟨bx, hbx⟩ := hx0
  have hbe : Value.agg #[.int .i8 7, .int .i64 n, .string s, .string t, .slice A ([a, b] : List Tm).length cap] = .agg bx := by rw [hbx]; rfl
  rw [hbe] at hT ⊢
  clear hbe
  obtain ⟨W1, hW1⟩ : ∃ W1, W1 = w.alloc (.cells bx 48) := ⟨_, rfl⟩
  have hb1 : Buf B w sv xs W1 := by rw [hW1]; exact hb.alloc _
  have mW1 : Mod (fun _ => False) w W1 := by rw [hW1]; exact Mod.alloc _ _ _
  have hs1 : w.heap.size ≤ W1.heap.size := mW1.size
  have hT1 : TmAt P W1 (.mk 7 n s t [a, b]) (.agg bx) := hT.keep (fun b hb' => mW1.block b ((hP b hb').lt hb.base) (fun h => h)) (fun _ h => h)
  have HU := Lib.hid (unroll_any P (.mk 7 n s t [a, b]) (.agg bx) W1 (fun b hb' => Nat.lt_of_lt_of_le ((hP b hb').lt hb.base) hs1) hT1 hV hn)
  have HB1 := Lib.hid hb1
  have HP := Lib.hid hp
  have HPB := Lib.hid hP
  have HO := Lib.hid hO
  have HV := Lib.hid hV
  have HLE := Lib.hid hlen
  have HS1 := Lib.hid hs1
  clear hb hp hP hO hV hlen hb1 mW1 hs1 hT hT1 hX hn
  have HBX := Lib.hid hbx
  subst hbx
  go_enter Tryz.func235, Tryz.ntmps235
  go_wp2_with fail
  rw [← hW1]
  clear hW1
  refine HU.out.mono ?_
  rintro e w2 ⟨A2, n2, cap2, tv, hs, z, rfl, hch, hzk, hR2, hTz, b2⟩
  obtain ⟨kz, nz, sz, tz, lz, Az, capz, hz, rfl⟩ : ∃ k' n' s' t' L' A' cap', z = Tm.mk k' n' s' t' L' ∧ tv = .agg #[.int .i8 k', .int .i64 n', .string s', .string t', .slice A' L'.length cap'] := by
    cases hTz; exact ⟨_, _, _, _, _, _, _, rfl, rfl⟩
  obtain rfl : hs.length = n2 := hR2.len
  obtain ⟨W3, hW3⟩ : ∃ W3, W3 = w2.alloc (.cells #[.int .i8 kz, .int .i64 nz, .string sz, .string tz, .slice Az lz.length capz] 48) := ⟨_, rfl⟩
  have hb2 := HB1.out.below_ b2
  have hb3 : Buf B w sv xs W3 := by rw [hW3]; exact hb2.alloc _
  have g3 : W3.heap[w2.heap.size]? = some (.cells #[.int .i8 kz, .int .i64 nz, .string sz, .string tz, .slice Az lz.length capz] 48 (0, 0)) := by rw [hW3]; exact block_alloc _ _
  obtain ⟨W4, hW4⟩ : ∃ W4, W4 = W3.alloc (.cells #[.int .u8 91] 5) := ⟨_, rfl⟩
  have hb4 : Buf B w sv xs W4 := by rw [hW4]; exact hb3.alloc _
  have g4 : W4.heap[w2.heap.size]? = some (.cells #[.int .i8 kz, .int .i64 nz, .string sz, .string tz, .slice Az lz.length capz] 48 (0, 0)) := by rw [hW4]; exact (Below.heap_alloc _ _ _ (heap_lt g3)).trans g3
  have c4 : W4.cell? ⟨w2.heap.size + 1, 0, none⟩ = some (.int .u8 (91 : UInt8).toNat) := by
    have h3 : W3.heap.size = w2.heap.size + 1 := by rw [hW3]; exact World.size_alloc _ _
    rw [hW4, ← h3]; exact cell_of_row (block_alloc _ _) rfl
  -- the rows of terms as they stand behind unroll
  have st2 : ∀ q, (P q ∨ (W1.heap.size ≤ q ∧ ∃ c fz, w2.heap[q]? = some (.cells c 48 fz))) → Stays B w2 q := by
    rintro q (hq | ⟨_, h⟩)
    · exact ((HPB.out q hq).on hb2)
    · exact .inr h
  have m24 : Mod (fun _ => False) w2 W4 := by rw [hW4, hW3]; exact (Mod.alloc _ _ _).trans (Mod.alloc _ _ _) (fun _ _ h => h)
  have st4 : ∀ q, (P q ∨ (W1.heap.size ≤ q ∧ ∃ c fz, w2.heap[q]? = some (.cells c 48 fz))) → Stays B W4 q := by
    intro q hq
    have h := st2 q hq
    rcases h with h | ⟨c, fz, h⟩
    · exact .inl h
    · exact .inr ⟨c, fz, (m24.block q (heap_lt h) (fun h => h)).trans h⟩
  have keep4 : ∀ q, (P q ∨ (W1.heap.size ≤ q ∧ ∃ c fz, w2.heap[q]? = some (.cells c 48 fz))) → W4.heap[q]? = w2.heap[q]? := fun q hq => m24.block q ((st2 q hq).lt hb2.base) (fun h => h)
  have hR4 := hR2.keep keep4 (fun _ h => h)
  have hTz4 := hTz.keep (fun q hq => keep4 q (.inl hq)) (fun _ h => h)
  have hlt := chain_less hch
  have htx := chain_text hch hzk
  have hvv := hch.valid HV.out
  have HTX := Lib.hid htx
  have HL := Lib.hid (show xs.length + 1 + (joinC (hs.map txt)).length + (tailT z).length + 1 + 64 ≤ 140737488355328 by have h := HLE.out; rw [htx] at h; simp only [List.length_append, List.length_singleton] at h; omega)
  have HB4 := Lib.hid hb4
  have HA4 : Hid (Buf B W4 sv xs W4) := hb4.again
  have HG4 := Lib.hid g4
  have HC4 := Lib.hid c4
  have HST4 := Lib.hid st4
  have HR4 := Lib.hid hR4
  have HT4 := Lib.hid hTz4
  have HLT := Lib.hid hlt
  have HVV := Lib.hid hvv
  have HZ := Lib.hid hz
  have HZK := Lib.hid hzk
  have hhs : hs ≠ [] := fun e => by
    subst e
    rcases chain_body hch with ⟨_, e2⟩ | ⟨e2, _⟩
    · rw [e2] at hzk; exact hzk rfl
    · exact e2 rfl
  have HHS := Lib.hid hhs
  have HLX : Hid (xs.length + 1 ≤ 140737488355328) := by have := HL.out; show _ ≤ _; omega
  clear hch hzk hR2 hTz b2 hb2 hb3 g3 hb4 g4 c4 st2 st4 keep4 hR4 hTz4 hlt htx hvv hz hhs HLE m24
  subst hW3
  go_wp2_with (at_builtin; rw [← hW4]; refine wpList_buf_byte rfl (.tmp 12) (.tmp 13) rfl HA4.out rfl (w2.heap.size + 1) 91 rfl HC4.out HLX.out ?_)
  intro v5 w5 hb5
  rw [← hW4] at hb5
  have HB5 : Hid (Buf B W4 v5 (xs ++ [91]) w5) := hb5
  have HG5 := Lib.hid (hb5.kept_box (T := 48) (by decide) HG4.out)
  have HC5 := Lib.hid (appendRow_any hs (fun y hy => HO.out y (HLT.out.1 y hy)) (HVV.out.2) B _ v5 (xs ++ [91]) A2 cap2 w5 hb5.again (HP.out.on (HB4.out.then hb5).below) (fun q hq => (HST4.out q hq).on hb5) (HR4.out.keep (fun q hq => hb5.stays (HST4.out q hq)) (fun _ h => h))
    (by have := HL.out; simp only [List.length_append, List.length_singleton]; omega))
  clear hb5 hW4
  go_wp2_with fail
  refine HC5.out.mono ?_
  rintro e w6 ⟨v6, rfl, hb6⟩
  have HB6 : Hid (Buf B W4 v6 (xs ++ [91] ++ joinC (hs.map txt)) w6) := HB5.out.then hb6
  have HG6 := Lib.hid (hb6.kept_box (T := 48) (by decide) HG5.out)
  have z0 : w6.cell? ⟨w2.heap.size, 0, none⟩ = some (.int .i8 kz) := cell_of_row HG6.out rfl
  clear hb6
  by_cases h6 : kz = 6
  · have h61 : (kz != 6) = false := by rw [h6]; rfl
    have HTT : Hid (tailT z = []) := by have h := HZ.out; subst h; unfold tailT; exact if_pos h6
    clear h6
    obtain ⟨W7, hW7⟩ : ∃ W7, W7 = w6.alloc (.cells #[.int .u8 93] 5) := ⟨_, rfl⟩
    have HB7 : Hid (Buf B W4 v6 (xs ++ [91] ++ joinC (hs.map txt)) W7) := by rw [hW7]; exact HB6.out.alloc _
    have HC7 : Hid (W7.cell? ⟨w6.heap.size, 0, none⟩ = some (.int .u8 (93 : UInt8).toNat)) := by rw [hW7]; exact cell_of_row (block_alloc _ _) rfl
    have HL7 : Hid ((xs ++ [91] ++ joinC (hs.map txt)).length + 1 ≤ 140737488355328) := by have := HL.out; show _ ≤ _; simp only [List.length_append, List.length_singleton]; omega
    go_wp2_with (at_builtin; rw [← hW7]; refine wpList_buf_byte rfl (.tmp 25) (.tmp 26) rfl HB7.out rfl w6.heap.size 93 rfl HC7.out HL7.out ?_)
    intro v8 w8 hb8
    have HB8 := Lib.hid (HB4.out.then hb8)
    clear hb8
    go_wp2_with fail
    go_ret
    exact ⟨_, rfl, by have h := HB8.out; rw [HTX.out, HTT.out]; simpa using h⟩
  · have h61 : (kz != 6) = true := by simpa using h6
    have HTT : Hid (tailT z = 124 :: txt z) := by have h := HZ.out; subst h; unfold tailT; exact if_neg h6
    have HTL : Hid ((tailT z).length = (txt z).length + 1) := by rw [HTT.out]; rfl
    have HZL : Hid (z.nodes < (Tm.mk 7 n s t [a, b]).nodes) := by rcases HLT.out.2 with h | h; exact (HHS.out h).elim; exact h
    clear h6
    go_wp2_with fail
    have hS0 : { w6 with drawn := w6.drawn + 1 }.heap[w2.heap.size]? = some (.cells #[.int .i8 kz, .int .i64 nz, .string sz, .string tz, .slice Az lz.length capz] 48 (0, 0)) := HG6.out
    have HB7 : Hid (Buf B W4 v6 (xs ++ [91] ++ joinC (hs.map txt)) { w6 with drawn := w6.drawn + 1 }) := HB6.out.drew
    clear z0
    obtain ⟨w7, hw7⟩ : ∃ w7, w7 = { w6 with drawn := w6.drawn + 1 } := ⟨_, rfl⟩
    refine wp_region_held (S := fun W => W.heap[w2.heap.size]? = some (.cells #[.int .i8 kz, .int .i64 nz, .string sz, .string tz, .slice Az lz.length capz] 48 (0, 0))) (by kernel_rfl) ?_
    rw [← hw7] at HB7 hS0 ⊢
    clear hw7
    refine wpAnyH_take (i := 0) (oi := ⟨some 20, _, _, _, _, _⟩) (v := ?_) rfl (by kernel_rfl) (by kernel_rfl) (by kernel_rfl) (fun _ _ _ h => h) (Or.inl ⟨by kernel_rfl, ?_⟩) (by assumption) ?_; rotate_left; (intro w hSw; (try dsimp only at hSw); go_simp; first | done | with_reducible rfl); (try simp only [Act.put, sI, sZ, sS])
    refine wpAnyH_take (i := 3) (oi := ⟨some 23, _, _, _, _, _⟩) (v := ?_) rfl (by kernel_rfl) (by kernel_rfl) (by kernel_rfl) (fun _ _ _ h => h) (Or.inl ⟨by kernel_rfl, ?_⟩) (by assumption) ?_; rotate_left; (intro w hSw; (try dsimp only at hSw); have z0 := cell_of_row (i := 0) hSw rfl; have z1 := cell_of_row (i := 1) hSw rfl; have z2 := cell_of_row (i := 2) hSw rfl; have z3 := cell_of_row (i := 3) hSw rfl; have z4 := cell_of_row (i := 4) hSw rfl; go_simp; first | done | with_reducible rfl); (try simp only [Act.put, sI, sZ, sS])
    refine wpAnyH_ready (rs := [1]) (by kernel_rfl) (by simp) ?_
    refine AllReadyH.cons (o := ⟨some 21, _, _, _, _, _⟩) rfl (fun K hK => ?_) AllReadyH.nil
    rw [if_pos (by rfl)]
    go_simp
    have hS1 : (w7.alloc (.cells #[.int .u8 124] 5)).heap[w2.heap.size]? = some (.cells #[.int .i8 kz, .int .i64 nz, .string sz, .string tz, .slice Az lz.length capz] 48 (0, 0)) := (Below.heap_alloc _ _ _ (heap_lt hS0)).trans hS0
    have HB8 : Hid (Buf B W4 v6 (xs ++ [91] ++ joinC (hs.map txt)) (w7.alloc (.cells #[.int .u8 124] 5))) := HB7.out.alloc _
    have HC8 : Hid ((w7.alloc (.cells #[.int .u8 124] 5)).cell? ⟨w7.heap.size, 0, none⟩ = some (.int .u8 (124 : UInt8).toNat)) := cell_of_row (block_alloc _ _) rfl
    refine hK.out _ _ hS1 (fun hSn => ?_)
    clear hK K; (try simp only [Act.put, sI, sZ, sS])
    have HL8 : Hid ((xs ++ [91] ++ joinC (hs.map txt)).length + 1 ≤ 140737488355328) := by have := HL.out; show _ ≤ _; simp only [List.length_append, List.length_singleton]; omega
    refine wpAnyH_ready (rs := [2]) (by kernel_rfl) (by simp) ?_
    refine AllReadyH.cons (o := ⟨some 22, _, _, _, _, _⟩) rfl (fun K hK => ?_) AllReadyH.nil
    rw [if_pos (by rfl)]
    refine wp_buf_byte (.tmp 20) (.tmp 21) rfl HB8.out.again rfl w7.heap.size 124 rfl HC8.out HL8.out ?_
    intro v9 w9 hb9
    have hS9 : w9.heap[w2.heap.size]? = some (.cells #[.int .i8 kz, .int .i64 nz, .string sz, .string tz, .slice Az lz.length capz] 48 (0, 0)) := hb9.kept_box (T := 48) (by decide) hS1
    have HB9 : Hid (Buf B W4 v9 (xs ++ [91] ++ joinC (hs.map txt) ++ [124]) w9) := HB8.out.then hb9
    clear hb9
    refine hK.out _ _ hS9 (fun hSn => ?_)
    clear hK K; (try simp only [Act.put, sI, sZ, sS])
    have HT9 : Hid (TmAt P w9 z (.agg #[.int .i8 kz, .int .i64 nz, .string sz, .string tz, .slice Az lz.length capz])) := HT4.out.keep (fun q hq => HB9.out.stays (HST4.out q (.inl hq))) (fun _ h => h)
    have HCT : Hid (Calls Tryz.prog 204 #[v9, .agg #[.int .i8 kz, .int .i64 nz, .string sz, .string tz, .slice Az lz.length capz]] w9 fun e w' => ∃ v', e = .returned v' ∧ Buf B w9 v' (xs ++ [91] ++ joinC (hs.map txt) ++ [124] ++ txt z) w') :=
      HO.out z HZL.out B P v9 _ _ w9 HB9.out.again (HP.out.on (HB4.out.then HB9.out).below) (fun q hq => (HST4.out q (.inl hq)).on HB9.out) HT9.out HVV.out.1 (by have h := HL.out; have h2 := HTL.out; simp only [List.length_append, List.length_singleton]; omega)
    refine wpAnyH_ready (rs := [4]) (by kernel_rfl) (by simp) ?_
    refine AllReadyH.cons (o := ⟨some 24, _, _, _, _, _⟩) rfl (fun K hK => ?_) AllReadyH.nil
    rw [if_pos (by rfl)]
    go_simp
    refine HCT.out.mono ?_
    rintro e w10 ⟨v10, rfl, hb10⟩
    have HB10 : Hid (Buf B W4 v10 (xs ++ [91] ++ joinC (hs.map txt) ++ [124] ++ txt z) w10) := HB9.out.then hb10
    have hS10 : w10.heap[w2.heap.size]? = some (.cells #[.int .i8 kz, .int .i64 nz, .string sz, .string tz, .slice Az lz.length capz] 48 (0, 0)) := hb10.kept_box (T := 48) (by decide) hS9
    clear hb10
    refine hK.out _ _ hS10 (fun hSn => ?_)
    clear hK K; (try simp only [Act.put, sI, sZ, sS])
    refine wpAnyH_take (i := 5) (oi := ⟨some 0, _, _, _, _, _⟩) (v := ?_) rfl (by kernel_rfl) (by kernel_rfl) (by kernel_rfl) (fun _ _ _ h => h) (Or.inl ⟨by kernel_rfl, ?_⟩) (by assumption) ?_; rotate_left; (intro w hSw; (try dsimp only at hSw); go_simp; first | done | with_reducible rfl); (try simp only [Act.put, List.setIfInBounds_toArray, List.set_cons_zero])
    refine wpAnyH_done (by kernel_rfl) ?_ _
    obtain ⟨W11, hW11⟩ : ∃ W11, W11 = w10.alloc (.cells #[.int .u8 93] 5) := ⟨_, rfl⟩
    have HB11 : Hid (Buf B W4 v10 (xs ++ [91] ++ joinC (hs.map txt) ++ [124] ++ txt z) W11) := by rw [hW11]; exact HB10.out.alloc _
    have HC11 : Hid (W11.cell? ⟨w10.heap.size, 0, none⟩ = some (.int .u8 (93 : UInt8).toNat)) := by rw [hW11]; exact cell_of_row (block_alloc _ _) rfl
    have HL11 : Hid ((xs ++ [91] ++ joinC (hs.map txt) ++ [124] ++ txt z).length + 1 ≤ 140737488355328) := by have h := HL.out; have h2 := HTL.out; show _ ≤ _; simp only [List.length_append, List.length_singleton]; omega
    go_wp2_with (at_builtin; rw [← hW11]; refine wpList_buf_byte rfl (.tmp 25) (.tmp 26) rfl HB11.out rfl w10.heap.size 93 rfl HC11.out HL11.out ?_)
    intro v12 w12 hb12
    have HB12 := Lib.hid (HB4.out.then hb12)
    clear hb12
    go_wp2_with fail
    go_ret
    exact ⟨_, rfl, by have h := HB12.out; rw [HTX.out, HTT.out]; simpa using h⟩

set_option maxHeartbeats 4000000 in
set_option maxRecDepth 100000 in
theorem app_integer (n : Int) (s t : ByteArray) (A : Option Addr) (len cap : Nat) (B : Nat) (sv : Value) (xs : List UInt8) (w : World) (hb : Buf B w sv xs w) (hp : Pow B w) (hn : -9223372036854775808 ≤ n ∧ n ≤ 9223372036854775807) (hlen : xs.length + (itoa n).length + 64 ≤ 140737488355328) :
    Calls Tryz.prog 204 #[sv, .agg #[.int .i8 0, .int .i64 n, .string s, .string t, .slice A len cap]] w fun e w' => ∃ v', e = .returned v' ∧ Buf B w v' (xs ++ (itoa n)) w' := by
  have q0 := ta_integer_integer (.int .i64 n)
  obtain ⟨W1, hW1⟩ : ∃ W1, W1 = w.alloc (.cells #[.int .i8 0, .int .i64 n, .string s, .string t, .slice A len cap] 48) := ⟨_, rfl⟩
  have hb1 : Buf B w sv xs W1 := by rw [hW1]; exact hb.alloc _
  have gx : W1.heap[w.heap.size]? = some (.cells #[.int .i8 0, .int .i64 n, .string s, .string t, .slice A len cap] 48 (0, 0)) := by rw [hW1]; exact block_alloc _ _
  have HB0 := Lib.hid hb
  have HP := Lib.hid hp
  have HLE := Lib.hid hlen
  have HB1 := Lib.hid hb1
  have HGX := Lib.hid gx
  clear hb hp hlen hb1 gx
  go_enter Tryz.func204, Tryz.ntmps204
  go_wp2_with fail
  rw [← hW1]
  clear hW1
  refine (nodeOf_integer n s t A len cap _).mono ?_
  rintro e w2 ⟨rfl, b2⟩
  have HB2 := Lib.hid (HB1.out.below_ b2)
  have HGX2 := Lib.hid ((b2.block _ (heap_lt HGX.out)).trans HGX.out)
  clear b2
  have HLN : Hid (xs.length + 21 ≤ 140737488355328) := by have := HLE.out; show _ ≤ _; omega
  go_wp2_with fail
  refine (appendNumber_any HB2.out.again (HP.out.on HB2.out.below) n hn HLN.out).mono ?_
  rintro e w3 ⟨v3, rfl, hb3⟩
  have HB3 := Lib.hid (HB2.out.then hb3)
  clear hb3
  go_wp2_with fail
  go_ret
  exact ⟨_, rfl, HB3.out⟩

set_option maxHeartbeats 4000000 in
set_option maxRecDepth 100000 in
theorem app_atom (n : Int) (s t : ByteArray) (A : Option Addr) (len cap : Nat) (B : Nat) (sv : Value) (xs : List UInt8) (w : World) (hb : Buf B w sv xs w) (hp : Pow B w) (hlen : xs.length + (s.data.toList).length + 64 ≤ 140737488355328) :
    Calls Tryz.prog 204 #[sv, .agg #[.int .i8 1, .int .i64 n, .string s, .string t, .slice A len cap]] w fun e w' => ∃ v', e = .returned v' ∧ Buf B w v' (xs ++ (s.data.toList)) w' := by
  have q0 := ta_atom_integer (.string s)
  have q1 := ta_atom_atom (.string s)
  obtain ⟨W1, hW1⟩ : ∃ W1, W1 = w.alloc (.cells #[.int .i8 1, .int .i64 n, .string s, .string t, .slice A len cap] 48) := ⟨_, rfl⟩
  have hb1 : Buf B w sv xs W1 := by rw [hW1]; exact hb.alloc _
  have gx : W1.heap[w.heap.size]? = some (.cells #[.int .i8 1, .int .i64 n, .string s, .string t, .slice A len cap] 48 (0, 0)) := by rw [hW1]; exact block_alloc _ _
  have HB0 := Lib.hid hb
  have HP := Lib.hid hp
  have HLE := Lib.hid hlen
  have HB1 := Lib.hid hb1
  have HGX := Lib.hid gx
  clear hb hp hlen hb1 gx
  go_enter Tryz.func204, Tryz.ntmps204
  go_wp2_with fail
  rw [← hW1]
  clear hW1
  refine (nodeOf_atom n s t A len cap _).mono ?_
  rintro e w2 ⟨rfl, b2⟩
  have HB2 := Lib.hid (HB1.out.below_ b2)
  have HGX2 := Lib.hid ((b2.block _ (heap_lt HGX.out)).trans HGX.out)
  clear b2
  have HLN : Hid (xs.length + s.size ≤ 140737488355328) := by
    have := HLE.out
    have hs : s.data.toList.length = s.size := by rw [Array.length_toList]; rfl
    show _ ≤ _; omega
  go_wp2_with (at_builtin; refine wpList_buf_text rfl (.tmp 24) (.tmp 25) 250 Tryz.underlying250 rfl HB2.out rfl s rfl HLN.out ?_)
  intro v3 w3 hb3
  have HB3 := Lib.hid hb3
  clear hb3
  go_wp2_with fail
  go_ret
  exact ⟨_, rfl, HB3.out⟩

set_option maxHeartbeats 4000000 in
set_option maxRecDepth 100000 in
theorem app_ref (n : Int) (s t : ByteArray) (A : Option Addr) (len cap : Nat) (B : Nat) (sv : Value) (xs : List UInt8) (w : World) (hb : Buf B w sv xs w) (hp : Pow B w) (hn : -9223372036854775808 ≤ n ∧ n ≤ 9223372036854775807) (hlen : xs.length + ([35, 82, 101, 102, 60] ++ itoa n ++ [62]).length + 64 ≤ 140737488355328) :
    Calls Tryz.prog 204 #[sv, .agg #[.int .i8 2, .int .i64 n, .string s, .string t, .slice A len cap]] w fun e w' => ∃ v', e = .returned v' ∧ Buf B w v' (xs ++ ([35, 82, 101, 102, 60] ++ itoa n ++ [62])) w' := by
  have q0 := ta_ref_integer (.int .i64 n)
  have q1 := ta_ref_atom (.int .i64 n)
  have q2 := ta_ref_ref (.int .i64 n)
  obtain ⟨W1, hW1⟩ : ∃ W1, W1 = w.alloc (.cells #[.int .i8 2, .int .i64 n, .string s, .string t, .slice A len cap] 48) := ⟨_, rfl⟩
  have hb1 : Buf B w sv xs W1 := by rw [hW1]; exact hb.alloc _
  have gx : W1.heap[w.heap.size]? = some (.cells #[.int .i8 2, .int .i64 n, .string s, .string t, .slice A len cap] 48 (0, 0)) := by rw [hW1]; exact block_alloc _ _
  have HB0 := Lib.hid hb
  have HP := Lib.hid hp
  have HLE := Lib.hid hlen
  have HB1 := Lib.hid hb1
  have HGX := Lib.hid gx
  clear hb hp hlen hb1 gx
  go_enter Tryz.func204, Tryz.ntmps204
  go_wp2_with fail
  rw [← hW1]
  clear hW1
  refine (nodeOf_ref n s t A len cap _).mono ?_
  rintro e w2 ⟨rfl, b2⟩
  have HB2 := Lib.hid (HB1.out.below_ b2)
  have HGX2 := Lib.hid ((b2.block _ (heap_lt HGX.out)).trans HGX.out)
  clear b2
  have hit := Go.Lib.itoa_length_le n hn.1 hn.2
  have HLN : Hid (xs.length + (5 : Nat) ≤ 140737488355328) := by have := HLE.out; show _ ≤ _; simp only [List.length_append, List.length_cons, List.length_nil] at this; omega
  go_wp2_with (at_builtin; refine wpList_buf_text rfl (.tmp 30) (.const (.string ⟨#[35, 82, 101, 102, 60]⟩)) 9 Tryz.underlying9 rfl HB2.out rfl ⟨#[35, 82, 101, 102, 60]⟩ rfl HLN.out ?_)
  intro v3 w3 hb3
  have HB3 : Hid (Buf B w v3 (xs ++ [35, 82, 101, 102, 60]) w3) := hb3
  have HLM : Hid ((xs ++ [35, 82, 101, 102, 60]).length + 21 ≤ 140737488355328) := by have := HLE.out; show _ ≤ _; simp only [List.length_append, List.length_cons, List.length_nil] at this ⊢; omega
  clear hb3
  go_wp2_with fail
  refine (appendNumber_any HB3.out.again (HP.out.on HB3.out.below) n hn HLM.out).mono ?_
  rintro e w4 ⟨v4, rfl, hb4⟩
  obtain ⟨W5, hW5⟩ : ∃ W5, W5 = w4.alloc (.cells #[.int .u8 62] 5) := ⟨_, rfl⟩
  have HB5 : Hid (Buf B w v4 (xs ++ [35, 82, 101, 102, 60] ++ itoa n) W5) := by rw [hW5]; exact (HB3.out.then hb4).alloc _
  have HC5 : Hid (W5.cell? ⟨w4.heap.size, 0, none⟩ = some (.int .u8 (62 : UInt8).toNat)) := by rw [hW5]; exact cell_of_row (block_alloc _ _) rfl
  have HL5 : Hid ((xs ++ [35, 82, 101, 102, 60] ++ itoa n).length + 1 ≤ 140737488355328) := by have := HLE.out; show _ ≤ _; simp only [List.length_append, List.length_cons, List.length_nil] at this ⊢; omega
  clear hb4
  go_wp2_with (at_builtin; rw [← hW5]; refine wpList_buf_byte rfl (.tmp 33) (.tmp 34) rfl HB5.out rfl w4.heap.size 62 rfl HC5.out HL5.out ?_)
  intro v6 w6 hb6
  have HB6 := Lib.hid hb6
  clear hb6
  go_wp2_with fail
  go_ret
  exact ⟨_, rfl, by have h := HB6.out; simpa using h⟩

set_option maxHeartbeats 4000000 in
set_option maxRecDepth 100000 in
theorem app_pid (n : Int) (s t : ByteArray) (A : Option Addr) (len cap : Nat) (B : Nat) (sv : Value) (xs : List UInt8) (w : World) (hb : Buf B w sv xs w) (hp : Pow B w) (hn : -9223372036854775808 ≤ n ∧ n ≤ 9223372036854775807) (hlen : xs.length + ([60] ++ itoa n ++ [62]).length + 64 ≤ 140737488355328) :
    Calls Tryz.prog 204 #[sv, .agg #[.int .i8 4, .int .i64 n, .string s, .string t, .slice A len cap]] w fun e w' => ∃ v', e = .returned v' ∧ Buf B w v' (xs ++ ([60] ++ itoa n ++ [62])) w' := by
  have q0 := ta_pid_integer (.int .i64 n)
  have q1 := ta_pid_atom (.int .i64 n)
  have q2 := ta_pid_ref (.int .i64 n)
  have q3 := ta_pid_fun (.int .i64 n)
  have q4 := ta_pid_pid (.int .i64 n)
  obtain ⟨W1, hW1⟩ : ∃ W1, W1 = w.alloc (.cells #[.int .i8 4, .int .i64 n, .string s, .string t, .slice A len cap] 48) := ⟨_, rfl⟩
  have hb1 : Buf B w sv xs W1 := by rw [hW1]; exact hb.alloc _
  have gx : W1.heap[w.heap.size]? = some (.cells #[.int .i8 4, .int .i64 n, .string s, .string t, .slice A len cap] 48 (0, 0)) := by rw [hW1]; exact block_alloc _ _
  have HB0 := Lib.hid hb
  have HP := Lib.hid hp
  have HLE := Lib.hid hlen
  have HB1 := Lib.hid hb1
  have HGX := Lib.hid gx
  clear hb hp hlen hb1 gx
  go_enter Tryz.func204, Tryz.ntmps204
  go_wp2_with fail
  rw [← hW1]
  clear hW1
  refine (nodeOf_pid n s t A len cap _).mono ?_
  rintro e w2 ⟨rfl, b2⟩
  have HB2 := Lib.hid (HB1.out.below_ b2)
  have HGX2 := Lib.hid ((b2.block _ (heap_lt HGX.out)).trans HGX.out)
  clear b2
  have hit := Go.Lib.itoa_length_le n hn.1 hn.2
  obtain ⟨W3, hW3⟩ : ∃ W3, W3 = w2.alloc (.cells #[.int .u8 60] 5) := ⟨_, rfl⟩
  have HB3 : Hid (Buf B w sv xs W3) := by rw [hW3]; exact HB2.out.alloc _
  have HC3 : Hid (W3.cell? ⟨w2.heap.size, 0, none⟩ = some (.int .u8 (60 : UInt8).toNat)) := by rw [hW3]; exact cell_of_row (block_alloc _ _) rfl
  have HL3 : Hid (xs.length + 1 ≤ 140737488355328) := by have := HLE.out; show _ ≤ _; omega
  go_wp2_with (at_builtin; rw [← hW3]; refine wpList_buf_byte rfl (.tmp 59) (.tmp 60) rfl HB3.out rfl w2.heap.size 60 rfl HC3.out HL3.out ?_)
  intro v4 w4 hb4
  have HB4 : Hid (Buf B w v4 (xs ++ [60]) w4) := hb4
  have HLM : Hid ((xs ++ [(60 : UInt8)]).length + 21 ≤ 140737488355328) := by have := HLE.out; show _ ≤ _; simp only [List.length_append, List.length_cons, List.length_nil] at this ⊢; omega
  clear hb4
  go_wp2_with fail
  refine (appendNumber_any HB4.out.again (HP.out.on HB4.out.below) n hn HLM.out).mono ?_
  rintro e w5 ⟨v5, rfl, hb5⟩
  obtain ⟨W6, hW6⟩ : ∃ W6, W6 = w5.alloc (.cells #[.int .u8 62] 5) := ⟨_, rfl⟩
  have HB6 : Hid (Buf B w v5 (xs ++ [60] ++ itoa n) W6) := by rw [hW6]; exact (HB4.out.then hb5).alloc _
  have HC6 : Hid (W6.cell? ⟨w5.heap.size, 0, none⟩ = some (.int .u8 (62 : UInt8).toNat)) := by rw [hW6]; exact cell_of_row (block_alloc _ _) rfl
  have HL6 : Hid ((xs ++ [60] ++ itoa n).length + 1 ≤ 140737488355328) := by have := HLE.out; show _ ≤ _; simp only [List.length_append, List.length_cons, List.length_nil] at this ⊢; omega
  clear hb5
  go_wp2_with (at_builtin; rw [← hW6]; refine wpList_buf_byte rfl (.tmp 63) (.tmp 64) rfl HB6.out rfl w5.heap.size 62 rfl HC6.out HL6.out ?_)
  intro v7 w7 hb7
  have HB7 := Lib.hid hb7
  clear hb7
  go_wp2_with fail
  go_ret
  exact ⟨_, rfl, by have h := HB7.out; simpa using h⟩

set_option maxHeartbeats 4000000 in
set_option maxRecDepth 100000 in
theorem app_empty (n : Int) (s t : ByteArray) (A : Option Addr) (len cap : Nat) (B : Nat) (sv : Value) (xs : List UInt8) (w : World) (hb : Buf B w sv xs w) (hp : Pow B w) (hlen : xs.length + ([91, 93]).length + 64 ≤ 140737488355328) :
    Calls Tryz.prog 204 #[sv, .agg #[.int .i8 6, .int .i64 n, .string s, .string t, .slice A len cap]] w fun e w' => ∃ v', e = .returned v' ∧ Buf B w v' (xs ++ ([91, 93])) w' := by
  have q0 := ta_empty_integer (.agg #[])
  have q1 := ta_empty_atom (.agg #[])
  have q2 := ta_empty_ref (.agg #[])
  have q3 := ta_empty_fun (.agg #[])
  have q4 := ta_empty_pid (.agg #[])
  have q5 := ta_empty_tuple (.agg #[])
  have q6 := ta_empty_empty (.agg #[])
  obtain ⟨W1, hW1⟩ : ∃ W1, W1 = w.alloc (.cells #[.int .i8 6, .int .i64 n, .string s, .string t, .slice A len cap] 48) := ⟨_, rfl⟩
  have hb1 : Buf B w sv xs W1 := by rw [hW1]; exact hb.alloc _
  have gx : W1.heap[w.heap.size]? = some (.cells #[.int .i8 6, .int .i64 n, .string s, .string t, .slice A len cap] 48 (0, 0)) := by rw [hW1]; exact block_alloc _ _
  have HB0 := Lib.hid hb
  have HP := Lib.hid hp
  have HLE := Lib.hid hlen
  have HB1 := Lib.hid hb1
  have HGX := Lib.hid gx
  clear hb hp hlen hb1 gx
  go_enter Tryz.func204, Tryz.ntmps204
  go_wp2_with fail
  rw [← hW1]
  clear hW1
  refine (nodeOf_empty n s t A len cap _).mono ?_
  rintro e w2 ⟨rfl, b2⟩
  have HB2 := Lib.hid (HB1.out.below_ b2)
  have HGX2 := Lib.hid ((b2.block _ (heap_lt HGX.out)).trans HGX.out)
  clear b2
  have HLN : Hid (xs.length + (2 : Nat) ≤ 140737488355328) := by have := HLE.out; show _ ≤ _; omega
  have HB3 := Lib.hid (HB2.out.alloc (.cells #[] 257))
  go_wp2_with (at_builtin; refine wpList_buf_text rfl (.tmp 79) (.const (.string ⟨#[91, 93]⟩)) 9 Tryz.underlying9 rfl HB3.out rfl ⟨#[91, 93]⟩ rfl HLN.out ?_)
  intro v3 w3 hb3
  have HB4 : Hid (Buf B w v3 (xs ++ [91, 93]) w3) := hb3
  clear hb3
  go_wp2_with fail
  go_ret
  exact ⟨_, rfl, HB4.out⟩

set_option maxHeartbeats 4000000 in
set_option maxRecDepth 100000 in
theorem app_tuple (n : Int) (s t : ByteArray) (A : Option Addr) (cap : Nat) (l : List Tm) (B : Nat) (sv : Value) (xs : List UInt8) (w : World) (hb : Buf B w sv xs w) (hp : Pow B w) (P : Nat → Prop) (hP : ∀ b, P b → Stays B w b) (hR : TRow P w A l.length cap l) (hO : ∀ y ∈ l, TxtOf y) (hV : ∀ y ∈ l, Valid y) (hlen : xs.length + ([123] ++ joinC (l.map txt) ++ [125]).length + 64 ≤ 140737488355328) :
    Calls Tryz.prog 204 #[sv, .agg #[.int .i8 5, .int .i64 n, .string s, .string t, .slice A l.length cap]] w fun e w' => ∃ v', e = .returned v' ∧ Buf B w v' (xs ++ ([123] ++ joinC (l.map txt) ++ [125])) w' := by
  have HR := Lib.hid hR
  have HPB := Lib.hid hP
  have HO := Lib.hid hO
  have HV := Lib.hid hV
  clear hR hP hO hV
  have q0 := ta_tuple_integer (.slice A l.length cap)
  have q1 := ta_tuple_atom (.slice A l.length cap)
  have q2 := ta_tuple_ref (.slice A l.length cap)
  have q3 := ta_tuple_fun (.slice A l.length cap)
  have q4 := ta_tuple_pid (.slice A l.length cap)
  have q5 := ta_tuple_tuple (.slice A l.length cap)
  obtain ⟨W1, hW1⟩ : ∃ W1, W1 = w.alloc (.cells #[.int .i8 5, .int .i64 n, .string s, .string t, .slice A l.length cap] 48) := ⟨_, rfl⟩
  have hb1 : Buf B w sv xs W1 := by rw [hW1]; exact hb.alloc _
  have gx : W1.heap[w.heap.size]? = some (.cells #[.int .i8 5, .int .i64 n, .string s, .string t, .slice A l.length cap] 48 (0, 0)) := by rw [hW1]; exact block_alloc _ _
  have HB0 := Lib.hid hb
  have HP := Lib.hid hp
  have HLE := Lib.hid hlen
  have HB1 := Lib.hid hb1
  have HGX := Lib.hid gx
  clear hb hp hlen hb1 gx
  go_enter Tryz.func204, Tryz.ntmps204
  go_wp2_with fail
  rw [← hW1]
  clear hW1
  refine (nodeOf_tuple n s t A l.length cap _).mono ?_
  rintro e w2 ⟨rfl, b2⟩
  have HB2 := Lib.hid (HB1.out.below_ b2)
  have HGX2 := Lib.hid ((b2.block _ (heap_lt HGX.out)).trans HGX.out)
  clear b2
  obtain ⟨W3, hW3⟩ : ∃ W3, W3 = w2.alloc (.cells #[.int .u8 123] 5) := ⟨_, rfl⟩
  have HB3 : Hid (Buf B w sv xs W3) := by rw [hW3]; exact HB2.out.alloc _
  have HC3 : Hid (W3.cell? ⟨w2.heap.size, 0, none⟩ = some (.int .u8 (123 : UInt8).toNat)) := by rw [hW3]; exact cell_of_row (block_alloc _ _) rfl
  have HL3 : Hid (xs.length + 1 ≤ 140737488355328) := by have := HLE.out; show _ ≤ _; omega
  go_wp2_with (at_builtin; rw [← hW3]; refine wpList_buf_byte rfl (.tmp 69) (.tmp 70) rfl HB3.out rfl w2.heap.size 123 rfl HC3.out HL3.out ?_)
  intro v4 w4 hb4
  have HB4 : Hid (Buf B w v4 (xs ++ [123]) w4) := hb4
  have HC4 := Lib.hid (appendRow_any l HO.out HV.out B P v4 (xs ++ [123]) A cap w4 hb4.again (HP.out.on hb4.below) (fun q hq => (HPB.out q hq).on hb4) (HR.out.keep (fun q hq => hb4.stays (HPB.out q hq)) (fun _ h => h)) (by have := HLE.out; simp only [List.length_append, List.length_cons, List.length_nil] at this ⊢; omega))
  clear hb4
  go_wp2_with fail
  refine HC4.out.mono ?_
  rintro e w5 ⟨v5, rfl, hb5⟩
  obtain ⟨W6, hW6⟩ : ∃ W6, W6 = w5.alloc (.cells #[.int .u8 125] 5) := ⟨_, rfl⟩
  have HB6 : Hid (Buf B w v5 (xs ++ [123] ++ joinC (l.map txt)) W6) := by rw [hW6]; exact (HB4.out.then hb5).alloc _
  have HC6 : Hid (W6.cell? ⟨w5.heap.size, 0, none⟩ = some (.int .u8 (125 : UInt8).toNat)) := by rw [hW6]; exact cell_of_row (block_alloc _ _) rfl
  have HL6 : Hid ((xs ++ [123] ++ joinC (l.map txt)).length + 1 ≤ 140737488355328) := by have := HLE.out; show _ ≤ _; simp only [List.length_append, List.length_cons, List.length_nil] at this ⊢; omega
  clear hb5
  go_wp2_with (at_builtin; rw [← hW6]; refine wpList_buf_byte rfl (.tmp 73) (.tmp 74) rfl HB6.out rfl w5.heap.size 125 rfl HC6.out HL6.out ?_)
  intro v7 w7 hb7
  have HB7 := Lib.hid hb7
  clear hb7
  go_wp2_with fail
  go_ret
  exact ⟨_, rfl, by have h := HB7.out; simpa using h⟩

set_option maxHeartbeats 4000000 in
set_option maxRecDepth 100000 in
theorem app_cons (n : Int) (s t : ByteArray) (A : Option Addr) (cap : Nat) (l : List Tm) (res : List UInt8) (B : Nat) (sv : Value) (xs : List UInt8) (w : World) (hb : Buf B w sv xs w) (hp : Pow B w) (hlen : xs.length + res.length + 64 ≤ 140737488355328)
    (hC : ∀ w2, Buf B w sv xs w2 → Calls Tryz.prog 235 #[sv, .agg #[.int .i8 7, .int .i64 n, .string s, .string t, .slice A l.length cap]] w2 fun e w' => ∃ v', e = .returned v' ∧ Buf B w2 v' (xs ++ res) w') :
    Calls Tryz.prog 204 #[sv, .agg #[.int .i8 7, .int .i64 n, .string s, .string t, .slice A l.length cap]] w fun e w' => ∃ v', e = .returned v' ∧ Buf B w v' (xs ++ res) w' := by
  have HC := Lib.hid hC
  clear hC
  have q0 := ta_cons_integer (.slice A l.length cap)
  have q1 := ta_cons_atom (.slice A l.length cap)
  have q2 := ta_cons_ref (.slice A l.length cap)
  have q3 := ta_cons_fun (.slice A l.length cap)
  have q4 := ta_cons_pid (.slice A l.length cap)
  have q5 := ta_cons_tuple (.slice A l.length cap)
  have q6 := ta_cons_empty (.slice A l.length cap)
  have q7 := ta_cons_cons (.slice A l.length cap)
  obtain ⟨W1, hW1⟩ : ∃ W1, W1 = w.alloc (.cells #[.int .i8 7, .int .i64 n, .string s, .string t, .slice A l.length cap] 48) := ⟨_, rfl⟩
  have hb1 : Buf B w sv xs W1 := by rw [hW1]; exact hb.alloc _
  have gx : W1.heap[w.heap.size]? = some (.cells #[.int .i8 7, .int .i64 n, .string s, .string t, .slice A l.length cap] 48 (0, 0)) := by rw [hW1]; exact block_alloc _ _
  have HB0 := Lib.hid hb
  have HP := Lib.hid hp
  have HLE := Lib.hid hlen
  have HB1 := Lib.hid hb1
  have HGX := Lib.hid gx
  clear hb hp hlen hb1 gx
  go_enter Tryz.func204, Tryz.ntmps204
  go_wp2_with fail
  rw [← hW1]
  clear hW1
  refine (nodeOf_cons n s t A l.length cap _).mono ?_
  rintro e w2 ⟨rfl, b2⟩
  have HB2 := Lib.hid (HB1.out.below_ b2)
  have HGX2 := Lib.hid ((b2.block _ (heap_lt HGX.out)).trans HGX.out)
  clear b2
  have d0 : w2.cell? ⟨w.heap.size, 0, none⟩ = some (.int .i8 7) := cell_of_row HGX2.out rfl
  have d1 : w2.cell? ⟨w.heap.size, 1, none⟩ = some (.int .i64 n) := cell_of_row HGX2.out rfl
  have d2 : w2.cell? ⟨w.heap.size, 2, none⟩ = some (.string s) := cell_of_row HGX2.out rfl
  have d3 : w2.cell? ⟨w.heap.size, 3, none⟩ = some (.string t) := cell_of_row HGX2.out rfl
  have d4 : w2.cell? ⟨w.heap.size, 4, none⟩ = some (.slice A l.length cap) := cell_of_row HGX2.out rfl
  have HD : Hid (∃ W3, W3 = w2.alloc (.cells #[] 257)) := ⟨_, rfl⟩
  go_wp2_with fail
  refine (HC.out _ HB2.out).mono ?_
  rintro e w3 ⟨v3, rfl, hb3⟩
  have HB3 := Lib.hid (HB2.out.then hb3)
  clear hb3 d0 d1 d2 d3 d4
  go_wp2_with fail
  go_ret
  exact ⟨_, rfl, HB3.out⟩

set_option maxHeartbeats 4000000 in
set_option maxRecDepth 100000 in
theorem app_fun (n : Int) (s t : ByteArray) (A : Option Addr) (len cap : Nat) (B : Nat) (sv : Value) (xs : List UInt8) (w : World) (hb : Buf B w sv xs w) (hp : Pow B w) (hn : -9223372036854775808 ≤ n ∧ n ≤ 9223372036854775807) (hlen : xs.length + ([102, 117, 110, 32] ++ s.data.toList ++ [58] ++ t.data.toList ++ [47] ++ itoa n).length + 64 ≤ 140737488355328) :
    Calls Tryz.prog 204 #[sv, .agg #[.int .i8 3, .int .i64 n, .string s, .string t, .slice A len cap]] w fun e w' => ∃ v', e = .returned v' ∧ Buf B w v' (xs ++ ([102, 117, 110, 32] ++ s.data.toList ++ [58] ++ t.data.toList ++ [47] ++ itoa n)) w' := by
  have q0 := ta_fun_integer (.agg #[.string s, .string t, .int .i64 n])
  have q1 := ta_fun_atom (.agg #[.string s, .string t, .int .i64 n])
  have q2 := ta_fun_ref (.agg #[.string s, .string t, .int .i64 n])
  have q3 := ta_fun_fun (.agg #[.string s, .string t, .int .i64 n])
  obtain ⟨W1, hW1⟩ : ∃ W1, W1 = w.alloc (.cells #[.int .i8 3, .int .i64 n, .string s, .string t, .slice A len cap] 48) := ⟨_, rfl⟩
  have hb1 : Buf B w sv xs W1 := by rw [hW1]; exact hb.alloc _
  have gx : W1.heap[w.heap.size]? = some (.cells #[.int .i8 3, .int .i64 n, .string s, .string t, .slice A len cap] 48 (0, 0)) := by rw [hW1]; exact block_alloc _ _
  have HB0 := Lib.hid hb
  have HP := Lib.hid hp
  have HLE := Lib.hid hlen
  have HB1 := Lib.hid hb1
  have HGX := Lib.hid gx
  clear hb hp hlen hb1 gx
  go_enter Tryz.func204, Tryz.ntmps204
  go_wp2_with fail
  rw [← hW1]
  clear hW1
  refine (nodeOf_fun n s t A len cap _).mono ?_
  rintro e w2 ⟨rfl, b2⟩
  have HB2 := Lib.hid (HB1.out.below_ b2)
  have HGX2 := Lib.hid ((b2.block _ (heap_lt HGX.out)).trans HGX.out)
  clear b2
  have hit := Go.Lib.itoa_length_le n hn.1 hn.2
  have hss : s.data.toList.length = s.size := by rw [Array.length_toList]; rfl
  have htt : t.data.toList.length = t.size := by rw [Array.length_toList]; rfl
  have HLL : Hid (xs.length + 4 + s.size + 1 + t.size + 1 + (itoa n).length + 64 ≤ 140737488355328) := by have := HLE.out; show _ ≤ _; simp only [List.length_append, List.length_cons, List.length_nil] at this; omega
  have HSS := Lib.hid hss
  have HTT := Lib.hid htt
  clear hss htt
  obtain ⟨W3, hW3⟩ : ∃ W3, W3 = w2.alloc (.cells #[.string s, .string t, .int .i64 n] 253) := ⟨_, rfl⟩
  have HB3 : Hid (Buf B w sv xs W3) := by rw [hW3]; exact HB2.out.alloc _
  have HG3 : Hid (W3.heap[w2.heap.size]? = some (.cells #[.string s, .string t, .int .i64 n] 253 (0, 0))) := by rw [hW3]; exact block_alloc _ _
  go_wp2_with fail
  rw [← hW3]
  clear hW3
  go_wp2_with fail
  obtain ⟨u0, hu0⟩ : ∃ u, u = { W3 with drawn := W3.drawn + 1 } := ⟨_, rfl⟩
  have hS0 : u0.heap[w2.heap.size]? = some (.cells #[.string s, .string t, .int .i64 n] 253 (0, 0)) := by rw [hu0]; exact HG3.out
  have HU0 : Hid (Buf B w sv (xs) u0) := by rw [hu0]; exact HB3.out.drew
  refine wp_region_held (S := fun W => W.heap[w2.heap.size]? = some (.cells #[.string s, .string t, .int .i64 n] 253 (0, 0))) (by kernel_rfl) ?_
  rw [← hu0]
  clear hu0
  refine wpAnyH_take (i := 0) (oi := ⟨some 39, _, _, _, _, _⟩) (v := ?_) rfl (by kernel_rfl) (by kernel_rfl) (by kernel_rfl) (fun _ _ _ h => h) (Or.inl ⟨by kernel_rfl, ?_⟩) (by assumption) ?_; rotate_left; (intro w hSw; (try dsimp only at hSw); go_simp; first | done | with_reducible rfl); (try simp only [Act.put, sI, sZ, sS])
  refine wpAnyH_take (i := 2) (oi := ⟨some 41, _, _, _, _, _⟩) (v := ?_) rfl (by kernel_rfl) (by kernel_rfl) (by kernel_rfl) (fun _ _ _ h => h) (Or.inl ⟨by kernel_rfl, ?_⟩) (by assumption) ?_; rotate_left; (intro w hSw; (try dsimp only at hSw); go_simp; first | done | with_reducible rfl); (try simp only [Act.put, sI, sZ, sS])
  refine wpAnyH_take (i := 3) (oi := ⟨some 42, _, _, _, _, _⟩) (v := ?_) rfl (by kernel_rfl) (by kernel_rfl) (by kernel_rfl) (fun _ _ _ h => h) (Or.inl ⟨by kernel_rfl, ?_⟩) (by assumption) ?_; rotate_left; (intro w hSw; (try dsimp only at hSw); have z0 := cell_of_row (i := 0) hSw rfl; go_simp; first | done | with_reducible rfl); (try simp only [Act.put, sI, sZ, sS])
  have HL4 : Hid (xs.length + (4 : Nat) ≤ 140737488355328) := by have := HLL.out; show _ ≤ _; omega
  refine wpAnyH_ready (rs := [1]) (by kernel_rfl) (by simp) ?_
  refine AllReadyH.cons (o := ⟨some 40, _, _, _, _, _⟩) rfl (fun K hK => ?_) AllReadyH.nil
  rw [if_pos (by rfl)]
  refine wp_buf_text (.tmp 39) (.const (.string ⟨#[102, 117, 110, 32]⟩)) 9 Tryz.underlying9 rfl HU0.out.again rfl ⟨#[102, 117, 110, 32]⟩ rfl HL4.out ?_
  intro v4 w4 hb4
  have HB4 : Hid (Buf B w v4 (xs ++ [102, 117, 110, 32]) w4) := HU0.out.then hb4
  have hS4 : w4.heap[w2.heap.size]? = some (.cells #[.string s, .string t, .int .i64 n] 253 (0, 0)) := hb4.kept_box (T := 253) (by decide) hS0
  clear hb4
  refine hK.out _ _ hS4 (fun hSn => ?_)
  clear hK K; (try simp only [Act.put, sI, sZ, sS])
  have HL5 : Hid ((xs ++ [102, 117, 110, 32]).length + s.size ≤ 140737488355328) := by have := HLL.out; show _ ≤ _; simp only [List.length_append, List.length_cons, List.length_nil]; omega
  refine wpAnyH_ready (rs := [4]) (by kernel_rfl) (by simp) ?_
  refine AllReadyH.cons (o := ⟨some 43, _, _, _, _, _⟩) rfl (fun K hK => ?_) AllReadyH.nil
  rw [if_pos (by rfl)]
  refine wp_buf_text (.tmp 40) (.tmp 42) 9 Tryz.underlying9 rfl HB4.out.again rfl s rfl HL5.out ?_
  intro v5 w5 hb5
  have HB5 : Hid (Buf B w v5 (xs ++ [102, 117, 110, 32] ++ s.data.toList) w5) := HB4.out.then hb5
  have hS5 : w5.heap[w2.heap.size]? = some (.cells #[.string s, .string t, .int .i64 n] 253 (0, 0)) := hb5.kept_box (T := 253) (by decide) hS4
  clear hb5
  refine hK.out _ _ hS5 (fun hSn => ?_)
  clear hK K; (try simp only [Act.put, sI, sZ, sS])
  refine wpAnyH_take (i := 5) (oi := ⟨some 0, _, _, _, _, _⟩) (v := ?_) rfl (by kernel_rfl) (by kernel_rfl) (by kernel_rfl) (fun _ _ _ h => h) (Or.inl ⟨by kernel_rfl, ?_⟩) (by assumption) ?_; rotate_left; (intro w hSw; (try dsimp only at hSw); go_simp; first | done | with_reducible rfl); (try simp only [Act.put, List.setIfInBounds_toArray, List.set_cons_zero])
  refine wpAnyH_done (by kernel_rfl) ?_ _
  go_wp2_with fail
  obtain ⟨u1, hu1⟩ : ∃ u, u = { w5 with drawn := w5.drawn + 1 } := ⟨_, rfl⟩
  have hS1 : u1.heap[w2.heap.size]? = some (.cells #[.string s, .string t, .int .i64 n] 253 (0, 0)) := by rw [hu1]; exact hS5
  have HU1 : Hid (Buf B w v5 (xs ++ [102, 117, 110, 32] ++ s.data.toList) u1) := by rw [hu1]; exact HB5.out.drew
  refine wp_region_held (S := fun W => W.heap[w2.heap.size]? = some (.cells #[.string s, .string t, .int .i64 n] 253 (0, 0))) (by kernel_rfl) ?_
  rw [← hu1]
  clear hu1
  refine wpAnyH_take (i := 0) (oi := ⟨some 44, _, _, _, _, _⟩) (v := ?_) rfl (by kernel_rfl) (by kernel_rfl) (by kernel_rfl) (fun _ _ _ h => h) (Or.inl ⟨by kernel_rfl, ?_⟩) (by assumption) ?_; rotate_left; (intro w hSw; (try dsimp only at hSw); go_simp; first | done | with_reducible rfl); (try simp only [Act.put, sI, sZ, sS])
  refine wpAnyH_take (i := 3) (oi := ⟨some 47, _, _, _, _, _⟩) (v := ?_) rfl (by kernel_rfl) (by kernel_rfl) (by kernel_rfl) (fun _ _ _ h => h) (Or.inl ⟨by kernel_rfl, ?_⟩) (by assumption) ?_; rotate_left; (intro w hSw; (try dsimp only at hSw); go_simp; first | done | with_reducible rfl); (try simp only [Act.put, sI, sZ, sS])
  refine wpAnyH_take (i := 4) (oi := ⟨some 48, _, _, _, _, _⟩) (v := ?_) rfl (by kernel_rfl) (by kernel_rfl) (by kernel_rfl) (fun _ _ _ h => h) (Or.inl ⟨by kernel_rfl, ?_⟩) (by assumption) ?_; rotate_left; (intro w hSw; (try dsimp only at hSw); have z1 := cell_of_row (i := 1) hSw rfl; go_simp; first | done | with_reducible rfl); (try simp only [Act.put, sI, sZ, sS])
  refine wpAnyH_ready (rs := [1]) (by kernel_rfl) (by simp) ?_
  refine AllReadyH.cons (o := ⟨some 45, _, _, _, _, _⟩) rfl (fun K hK => ?_) AllReadyH.nil
  rw [if_pos (by rfl)]
  go_simp
  have hS6 : (u1.alloc (.cells #[.int .u8 58] 5)).heap[w2.heap.size]? = some (.cells #[.string s, .string t, .int .i64 n] 253 (0, 0)) := (Below.heap_alloc _ _ _ (heap_lt hS1)).trans hS1
  have HB6 : Hid (Buf B w v5 (xs ++ [102, 117, 110, 32] ++ s.data.toList) (u1.alloc (.cells #[.int .u8 58] 5))) := HU1.out.alloc _
  have HC6 : Hid ((u1.alloc (.cells #[.int .u8 58] 5)).cell? ⟨u1.heap.size, 0, none⟩ = some (.int .u8 (58 : UInt8).toNat)) := cell_of_row (block_alloc _ _) rfl
  refine hK.out _ _ hS6 (fun hSn => ?_)
  clear hK K; (try simp only [Act.put, sI, sZ, sS])
  have HL7 : Hid ((xs ++ [102, 117, 110, 32] ++ s.data.toList).length + 1 ≤ 140737488355328) := by have := HLL.out; have := HSS.out; show _ ≤ _; simp only [List.length_append, List.length_cons, List.length_nil]; omega
  refine wpAnyH_ready (rs := [2]) (by kernel_rfl) (by simp) ?_
  refine AllReadyH.cons (o := ⟨some 46, _, _, _, _, _⟩) rfl (fun K hK => ?_) AllReadyH.nil
  rw [if_pos (by rfl)]
  refine wp_buf_byte (.tmp 44) (.tmp 45) rfl HB6.out.again rfl u1.heap.size 58 rfl HC6.out HL7.out ?_
  intro v7 w7 hb7
  have HB7 : Hid (Buf B w v7 (xs ++ [102, 117, 110, 32] ++ s.data.toList ++ [58]) w7) := HB6.out.then hb7
  have hS7 : w7.heap[w2.heap.size]? = some (.cells #[.string s, .string t, .int .i64 n] 253 (0, 0)) := hb7.kept_box (T := 253) (by decide) hS6
  clear hb7
  refine hK.out _ _ hS7 (fun hSn => ?_)
  clear hK K; (try simp only [Act.put, sI, sZ, sS])
  have HL8 : Hid ((xs ++ [102, 117, 110, 32] ++ s.data.toList ++ [58]).length + t.size ≤ 140737488355328) := by have := HLL.out; have := HSS.out; show _ ≤ _; simp only [List.length_append, List.length_cons, List.length_nil]; omega
  refine wpAnyH_ready (rs := [5]) (by kernel_rfl) (by simp) ?_
  refine AllReadyH.cons (o := ⟨some 49, _, _, _, _, _⟩) rfl (fun K hK => ?_) AllReadyH.nil
  rw [if_pos (by rfl)]
  refine wp_buf_text (.tmp 46) (.tmp 48) 9 Tryz.underlying9 rfl HB7.out.again rfl t rfl HL8.out ?_
  intro v8 w8 hb8
  have HB8 : Hid (Buf B w v8 (xs ++ [102, 117, 110, 32] ++ s.data.toList ++ [58] ++ t.data.toList) w8) := HB7.out.then hb8
  have hS8 : w8.heap[w2.heap.size]? = some (.cells #[.string s, .string t, .int .i64 n] 253 (0, 0)) := hb8.kept_box (T := 253) (by decide) hS7
  clear hb8
  refine hK.out _ _ hS8 (fun hSn => ?_)
  clear hK K; (try simp only [Act.put, sI, sZ, sS])
  refine wpAnyH_take (i := 6) (oi := ⟨some 0, _, _, _, _, _⟩) (v := ?_) rfl (by kernel_rfl) (by kernel_rfl) (by kernel_rfl) (fun _ _ _ h => h) (Or.inl ⟨by kernel_rfl, ?_⟩) (by assumption) ?_; rotate_left; (intro w hSw; (try dsimp only at hSw); go_simp; first | done | with_reducible rfl); (try simp only [Act.put, List.setIfInBounds_toArray, List.set_cons_zero])
  refine wpAnyH_done (by kernel_rfl) ?_ _
  go_wp2_with fail
  obtain ⟨u2, hu2⟩ : ∃ u, u = { w8 with drawn := w8.drawn + 1 } := ⟨_, rfl⟩
  have hS2 : u2.heap[w2.heap.size]? = some (.cells #[.string s, .string t, .int .i64 n] 253 (0, 0)) := by rw [hu2]; exact hS8
  have HU2 : Hid (Buf B w v8 (xs ++ [102, 117, 110, 32] ++ s.data.toList ++ [58] ++ t.data.toList) u2) := by rw [hu2]; exact HB8.out.drew
  refine wp_region_held (S := fun W => W.heap[w2.heap.size]? = some (.cells #[.string s, .string t, .int .i64 n] 253 (0, 0))) (by kernel_rfl) ?_
  rw [← hu2]
  clear hu2
  refine wpAnyH_take (i := 0) (oi := ⟨some 50, _, _, _, _, _⟩) (v := ?_) rfl (by kernel_rfl) (by kernel_rfl) (by kernel_rfl) (fun _ _ _ h => h) (Or.inl ⟨by kernel_rfl, ?_⟩) (by assumption) ?_; rotate_left; (intro w hSw; (try dsimp only at hSw); go_simp; first | done | with_reducible rfl); (try simp only [Act.put, sI, sZ, sS])
  refine wpAnyH_take (i := 3) (oi := ⟨some 53, _, _, _, _, _⟩) (v := ?_) rfl (by kernel_rfl) (by kernel_rfl) (by kernel_rfl) (fun _ _ _ h => h) (Or.inl ⟨by kernel_rfl, ?_⟩) (by assumption) ?_; rotate_left; (intro w hSw; (try dsimp only at hSw); go_simp; first | done | with_reducible rfl); (try simp only [Act.put, sI, sZ, sS])
  refine wpAnyH_take (i := 4) (oi := ⟨some 54, _, _, _, _, _⟩) (v := ?_) rfl (by kernel_rfl) (by kernel_rfl) (by kernel_rfl) (fun _ _ _ h => h) (Or.inl ⟨by kernel_rfl, ?_⟩) (by assumption) ?_; rotate_left; (intro w hSw; (try dsimp only at hSw); have z2 := cell_of_row (i := 2) hSw rfl; go_simp; first | done | with_reducible rfl); (try simp only [Act.put, sI, sZ, sS])
  refine wpAnyH_ready (rs := [1]) (by kernel_rfl) (by simp) ?_
  refine AllReadyH.cons (o := ⟨some 51, _, _, _, _, _⟩) rfl (fun K hK => ?_) AllReadyH.nil
  rw [if_pos (by rfl)]
  go_simp
  have hS9 : (u2.alloc (.cells #[.int .u8 47] 5)).heap[w2.heap.size]? = some (.cells #[.string s, .string t, .int .i64 n] 253 (0, 0)) := (Below.heap_alloc _ _ _ (heap_lt hS2)).trans hS2
  have HB9 : Hid (Buf B w v8 (xs ++ [102, 117, 110, 32] ++ s.data.toList ++ [58] ++ t.data.toList) (u2.alloc (.cells #[.int .u8 47] 5))) := HU2.out.alloc _
  have HC9 : Hid ((u2.alloc (.cells #[.int .u8 47] 5)).cell? ⟨u2.heap.size, 0, none⟩ = some (.int .u8 (47 : UInt8).toNat)) := cell_of_row (block_alloc _ _) rfl
  refine hK.out _ _ hS9 (fun hSn => ?_)
  clear hK K; (try simp only [Act.put, sI, sZ, sS])
  have HL10 : Hid ((xs ++ [102, 117, 110, 32] ++ s.data.toList ++ [58] ++ t.data.toList).length + 1 ≤ 140737488355328) := by have := HLL.out; have := HSS.out; have := HTT.out; show _ ≤ _; simp only [List.length_append, List.length_cons, List.length_nil]; omega
  refine wpAnyH_ready (rs := [2]) (by kernel_rfl) (by simp) ?_
  refine AllReadyH.cons (o := ⟨some 52, _, _, _, _, _⟩) rfl (fun K hK => ?_) AllReadyH.nil
  rw [if_pos (by rfl)]
  refine wp_buf_byte (.tmp 50) (.tmp 51) rfl HB9.out.again rfl u2.heap.size 47 rfl HC9.out HL10.out ?_
  intro v10 w10 hb10
  have HB10 : Hid (Buf B w v10 (xs ++ [102, 117, 110, 32] ++ s.data.toList ++ [58] ++ t.data.toList ++ [47]) w10) := HB9.out.then hb10
  have hS10 : w10.heap[w2.heap.size]? = some (.cells #[.string s, .string t, .int .i64 n] 253 (0, 0)) := hb10.kept_box (T := 253) (by decide) hS9
  clear hb10
  refine hK.out _ _ hS10 (fun hSn => ?_)
  clear hK K; (try simp only [Act.put, sI, sZ, sS])
  have HL11 : Hid ((xs ++ [102, 117, 110, 32] ++ s.data.toList ++ [58] ++ t.data.toList ++ [47]).length + 21 ≤ 140737488355328) := by have := HLL.out; have := HSS.out; have := HTT.out; show _ ≤ _; simp only [List.length_append, List.length_cons, List.length_nil]; omega
  refine wpAnyH_ready (rs := [5]) (by kernel_rfl) (by simp) ?_
  refine AllReadyH.cons (o := ⟨some 55, _, _, _, _, _⟩) rfl (fun K hK => ?_) AllReadyH.nil
  rw [if_pos (by rfl)]
  go_simp
  refine (appendNumber_any HB10.out.again (HP.out.on HB10.out.below) n hn HL11.out).mono ?_
  rintro e w11 ⟨v11, rfl, hb11⟩
  have HB11 : Hid (Buf B w v11 (xs ++ [102, 117, 110, 32] ++ s.data.toList ++ [58] ++ t.data.toList ++ [47] ++ itoa n) w11) := HB10.out.then hb11
  have hS11 : w11.heap[w2.heap.size]? = some (.cells #[.string s, .string t, .int .i64 n] 253 (0, 0)) := hb11.kept_box (T := 253) (by decide) hS10
  clear hb11
  refine hK.out _ _ hS11 (fun hSn => ?_)
  clear hK K; (try simp only [Act.put, sI, sZ, sS])
  refine wpAnyH_take (i := 6) (oi := ⟨some 4, _, _, _, _, _⟩) (v := ?_) rfl (by kernel_rfl) (by kernel_rfl) (by kernel_rfl) (fun _ _ _ h => h) (Or.inl ⟨by kernel_rfl, ?_⟩) (by assumption) ?_; rotate_left; (intro w hSw; (try dsimp only at hSw); go_simp; first | done | with_reducible rfl); (try simp only [Act.put, sI, sZ, sS])
  refine wpAnyH_done (by kernel_rfl) ?_ _
  go_wp2_with fail
  go_ret
  exact ⟨_, rfl, by have h := HB11.out; simpa using h⟩

theorem appendTerm_any : ∀ (N : Nat) (x : Tm), x.nodes ≤ N → N ≤ 100000 → TxtOf x := by
  intro N
  induction N with
  | zero => intro x h _; have := Tm.pre_ne x; unfold Tm.nodes at h; omega
  | succ N ih =>
    intro x hx hN B P sv v xs w hb hp hP hT hV hlen
    obtain ⟨k, n, s, t, l⟩ := x
    obtain ⟨A, cap, rfl, hR, hk, hn, hs, ht⟩ := hT.parts
    have hlow : ∀ y : Tm, y.nodes < (Tm.mk k n s t l).nodes → TxtOf y := fun y hy => ih y (by omega) (by omega)
    have hparts : ∀ y ∈ l, TxtOf y := fun y hy => hlow y (nodes_part hy)
    have hvp : ∀ y ∈ l, Valid y := fun y hy => hV.part hy
    have hok := hV.own
    rw [txt_mk] at hlen ⊢
    by_cases h : k < 0 ∨ 7 < k
    · exfalso
      rw [show okB (.mk k n s t l) = okN k n s t l.length from rfl, okN_no h] at hok
      cases hok
    · have h8 : k = 0 ∨ k = 1 ∨ k = 2 ∨ k = 3 ∨ k = 4 ∨ k = 5 ∨ k = 6 ∨ k = 7 := by omega
      rcases h8 with rfl | rfl | rfl | rfl | rfl | rfl | rfl | rfl
      · exact app_integer n s t A _ cap B sv xs w hb hp hn hlen
      · exact app_atom n s t A _ cap B sv xs w hb hp hlen
      · exact app_ref n s t A _ cap B sv xs w hb hp hn hlen
      · exact app_fun n s t A _ cap B sv xs w hb hp hn hlen
      · exact app_pid n s t A _ cap B sv xs w hb hp hn hlen
      · rw [show ownB 5 n s t (l.map Tm.tx) = [123] ++ joinC (l.map txt) ++ [125] by rw [← map_tx]; rfl] at hlen ⊢
        exact app_tuple n s t A cap l B sv xs w hb hp P hP hR hparts hvp hlen
      · exact app_empty n s t A _ cap B sv xs w hb hp hlen
      · obtain ⟨a, b, rfl⟩ := cons_two hok
        rw [← txt_mk] at hlen ⊢
        refine app_cons n s t A cap [a, b] _ B sv xs w hb hp hlen (fun w2 hb2 => ?_)
        exact appendCons_any n s t a b hlow B P sv _ xs w2 hb2.again (hp.on hb2.below) (fun q hq => (hP q hq).on hb2) (hT.keep (fun q hq => hb2.stays (hP q hq)) (fun _ h => h)) hV (by omega) hlen

def textN (x : Tm) : List UInt8 := if checkN x = 0 then txt x else []

theorem txtT_ne {x : Tm} (hV : Valid x) : txt x ≠ [] := by
  obtain ⟨k, n, s, t, l⟩ := x
  have hok := hV.own
  rw [txt_mk]
  by_cases h : k < 0 ∨ 7 < k
  · rw [show okB (.mk k n s t l) = okN k n s t l.length from rfl, okN_no h] at hok
    cases hok
  · have h8 : k = 0 ∨ k = 1 ∨ k = 2 ∨ k = 3 ∨ k = 4 ∨ k = 5 ∨ k = 6 ∨ k = 7 := by omega
    rcases h8 with rfl | rfl | rfl | rfl | rfl | rfl | rfl | rfl
    · intro e
      have e' : itoa n = [] := e
      unfold Go.Lib.itoa at e'
      split at e'
      · cases e'
      · have := Go.Lib.decDigits_length n.toNat
        rw [e'] at this
        have h2 := Go.Lib.nDigits_pos n.toNat
        simp at this; omega
    · have h := (show ok_atom n s t l.length = true from hok)
      simp [ok_atom] at h
      have := name_size h.1.1.1
      have h2 := toList_size s
      intro e
      have e' : s.data.toList = [] := e
      rw [e'] at h2; simp at h2; omega
    · simp [ownB]
    · simp [ownB]
    · simp [ownB]
    · simp [ownB]
    · simp [ownB]
    · simp [ownB]

set_option maxHeartbeats 2000000 in
set_option maxRecDepth 100000 in
theorem Text_any (x : Tm) (v : Value) (w : World) (hT : TmAt (· < w.heap.size) w x v) (hS : Spans w) (hp : PowTab w) :
    Calls Tryz.prog 147 #[v] w fun e w' => e = .returned (.string ⟨(textN x).toArray⟩) ∧ Below w.heap.size w w' := by
  obtain ⟨k, n, s, t, l, A, cap, hx, rfl⟩ : ∃ k' n' s' t' L' A' cap', x = Tm.mk k' n' s' t' L' ∧ v = .agg #[.int .i8 k', .int .i64 n', .string s', .string t', .slice A' L'.length cap'] := by
    cases hT; exact ⟨_, _, _, _, _, _, _, rfl, rfl⟩
  clear hx
  obtain ⟨w1, hw1⟩ : ∃ w1, w1 = w.alloc (.cells #[.int .i8 k, .int .i64 n, .string s, .string t, .slice A l.length cap] 48) := ⟨_, rfl⟩
  have B1 : Below w.heap.size w w1 := by rw [hw1]; exact (Below.refl _ w).alloc (Nat.le_refl _) _
  have xb : w1.heap[w.heap.size]? = some (.cells #[.int .i8 k, .int .i64 n, .string s, .string t, .slice A l.length cap] 48 (0, 0)) := by rw [hw1]; exact block_alloc _ _
  have atv : ∀ W, Below w.heap.size w W → TmAt (· < w.heap.size) W x (.agg #[.int .i8 k, .int .i64 n, .string s, .string t, .slice A l.length cap]) := fun W hb => hT.keep (fun b h => hb.block b h) (fun b h => h)
  have hS1 : Spans w1 := hS.below B1 hS.lt
  have HC1 := Lib.hid (Check_any x _ w1 ((atv _ B1).mono (fun b h => Nat.lt_of_lt_of_le h B1.size)) hS1)
  have HAV := Lib.hid atv
  have HB1 := Lib.hid B1
  have HXB := Lib.hid xb
  have HP := Lib.hid (Go.Lib.tabBelow_of_tabIs hp)
  clear hT atv B1 xb hp
  go_enter Tryz.func147, Tryz.ntmps147
  go_wp2_with fail
  rw [← hw1]
  clear hw1
  refine HC1.out.mono ?_
  rintro e w2 ⟨rfl, b2⟩
  have HB2 := Lib.hid (HB1.out.trans (b2.mono HB1.out.size))
  have HXB2 := Lib.hid ((b2.block _ (heap_lt HXB.out)).trans HXB.out)
  clear b2
  by_cases hc : checkN x = 0
  · have hc1 : (checkN x != 0) = false := by simpa using hc
    have HCX := Lib.hid hc
    obtain ⟨hV, hn⟩ := check_valid hc
    have hl := (txt_len x hV).1
    have hne := txtT_ne hV
    have x0 : w2.cell? ⟨w.heap.size, 0, none⟩ = some (.int .i8 k) := cell_of_row HXB2.out rfl
    have x1 : w2.cell? ⟨w.heap.size, 1, none⟩ = some (.int .i64 n) := cell_of_row HXB2.out rfl
    have x2 : w2.cell? ⟨w.heap.size, 2, none⟩ = some (.string s) := cell_of_row HXB2.out rfl
    have x3 : w2.cell? ⟨w.heap.size, 3, none⟩ = some (.string t) := cell_of_row HXB2.out rfl
    have x4 : w2.cell? ⟨w.heap.size, 4, none⟩ = some (.slice A l.length cap) := cell_of_row HXB2.out rfl
    have HC2 := Lib.hid (appendTerm_any 100000 x (by omega) (Nat.le_refl _) w.heap.size (· < w.heap.size) (.slice none 0 0) _ [] w2 (Buf.start (World.ownsRow_nil _ _ _ _) HB2.out.size) (HP.out.on HB2.out) (fun b h => .inl h) (HAV.out _ HB2.out) hV
      (by rw [show (txt x) = x.tx.1 from rfl]; simp; omega))
    have HNE := Lib.hid hne
    clear hc hV hn hl hne
    go_wp2_with fail
    refine HC2.out.mono ?_
    clear x0 x1 x2 x3 x4
    rintro e w3 ⟨v3, rfl, hb3⟩
    have B3 := HB2.out.trans hb3.below
    have own := hb3.own
    rw [List.nil_append] at own
    rcases own.2 with ⟨_, h0⟩ | ⟨g, cap3, cur, rfl, hg, hgb, hcap, hcm, hcs, htk⟩
    · exact (HNE.out (List.eq_nil_of_length_eq_zero h0)).elim
    · have hcell := own.cells (g := g) rfl
      have kc := run_convert_bytes_back (P := Tryz.prog) w3 171 9 5 ⟨g, 0, none⟩ cap3 (txt x) Tryz.underlying171 Tryz.underlying5 Tryz.underlying9 (fun j hj => hcell j _ (by simp [byteCells, hj]))
      have HB3 := Lib.hid B3
      clear hb3 B3 own hcell hgb htk hcs
      go_wp2_with fail
      go_ret
      exact ⟨by unfold textN; rw [if_pos HCX.out]; rfl, HB3.out⟩
  · have hc1 : (checkN x != 0) = true := by simpa using hc
    have HCX := Lib.hid hc
    clear hc
    go_wp2_with fail
    go_ret
    exact ⟨by unfold textN; rw [if_neg HCX.out]; rfl, HB2.out⟩
end Go.Proofs.YtdimcddbmccniaaGreatDoor
