/- Layer 7: the program's shapes, may: contracts, from what the kind's own function answers. Layer 7: what may is to tell of a tree at a place; all, from what may tells of each. Layer 7: the program's atom, arity, arguments, tested, clauses, choice: contracts. -/
import Derived.Test.YtmdcdhdjojimeaaGreatDoorKTmL
import Derived.Test.YtmdcdhdjojimeaaGreatDoorKEnv7
import Derived.Test.YtmdcdhdjojimeaaGreatDoorKHas7
import Derived.Laws.Tables
import Derived.Laws.Rows
set_option linter.unusedVariables false
namespace Go.Proofs.YtmdcdhdjojimeaaGreatDoor
open Go.RowKit

def shapesRow : Array Value := #[.func (.func 103) #[] #[], .func (.func 105) #[] #[], .func (.func 107) #[] #[], .func (.func 108) #[] #[], .func (.func 109) #[] #[], .func (.func 110) #[] #[], .func (.func 112) #[] #[], .func (.func 114) #[] #[], .func (.func 115) #[] #[], .func (.func 116) #[] #[], .func (.func 117) #[] #[], .func (.func 118) #[] #[], .func (.func 119) #[] #[], .func (.func 121) #[] #[], .func (.func 122) #[] #[], .func (.func 124) #[] #[], .func (.func 125) #[] #[], .func (.func 126) #[] #[], .func (.func 128) #[] #[], .func (.func 130) #[] #[], .func (.func 131) #[] #[], .func (.func 132) #[] #[]]
def shN (j : Nat) : Nat := [103, 105, 107, 108, 109, 110, 112, 114, 115, 116, 117, 118, 119, 121, 122, 124, 125, 126, 128, 130, 131, 132].getD j 0
set_option maxRecDepth 100000 in
theorem shapes_at (w : World) : ∀ j, j < 22 → (Instr.index 144 (.agg shapesRow) (.int .i8 (j : Nat))).run Tryz.prog w = .ok (.func (.func (shN j)) #[] #[]) w
 | 0, _ => by kernel_rfl  | 1, _ => by kernel_rfl  | 2, _ => by kernel_rfl  | 3, _ => by kernel_rfl  | 4, _ => by kernel_rfl  | 5, _ => by kernel_rfl
 | 6, _ => by kernel_rfl  | 7, _ => by kernel_rfl  | 8, _ => by kernel_rfl  | 9, _ => by kernel_rfl  | 10, _ => by kernel_rfl  | 11, _ => by kernel_rfl
 | 12, _ => by kernel_rfl  | 13, _ => by kernel_rfl  | 14, _ => by kernel_rfl  | 15, _ => by kernel_rfl  | 16, _ => by kernel_rfl  | 17, _ => by kernel_rfl
 | 18, _ => by kernel_rfl  | 19, _ => by kernel_rfl  | 20, _ => by kernel_rfl  | 21, _ => by kernel_rfl
 | j + 22, h => by omega

set_option maxHeartbeats 4000000 in
set_option maxRecDepth 100000 in
theorem shapes_any (w : World) : Calls Tryz.prog 89 #[] w fun e w' => e = .returned (.agg shapesRow) ∧ Below w.heap.size w w' := by
 have g : (w.alloc (.cells #[.nilFunc, .nilFunc, .nilFunc, .nilFunc, .nilFunc, .nilFunc, .nilFunc, .nilFunc, .nilFunc, .nilFunc, .nilFunc, .nilFunc, .nilFunc, .nilFunc, .nilFunc, .nilFunc, .nilFunc, .nilFunc, .nilFunc, .nilFunc, .nilFunc, .nilFunc] 144)).heap[w.heap.size]? = some (.cells #[.nilFunc, .nilFunc, .nilFunc, .nilFunc, .nilFunc, .nilFunc, .nilFunc, .nilFunc, .nilFunc, .nilFunc, .nilFunc, .nilFunc, .nilFunc, .nilFunc, .nilFunc, .nilFunc, .nilFunc, .nilFunc, .nilFunc, .nilFunc, .nilFunc, .nilFunc] 144 (0, 0)) := block_alloc _ _
 have b : Below w.heap.size w (w.alloc (.cells #[.nilFunc, .nilFunc, .nilFunc, .nilFunc, .nilFunc, .nilFunc, .nilFunc, .nilFunc, .nilFunc, .nilFunc, .nilFunc, .nilFunc, .nilFunc, .nilFunc, .nilFunc, .nilFunc, .nilFunc, .nilFunc, .nilFunc, .nilFunc, .nilFunc, .nilFunc] 144)) := (Below.refl _ w).alloc (Nat.le_refl _) _
 have HG := Lib.hid g
 have HB := Lib.hid b
 clear g b
 go_enter Tryz.func89, Tryz.ntmps89
 go_upto_region 1 with fail
 generalize w.alloc (.cells #[.nilFunc, .nilFunc, .nilFunc, .nilFunc, .nilFunc, .nilFunc, .nilFunc, .nilFunc, .nilFunc, .nilFunc, .nilFunc, .nilFunc, .nilFunc, .nilFunc, .nilFunc, .nilFunc, .nilFunc, .nilFunc, .nilFunc, .nilFunc, .nilFunc, .nilFunc] 144) = W1 at HG HB ⊢
 refine wp_region_lit ?_
 refine wpList_build rfl _ _ rfl (by kernel_rfl) ?_
 refine wpList_store_row rfl _ _ _ rfl w.heap.size shapesRow rfl (by kernel_rfl) 144 _ HG.out (by kernel_rfl) rfl (by kernel_rfl) ?_
 refine wpList_nil ?_
 go_wp2_with fail
 refine bodyPost_ret (v := .agg shapesRow) ?_ rfl ?_
 ·exact results_cell_row rfl _ _ w.heap.size 144 shapesRow (0, 0) _ rfl (setRow_heap _ _ _ _ _ _ HG.out) Tryz.underlying144 rfl (by kernel_rfl)
 exact ⟨rfl, ⟨HB.out.os, HB.out.tape, HB.out.output, by simp only [World.setRow, Array.size_modify]; exact HB.out.size, fun k hk => (setRow_other _ _ _ _ (by omega)).trans (HB.out.block k hk)⟩⟩

theorem shapes_enter (args : Array Value) (w : World) : ∀ j, j < 22 → (callFunc (shN j) args).run Tryz.prog w = .ok (.enter (shN j) args) w
 | 0, _ => enters_of Tryz.func103 (by kernel_rfl) rfl args w
 | 1, _ => enters_of Tryz.func105 (by kernel_rfl) rfl args w
 | 2, _ => enters_of Tryz.func107 (by kernel_rfl) rfl args w
 | 3, _ => enters_of Tryz.func108 (by kernel_rfl) rfl args w
 | 4, _ => enters_of Tryz.func109 (by kernel_rfl) rfl args w
 | 5, _ => enters_of Tryz.func110 (by kernel_rfl) rfl args w
 | 6, _ => enters_of Tryz.func112 (by kernel_rfl) rfl args w
 | 7, _ => enters_of Tryz.func114 (by kernel_rfl) rfl args w
 | 8, _ => enters_of Tryz.func115 (by kernel_rfl) rfl args w
 | 9, _ => enters_of Tryz.func116 (by kernel_rfl) rfl args w
 | 10, _ => enters_of Tryz.func117 (by kernel_rfl) rfl args w
 | 11, _ => enters_of Tryz.func118 (by kernel_rfl) rfl args w
 | 12, _ => enters_of Tryz.func119 (by kernel_rfl) rfl args w
 | 13, _ => enters_of Tryz.func121 (by kernel_rfl) rfl args w
 | 14, _ => enters_of Tryz.func122 (by kernel_rfl) rfl args w
 | 15, _ => enters_of Tryz.func124 (by kernel_rfl) rfl args w
 | 16, _ => enters_of Tryz.func125 (by kernel_rfl) rfl args w
 | 17, _ => enters_of Tryz.func126 (by kernel_rfl) rfl args w
 | 18, _ => enters_of Tryz.func128 (by kernel_rfl) rfl args w
 | 19, _ => enters_of Tryz.func130 (by kernel_rfl) rfl args w
 | 20, _ => enters_of Tryz.func131 (by kernel_rfl) rfl args w
 | 21, _ => enters_of Tryz.func132 (by kernel_rfl) rfl args w
 | j + 22, h => by omega

set_option maxHeartbeats 8000000 in
set_option maxRecDepth 100000 in
theorem may_go (j : Nat) (hj : j < 22) (n : Int) (s t : ByteArray) (A : Option Addr) (len cap : Nat) (a : Int) (w : World) (hN : Env7 w) (R : Bool)
  (hC : ∀ V, Below w.heap.size w V → Env7 V → Calls Tryz.prog (shN j) #[.agg #[.int .i8 j, .int .i64 n, .string s, .string t, .slice A len cap], .int .u16 a] V fun e w' => e = .returned (.bool R) ∧ Below V.heap.size V w') :
  Calls Tryz.prog 70 #[.agg #[.int .i8 j, .int .i64 n, .string s, .string t, .slice A len cap], .int .u16 a] w fun e w' => e = .returned (.bool ((bits .and .u16 (plN j) a != 0 && blankB n s t len (flN j)) && R)) ∧ Below w.heap.size w w' := by
 obtain ⟨w1, hw1⟩ : ∃ w1, w1 = w.alloc (.cells #[.int .i8 j, .int .i64 n, .string s, .string t, .slice A len cap] 25) := ⟨_, rfl⟩
 have B1 : Below w.heap.size w w1 := by rw [hw1]; exact (Below.refl _ w).alloc (Nat.le_refl _) _
 have s1 : w1.heap.size = w.heap.size + 1 := by rw [hw1]; simp
 have g1 : w1.heap[w.heap.size]? = some (.cells #[.int .i8 j, .int .i64 n, .string s, .string t, .slice A len cap] 25 (0, 0)) := by rw [hw1]; exact block_alloc _ _
 have E1 := hN.under B1
 obtain ⟨c0, c1⟩ := nats_cell E1.nats j hj
 rw [hw1] at c0 c1
 obtain ⟨w2, hw2⟩ : ∃ w2, w2 = w1.alloc (.cells #[.int .u16 (plN j), .int .u8 (flN j)] 141) := ⟨_, rfl⟩
 have B2 : Below w.heap.size w w2 := by rw [hw2]; exact B1.alloc (by omega) _
 have g2 : w2.heap[w.heap.size]? = some (.cells #[.int .i8 j, .int .i64 n, .string s, .string t, .slice A len cap] 25 (0, 0)) := by rw [hw2]; exact (Below.heap_alloc _ _ _ (heap_lt g1)).trans g1
 have k2 : w2.heap[w.heap.size + 1]? = some (.cells #[.int .u16 (plN j), .int .u8 (flN j)] 141 (0, 0)) := by rw [hw2, ← s1]; exact block_alloc _ _
 have GN := Lib.hid g2
 have GK := Lib.hid k2
 have HB2 := Lib.hid B2
 have HE2 := Lib.hid (hN.under B2)
 have HC := Lib.hid hC
 have HJ := Lib.hid hj
 have h0 : (0 : Int) ≤ (j : Int) := by omega
 have h1 : (j : Int) < 22 := by omega
 obtain ⟨p, hp⟩ : ∃ p, p = plN j := ⟨_, rfl⟩
 obtain ⟨f, hf⟩ : ∃ f, f = flN j := ⟨_, rfl⟩
 rw [← hp, ← hf] at hw2 GK ⊢
 rw [← hp] at c0
 rw [← hf] at c1
 clear hC B1 s1 g1 E1 B2 g2 k2 hN hj hp hf
 go_enter Tryz.func70, Tryz.ntmps70
 go_upto_region 4 with fail
 rw [← hw1, ← hw2]
 clear hw1 hw2 c0 c1
 refine wp_region_held (S := fun V => Below w2.heap.size w2 V) (by kernel_rfl) ?_
 show wpAnyH _ _ _ _ _ _ _ _ w2.drew
 have hS0 : Below w2.heap.size w2 w2.drew := ⟨rfl, rfl, rfl, Nat.le_refl _, fun _ _ => rfl⟩
 generalize w2.drew = D at hS0 ⊢
 refine tkq 0 ?_; (try simp only [Act.put, sI, sZ, sS])
 refine wpAnyH_take (i := 1) (oi := ⟨some 20, _, _, _, _, _⟩) (v := ?_) rfl (by kernel_rfl) (by kernel_rfl) (by kernel_rfl) (fun _ _ _ h => h) (Or.inl ⟨by kernel_rfl, ?_⟩) (by assumption) ?_; rotate_left; (intro w hSw; (try dsimp only at hSw); have q0 := cell_of_row (i := 0) ((hSw.block _ (heap_lt GK.out)).trans GK.out) rfl; have q1 := cell_of_row (i := 1) ((hSw.block _ (heap_lt GK.out)).trans GK.out) rfl; go_simp; first | done | with_reducible rfl); (try simp only [Act.put, sI, sZ, sS])
 refine tkq 2 ?_; (try simp only [Act.put, sI, sZ, sS])
 refine tkq 3 ?_; (try simp only [Act.put, sI, sZ, sS])
 obtain ⟨q, hq⟩ : ∃ q, q = bits .and .u16 p a := ⟨_, rfl⟩
 rw [← hq]
 have HQ := Lib.hid hq
 clear hq
 refine tkq 4 ?_; (try simp only [Act.put, sI, sZ, sS])
 refine tkq 5 ?_; (try simp only [Act.put, sI, sZ, sS])
 cases hb : (q != 0)
 ·skip
  refine skq 6 ?_; (try simp only [Act.put, sI, sZ, sS])
  refine skq 7 ?_; (try simp only [Act.put, sI, sZ, sS])
  refine skq 8 ?_; (try simp only [Act.put, sI, sZ, sS])
  refine skq 9 ?_; (try simp only [Act.put, sI, sZ, sS])
  refine tkq 10 ?_; (try simp only [Act.put, sI, sZ, sS])
  refine tkq 11 ?_; (try simp only [Act.put, sI, sZ, sS])
  refine skq 12 ?_; (try simp only [Act.put, sI, sZ, sS])
  refine skq 13 ?_; (try simp only [Act.put, sI, sZ, sS])
  refine skq 14 ?_; (try simp only [Act.put, sI, sZ, sS])
  refine skq 15 ?_; (try simp only [Act.put, sI, sZ, sS])
  refine skq 16 ?_; (try simp only [Act.put, sI, sZ, sS])
  refine skq 17 ?_; (try simp only [Act.put, sI, sZ, sS])
  refine skq 18 ?_; (try simp only [Act.put, sI, sZ, sS])
  refine tkq 19 ?_; (try simp only [Act.put, sI, sZ, sS])
  refine tkq 20 ?_; (try simp only [Act.put, sI, sZ, sS])
  refine wpAnyH_done (by kernel_rfl) ?_ _
  go_wp2_with fail
  go_ret
  exact ⟨ret_bool (by rw [← HQ.out, hb]; rfl), HB2.out.trans (hS0.mono HB2.out.size)⟩
 ·skip
  refine wpAnyH_take (i := 6) (oi := ⟨some 25, _, _, _, _, _⟩) (v := ?_) rfl (by kernel_rfl) (by kernel_rfl) (by kernel_rfl) (fun _ _ _ h => h) (Or.inl ⟨by kernel_rfl, ?_⟩) (by assumption) ?_; rotate_left; (intro w hSw; (try dsimp only at hSw); have q0 := cell_of_row (i := 0) ((hSw.block _ (heap_lt GN.out)).trans GN.out) rfl; have q1 := cell_of_row (i := 1) ((hSw.block _ (heap_lt GN.out)).trans GN.out) rfl; have q2 := cell_of_row (i := 2) ((hSw.block _ (heap_lt GN.out)).trans GN.out) rfl; have q3 := cell_of_row (i := 3) ((hSw.block _ (heap_lt GN.out)).trans GN.out) rfl; have q4 := cell_of_row (i := 4) ((hSw.block _ (heap_lt GN.out)).trans GN.out) rfl; go_simp; first | done | with_reducible rfl); (try simp only [Act.put, sI, sZ, sS])
  refine tkq 7 ?_; (try simp only [Act.put, sI, sZ, sS])
  refine wpAnyH_take (i := 8) (oi := ⟨some 27, _, _, _, _, _⟩) (v := ?_) rfl (by kernel_rfl) (by kernel_rfl) (by kernel_rfl) (fun _ _ _ h => h) (Or.inl ⟨by kernel_rfl, ?_⟩) (by assumption) ?_; rotate_left; (intro w hSw; (try dsimp only at hSw); have q0 := cell_of_row (i := 0) ((hSw.block _ (heap_lt GK.out)).trans GK.out) rfl; have q1 := cell_of_row (i := 1) ((hSw.block _ (heap_lt GK.out)).trans GK.out) rfl; go_simp; first | done | with_reducible rfl); (try simp only [Act.put, sI, sZ, sS])
  refine wpAnyH_ready (rs := [9]) (by kernel_rfl) (by simp) ?_
  refine AllReadyH.cons (o := ⟨some 28, _, _, _, _, _⟩) rfl (fun K hK => ?_) AllReadyH.nil
  rw [if_pos (by rfl)]
  go_simp
  refine (blank_any n j s t A len cap f D).mono ?_
  rintro e Y1 ⟨rfl, bY⟩
  have hS7 : Below w2.heap.size w2 Y1 := hS0.trans (bY.mono hS0.size)
  clear bY
  refine hK.out _ _ hS7 (fun hSn => ?_)
  clear hK K; (try simp only [Act.put, sI, sZ, sS])
  cases hbb : blankB n s t len f
  ·skip
   refine tkq 10 ?_; (try simp only [Act.put, sI, sZ, sS])
   refine tkq 11 ?_; (try simp only [Act.put, sI, sZ, sS])
   refine skq 12 ?_; (try simp only [Act.put, sI, sZ, sS])
   refine skq 13 ?_; (try simp only [Act.put, sI, sZ, sS])
   refine skq 14 ?_; (try simp only [Act.put, sI, sZ, sS])
   refine skq 15 ?_; (try simp only [Act.put, sI, sZ, sS])
   refine skq 16 ?_; (try simp only [Act.put, sI, sZ, sS])
   refine skq 17 ?_; (try simp only [Act.put, sI, sZ, sS])
   refine skq 18 ?_; (try simp only [Act.put, sI, sZ, sS])
   refine tkq 19 ?_; (try simp only [Act.put, sI, sZ, sS])
   refine tkq 20 ?_; (try simp only [Act.put, sI, sZ, sS])
   refine wpAnyH_done (by kernel_rfl) ?_ _
   go_wp2_with fail
   go_ret
   exact ⟨ret_bool (by rw [← HQ.out, hb, hbb]; rfl), HB2.out.trans (hS7.mono HB2.out.size)⟩
  ·skip
   refine tkq 10 ?_; (try simp only [Act.put, sI, sZ, sS])
   refine tkq 11 ?_; (try simp only [Act.put, sI, sZ, sS])
   refine tkq 13 ?_; (try simp only [Act.put, sI, sZ, sS])
   refine wpAnyH_take (i := 14) (oi := ⟨some 33, _, _, _, _, _⟩) (v := ?_) rfl (by kernel_rfl) (by kernel_rfl) (by kernel_rfl) (fun _ _ _ h => h) (Or.inl ⟨by kernel_rfl, ?_⟩) (by assumption) ?_; rotate_left; (intro w hSw; (try dsimp only at hSw); have q0 := cell_of_row (i := 0) ((hSw.block _ (heap_lt GN.out)).trans GN.out) rfl; have q1 := cell_of_row (i := 1) ((hSw.block _ (heap_lt GN.out)).trans GN.out) rfl; have q2 := cell_of_row (i := 2) ((hSw.block _ (heap_lt GN.out)).trans GN.out) rfl; have q3 := cell_of_row (i := 3) ((hSw.block _ (heap_lt GN.out)).trans GN.out) rfl; have q4 := cell_of_row (i := 4) ((hSw.block _ (heap_lt GN.out)).trans GN.out) rfl; go_simp; first | done | with_reducible rfl); (try simp only [Act.put, sI, sZ, sS])
   refine wpAnyH_take (i := 16) (oi := ⟨some 35, _, _, _, _, _⟩) (v := ?_) rfl (by kernel_rfl) (by kernel_rfl) (by kernel_rfl) (fun _ _ _ h => h) (Or.inl ⟨by kernel_rfl, ?_⟩) (by assumption) ?_; rotate_left; (intro w hSw; (try dsimp only at hSw); have q0 := cell_of_row (i := 0) ((hSw.block _ (heap_lt GN.out)).trans GN.out) rfl; have q1 := cell_of_row (i := 1) ((hSw.block _ (heap_lt GN.out)).trans GN.out) rfl; have q2 := cell_of_row (i := 2) ((hSw.block _ (heap_lt GN.out)).trans GN.out) rfl; have q3 := cell_of_row (i := 3) ((hSw.block _ (heap_lt GN.out)).trans GN.out) rfl; have q4 := cell_of_row (i := 4) ((hSw.block _ (heap_lt GN.out)).trans GN.out) rfl; go_simp; first | done | with_reducible rfl); (try simp only [Act.put, sI, sZ, sS])
   refine tkq 17 ?_; (try simp only [Act.put, sI, sZ, sS])
   refine wpAnyH_ready (rs := [12]) (by kernel_rfl) (by simp) ?_
   refine AllReadyH.cons (o := ⟨some 31, _, _, _, _, _⟩) rfl (fun K hK => ?_) AllReadyH.nil
   rw [if_pos (by rfl)]
   go_simp
   refine (shapes_any Y1).mono ?_
   rintro e Y2 ⟨rfl, bY⟩
   have hS8 : Below w2.heap.size w2 Y2 := hS7.trans (bY.mono hS7.size)
   clear bY
   refine hK.out _ _ hS8 (fun hSn => ?_)
   clear hK K; (try simp only [Act.put, sI, sZ, sS])
   refine wpAnyH_take (i := 15) (oi := ⟨some 34, _, _, _, _, _⟩) (v := ?_) rfl (by kernel_rfl) (by kernel_rfl) (by kernel_rfl) (fun _ _ _ h => h) (Or.inl ⟨by kernel_rfl, ?_⟩) (by assumption) ?_; rotate_left; (intro w hSw; (try dsimp only at hSw); have hi := shapes_at w j HJ.out; go_simp; first | done | with_reducible rfl); (try simp only [Act.put, sI, sZ, sS])
   have hen := shapes_enter #[.agg #[.int .i8 j, .int .i64 n, .string s, .string t, .slice A len cap], .int .u16 a] Y2 j HJ.out
   refine wpAnyH_ready (rs := [18]) (by kernel_rfl) (by simp) ?_
   refine AllReadyH.cons (o := ⟨some 37, _, _, _, _, _⟩) rfl (fun K hK => ?_) AllReadyH.nil
   rw [if_pos (by rfl)]
   go_simp
   refine (HC.out Y2 (HB2.out.trans (hS8.mono HB2.out.size)) (HE2.out.under hS8)).mono ?_
   rintro e Y3 ⟨rfl, bY⟩
   have hS9 : Below w2.heap.size w2 Y3 := hS8.trans (bY.mono hS8.size)
   clear bY
   refine hK.out _ _ hS9 (fun hSn => ?_)
   clear hK K; (try simp only [Act.put, sI, sZ, sS])
   refine tkq 19 ?_; (try simp only [Act.put, sI, sZ, sS])
   refine tkq 20 ?_; (try simp only [Act.put, sI, sZ, sS])
   refine wpAnyH_done (by kernel_rfl) ?_ _
   go_wp2_with fail
   go_ret
   exact ⟨ret_bool (by rw [← HQ.out, hb, hbb]; rfl), HB2.out.trans (hS9.mono HB2.out.size)⟩
end Go.Proofs.YtmdcdhdjojimeaaGreatDoor
set_option linter.unusedVariables false
namespace Go.Proofs.YtmdcdhdjojimeaaGreatDoor
open Go.RowKit

def claB (x : Tm) : Bool := decide (0 ≤ x.n) && clB x.n.toNat x
def plcB (at_ : Int) (x : Tm) : Bool :=
 if at_ = 1 then modsB x else if at_ = 2 then modB x else if at_ = 4 then funB x else if at_ = 8 then claB x else if at_ = 16 then guardB x
 else if at_ = 32 then testB x else if at_ = 64 then guaB x else if at_ = 128 then patB x else if at_ = 256 then exprB x else afterB x
def MayAt (p : Int) (x : Tm) : Prop := ∀ (v : Value) (w : World), TmAt (· < w.heap.size) w x v → Env7 w →
 Calls Tryz.prog 70 #[v, .int .u16 p] w fun e w' => e = .returned (.bool (plcB p x)) ∧ Below w.heap.size w w'

theorem all_take_succ {l : List Tm} {j : Nat} {y : Tm} (p : Tm → Bool) (h : l[j]? = some y) : (l.take (j + 1)).all p = ((l.take j).all p && p y) := by
 rw [List.take_add_one, h, List.all_append]; simp
theorem all_false_of {l : List Tm} {j : Nat} {y : Tm} (p : Tm → Bool) (h : l[j]? = some y) (hp : p y = false) : l.all p = false := by
 rw [Bool.eq_false_iff]; intro ha
 rw [List.all_eq_true] at ha
 have := ha y (List.mem_of_getElem? h)
 rw [hp] at this; cases this

set_option maxHeartbeats 4000000 in
set_option maxRecDepth 100000 in
theorem all_any (p : Int) (l : List Tm) (A : Option Addr) (n cap : Nat) (w : World) (hR : TRow (· < w.heap.size) w A n cap l) (hE : Env7 w) (hM : ∀ y ∈ l, MayAt p y) :
  Calls Tryz.prog 104 #[.slice A n cap, .int .u16 p] w fun e w' => e = .returned (.bool (l.all (plcB p))) ∧ Below w.heap.size w w' := by
 obtain rfl := hR.len
 have hlen := hR.max
 unfold maxLen at hlen
 have HR := Lib.hid hR
 have HE := Lib.hid hE
 have HM := Lib.hid hM
 clear hR hE hM
 go_enter Tryz.func104, Tryz.ntmps104
 go_wp2_with fail
 go_loopw [9] (fun i wr => ∃ j : Nat, j ≤ l.length ∧ i = .int .i64 j ∧ Hid ((l.take j).all (plcB p) = true) ∧ Hid (Below w.heap.size w wr)) (fun i _ => l.length - (intOf i).toNat)
 case atStart => exact ⟨0, Nat.zero_le _, rfl, Lib.hid rfl, Lib.hid (Below.refl _ _)⟩
 case round =>
  obtain ⟨j, hj, rfl, HQ, HB⟩ := hrel
  by_cases hlt : j < l.length
  ·obtain ⟨y, hy⟩ : ∃ y, l[j]? = some y := ⟨l[j], List.getElem?_eq_getElem hlt⟩
   obtain ⟨ad, u, rfl, had, hEl, hTy⟩ := HR.out.at_ j y hy
   have hEr : ElemAt wr ad j u := hEl.keep (HB.out.block ad.block had)
   obtain ⟨k', n', s', t', l', A', cap', hy', rfl⟩ : ∃ k' n' s' t' l' A' cap', y = Tm.mk k' n' s' t' l' ∧ u = .agg #[.int .i8 k', .int .i64 n', .string s', .string t', .slice A' l'.length cap'] := by
    cases hTy; exact ⟨_, _, _, _, _, _, _, rfl, rfl⟩
   clear hy'
   obtain ⟨W1, hW1⟩ : ∃ W1, W1 = wr.alloc (.cells #[.int .i8 k', .int .i64 n', .string s', .string t', .slice A' l'.length cap'] 25) := ⟨_, rfl⟩
   have B1 : Below w.heap.size w W1 := by rw [hW1]; exact HB.out.alloc HB.out.size _
   have HC := Lib.hid (HM.out y (List.mem_of_getElem? hy) _ W1 (hTy.laterN B1) (HE.out.under B1))
   obtain ⟨c0, c1, c2, c3, c4, hc, e0, e1, e2, e3, e4⟩ := hEr
   simp only [Value.agg.injEq, Array.mk.injEq, List.cons.injEq, and_true] at hc
   obtain ⟨rfl, rfl, rfl, rfl, rfl⟩ := hc
   have HY := Lib.hid hy
   have HB1 := Lib.hid B1
   clear hEl hTy hy B1
   subst hW1
   go_wp2_with fail
   refine HC.out.mono ?_
   rintro e w2 ⟨rfl, b2⟩
   cases hp : plcB p y
   ·go_wp2_with fail
    go_ret
    exact ⟨ret_bool (all_false_of _ HY.out hp).symm, HB1.out.trans (b2.mono HB1.out.size)⟩
   ·go_wp2_with fail
    go_roundw
    case rel => exact ⟨j + 1, by omega, by go_num, Lib.hid (by rw [all_take_succ _ HY.out, HQ.out, hp]; rfl), Lib.hid (HB1.out.trans (b2.mono HB1.out.size))⟩
    case measure => simp [intOf]; omega
  ·obtain rfl : j = l.length := by omega
   go_wp2_with fail
   go_ret
   exact ⟨ret_bool (by have h := HQ.out; rw [List.take_length] at h; exact h.symm), HB.out⟩
end Go.Proofs.YtmdcdhdjojimeaaGreatDoor
set_option linter.unusedVariables false
namespace Go.Proofs.YtmdcdhdjojimeaaGreatDoor
open Go.RowKit

theorem TRow.take {P : Nat → Prop} {w : World} {A : Option Addr} {n cap : Nat} {l : List Tm} (h : TRow P w A n cap l) (m : Nat) (hm : m ≤ n) : TRow P w A m cap (l.take m) :=
 ⟨by rw [List.length_take]; have := h.len; omega, by have := h.max; omega, by have := h.cap; omega, fun j x hj => h.at_ j x (by rw [List.getElem?_take] at hj; split at hj; exact hj; cases hj)⟩
theorem ElemAt.shift {w : World} {ad : Addr} {m j : Nat} {v : Value} (h : ElemAt w ad (m + j) v) : ElemAt w (ad.add (m * 5)) j v := by
 unfold ElemAt at h ⊢
 rw [Addr.add_add, show m * 5 + j * 5 = (m + j) * 5 by omega]
 exact h
theorem TRow.drop {P : Nat → Prop} {w : World} {ad : Addr} {n cap : Nat} {l : List Tm} (h : TRow P w (some ad) n cap l) (m : Nat) : TRow P w (some (ad.add (m * 5))) (n - m) (cap - m) (l.drop m) :=
 ⟨by rw [List.length_drop, h.len], by have := h.max; omega, by have := h.cap; omega, fun j x hj => by
  rw [List.getElem?_drop] at hj
  obtain ⟨a, v, e, hp, he, ht⟩ := h.at_ _ x hj
  cases e
  exact ⟨_, v, rfl, by rw [add_block]; exact hp, he.shift, ht⟩⟩
theorem five_on (ad : Addr) : (⟨ad.block, ad.off + 5, none⟩ : Addr) = ad.add (1 * 5) := by simp [Addr.add]
theorem elem_zero {w : World} {ad : Addr} {c0 c1 c2 c3 c4 : Value} (h : ElemAt w ad 0 (.agg #[c0, c1, c2, c3, c4])) :
  w.cell? ad = some c0 ∧ w.cell? ⟨ad.block, ad.off + 1, none⟩ = some c1 ∧ w.cell? ⟨ad.block, ad.off + 2, none⟩ = some c2 ∧ w.cell? ⟨ad.block, ad.off + 3, none⟩ = some c3 ∧ w.cell? ⟨ad.block, ad.off + 4, none⟩ = some c4 := by
 obtain ⟨d0, d1, d2, d3, d4, e, h0, h1, h2, h3, h4⟩ := h
 simp only [Value.agg.injEq, Array.mk.injEq, List.cons.injEq, and_true] at e
 obtain ⟨rfl, rfl, rfl, rfl, rfl⟩ := e
 have e0 : ad.add (0 * 5) = ad := by simp [Addr.add]
 rw [e0] at h0 h1 h2 h3 h4
 exact ⟨h0, h1, h2, h3, h4⟩

set_option maxHeartbeats 2000000 in
theorem atom_any (s : ByteArray) (hs : s.size ≤ maxLen) (w : World) (hE : Env7 w) : Calls Tryz.prog 106 #[.string s] w fun e w' => e = .returned (.bool (atomB s)) ∧ Below w.heap.size w w' := by
 obtain ⟨R, hR⟩ : ∃ R, R = atomB s := ⟨_, rfl⟩
 have HR := Lib.hid hR
 rw [← hR]
 have HS := Lib.hid hs
 have HE := Lib.hid hE
 clear hR hs hE
 go_enter Tryz.func106, Tryz.ntmps106
 go_wp2_with fail
 refine (May_any s HS.out w HE.out.spans).mono ?_
 rintro e w1 ⟨rfl, b1⟩
 have HB := Lib.hid b1
 clear b1
 cases h0 : nameB s 2
 ·go_wp2_with fail
  go_ret
  exact ⟨ret_bool (by rw [HR.out]; unfold atomB; rw [h0]; rfl), HB.out⟩
 ·go_wp2_with fail
  refine (sWord_any s w1 (HE.out.words.under HB.out)).mono ?_
  rintro e w2 ⟨rfl, rfl⟩
  cases h1 : wordL s.data.toList
  ·go_wp2_with fail
   go_ret
   exact ⟨ret_bool (by rw [HR.out]; unfold atomB; rw [h0, h1]; rfl), HB.out⟩
  ·go_wp2_with fail
   go_ret
   exact ⟨ret_bool (by rw [HR.out]; unfold atomB; rw [h0, h1]; rfl), HB.out⟩

def arQ (n : Int) : Bool := decide (0 ≤ n ∧ n ≤ 8)
theorem IMayB_any (n : Int) (w : World) : Calls Tryz.prog 113 #[.int .i64 n] w fun e w' => e = .returned (.bool (mayB n)) ∧ Below w.heap.size w w' :=
 (IMay_any n w).mono fun e w' h => ⟨h.1, by rw [← h.2]; exact Below.refl _ _⟩
set_option maxHeartbeats 1000000 in
theorem arity_any (n : Int) (w : World) : Calls Tryz.prog 127 #[.int .i64 n] w fun e w' => e = .returned (.bool (arQ n)) ∧ Below w.heap.size w w' := by
 have HB := Lib.hid (Below.refl w.heap.size w)
 by_cases h0 : 0 ≤ n
 ·by_cases h1 : n ≤ 8
  ·go_enter Tryz.func127, Tryz.ntmps127
   go_wp2_with fail
   go_ret
   exact ⟨by unfold arQ; rw [decide_eq_true ⟨h0, h1⟩]; rfl, HB.out⟩
  ·go_enter Tryz.func127, Tryz.ntmps127
   go_wp2_with fail
   go_ret
   exact ⟨by unfold arQ; rw [decide_eq_false (fun h => by omega)]; rfl, HB.out⟩
 ·go_enter Tryz.func127, Tryz.ntmps127
  go_wp2_with fail
  go_ret
  exact ⟨by unfold arQ; rw [decide_eq_false (fun h => by omega)]; rfl, HB.out⟩

set_option maxHeartbeats 2000000 in
theorem arguments_any (l : List Tm) (A : Option Addr) (n cap : Nat) (w : World) (hR : TRow (· < w.heap.size) w A n cap l) (hE : Env7 w) (hM : ∀ y ∈ l, MayAt 256 y) :
  Calls Tryz.prog 123 #[.slice A n cap] w fun e w' => e = .returned (.bool (decide (l.length ≤ 8) && l.all (plcB 256))) ∧ Below w.heap.size w w' := by
 obtain rfl := hR.len
 have HRW := Lib.hid hR
 have HE := Lib.hid hE
 have HM := Lib.hid hM
 have he : arQ (l.length : Nat) = decide (l.length ≤ 8) := decide_eq_decide.2 (by omega)
 have HQ := Lib.hid he
 clear hR hE hM he
 go_enter Tryz.func123, Tryz.ntmps123
 go_wp2_with fail
 refine (arity_any l.length w).mono ?_
 rintro e w1 ⟨rfl, b1⟩
 rw [HQ.out]
 have HB := Lib.hid b1
 clear b1
 cases h0 : decide (l.length ≤ 8)
 ·go_wp2_with fail
  go_ret
  exact ⟨ret_bool (by rw [h0]; rfl), HB.out⟩
 ·go_wp2_with fail
  refine (all_any 256 l A l.length cap w1 (HRW.out.later HB.out) (HE.out.under HB.out) HM.out).mono ?_
  rintro e w2 ⟨rfl, b2⟩
  go_wp2_with fail
  go_ret
  exact ⟨ret_bool (by rw [h0]; rfl), HB.out.trans (b2.mono HB.out.size)⟩

set_option maxHeartbeats 4000000 in
theorem tested_any (s : ByteArray) (w : World) (hE : Env7 w) : Calls Tryz.prog 120 #[.string s] w fun e w' => e = .returned (.bool (kindB s)) ∧ Below w.heap.size w w' := by
 have HB := Lib.hid (Below.refl w.heap.size w)
 obtain ⟨R, hR⟩ : ∃ R, R = kindB s := ⟨_, rfl⟩
 have HR := Lib.hid hR
 rw [← hR]
 clear hR hE
 go_enter Tryz.func120, Tryz.ntmps120
 go_wp2_with fail
 all_goals
  go_ret
  exact ⟨ret_bool (by rw [HR.out]; unfold kindB; simp_all [Go.Lib.toList_data]), HB.out⟩

def clausesR (l : List Tm) (m : Int) : Bool := l.all (fun c => c.n == m) && (decide (0 < l.length) && l.all (plcB 8))
set_option maxHeartbeats 4000000 in
set_option maxRecDepth 100000 in
theorem clauses_any (m : Int) (l : List Tm) (A : Option Addr) (n cap : Nat) (w : World) (hR : TRow (· < w.heap.size) w A n cap l) (hE : Env7 w) (hM : ∀ y ∈ l, MayAt 8 y) :
  Calls Tryz.prog 140 #[.slice A n cap, .int .i64 m] w fun e w' => e = .returned (.bool (clausesR l m)) ∧ Below w.heap.size w w' := by
 obtain rfl := hR.len
 have hlen := hR.max
 unfold maxLen at hlen
 have HR := Lib.hid hR
 have HE := Lib.hid hE
 have HM := Lib.hid hM
 obtain ⟨R, hRR⟩ : ∃ R, R = clausesR l m := ⟨_, rfl⟩
 have HRR := Lib.hid hRR
 rw [← hRR]
 clear hR hE hM hRR
 go_enter Tryz.func140, Tryz.ntmps140
 go_wp2_with fail
 go_loopw [9] (fun i wr => ∃ j : Nat, j ≤ l.length ∧ i = .int .i64 j ∧ Hid ((l.take j).all (fun c => c.n == m) = true) ∧ Hid (Below w.heap.size w wr)) (fun i _ => l.length - (intOf i).toNat)
 case atStart => exact ⟨0, Nat.zero_le _, rfl, Lib.hid rfl, Lib.hid (Below.refl _ _)⟩
 case round =>
  obtain ⟨j, hj, rfl, HQ, HB⟩ := hrel
  by_cases hlt : j < l.length
  ·obtain ⟨y, hy⟩ : ∃ y, l[j]? = some y := ⟨l[j], List.getElem?_eq_getElem hlt⟩
   obtain ⟨ad, u, rfl, had, hEl, hTy⟩ := HR.out.at_ j y hy
   have hEr : ElemAt wr ad j u := hEl.keep (HB.out.block ad.block had)
   obtain ⟨k', n', s', t', l', A', cap', hy', rfl⟩ : ∃ k' n' s' t' l' A' cap', y = Tm.mk k' n' s' t' l' ∧ u = .agg #[.int .i8 k', .int .i64 n', .string s', .string t', .slice A' l'.length cap'] := by
    cases hTy; exact ⟨_, _, _, _, _, _, _, rfl, rfl⟩
   have hyn : y.n = n' := by rw [hy']; rfl
   obtain ⟨c0, c1, c2, c3, c4, hc, e0, e1, e2, e3, e4⟩ := hEr
   simp only [Value.agg.injEq, Array.mk.injEq, List.cons.injEq, and_true] at hc
   obtain ⟨rfl, rfl, rfl, rfl, rfl⟩ := hc
   have HY := Lib.hid hy
   have HYN := Lib.hid hyn
   clear hEl hTy hy hy' hyn
   by_cases hp : n' = m
   ·go_wp2_with fail
    go_roundw
    case rel => exact ⟨j + 1, by omega, by go_num, Lib.hid (by rw [all_take_succ _ HY.out, HQ.out, HYN.out, hp]; simp), Lib.hid (HB.out.alloc HB.out.size _)⟩
    case measure => simp [intOf]; omega
   ·go_wp2_with fail
    go_ret
    exact ⟨ret_bool (by rw [HRR.out]; unfold clausesR; rw [all_false_of _ HY.out (by rw [HYN.out]; simpa using hp)]; rfl), HB.out.alloc HB.out.size _⟩
  ·obtain rfl : j = l.length := by omega
   have hq := HQ.out
   rw [List.take_length] at hq
   have HQ2 := Lib.hid hq
   clear hq
   cases h0 : decide (0 < l.length)
   ·have h0' : (l.length : Int) = 0 := by have := of_decide_eq_false h0; omega
    go_wp2_with fail
    go_ret
    exact ⟨ret_bool (by rw [HRR.out]; unfold clausesR; rw [HQ2.out, h0]; rfl), HB.out⟩
   ·have h0' : 0 < (l.length : Int) := by have := of_decide_eq_true h0; omega
    go_wp2_with fail
    refine (all_any 8 l A l.length cap wr (HR.out.later HB.out) (HE.out.under HB.out) HM.out).mono ?_
    rintro e w2 ⟨rfl, b2⟩
    go_wp2_with fail
    go_ret
    exact ⟨ret_bool (by rw [HRR.out]; unfold clausesR; rw [HQ2.out, h0]; rfl), HB.out.trans (b2.mono HB.out.size)⟩

def choiceR (l : List Tm) (m : Int) : Bool := decide (0 < l.length) && (l.take 1).all (plcB 256) && clausesR l.tail m
set_option maxHeartbeats 4000000 in
set_option maxRecDepth 100000 in
theorem choice_any (m : Int) (l : List Tm) (A : Option Addr) (n cap : Nat) (w : World) (hR : TRow (· < w.heap.size) w A n cap l) (hE : Env7 w) (hM : ∀ y ∈ l, MayAt 256 y ∧ MayAt 8 y) :
  Calls Tryz.prog 129 #[.slice A n cap, .int .i64 m] w fun e w' => e = .returned (.bool (choiceR l m)) ∧ Below w.heap.size w w' := by
 obtain rfl := hR.len
 have hlen := hR.max
 unfold maxLen at hlen
 have HB0 := Lib.hid (Below.refl w.heap.size w)
 obtain ⟨R, hRR⟩ : ∃ R, R = choiceR l m := ⟨_, rfl⟩
 have HRR := Lib.hid hRR
 rw [← hRR]
 clear hRR
 match l, hR, hM, HRR, hlen with
 | [], hR, hM, HRR, hlen =>
  clear hR hM hE
  go_enter Tryz.func129, Tryz.ntmps129
  go_wp2_with fail
  go_ret
  exact ⟨ret_bool (by rw [HRR.out]; rfl), HB0.out⟩
 | y :: l, hR, hM, HRR, hlen =>
  obtain ⟨ad, u, rfl, had, hEl, hTy⟩ := hR.at_ 0 y rfl
  obtain ⟨k', n', s', t', l', A', cap', hy', rfl⟩ : ∃ k' n' s' t' l' A' cap', y = Tm.mk k' n' s' t' l' ∧ u = .agg #[.int .i8 k', .int .i64 n', .string s', .string t', .slice A' l'.length cap'] := by
   cases hTy; exact ⟨_, _, _, _, _, _, _, rfl, rfl⟩
  obtain ⟨z0, z1, z2, z3, z4⟩ := elem_zero hEl
  obtain ⟨N, hN⟩ : ∃ N, N = (y :: l).length := ⟨_, rfl⟩
  have hcap := hR.cap
  rw [← hN] at hlen hR hcap ⊢
  have hN1 : 1 ≤ N := by rw [hN]; simp
  have hNl : N - 1 = l.length := by rw [hN]; simp
  have hD : TRow (· < w.heap.size) w (some (ad.add (1 * 5))) (N - 1) (cap - 1) l := hR.drop 1
  rw [← five_on] at hD
  have HC := Lib.hid (hM y (by simp)).1
  have HCL : Hid (∀ z ∈ l, MayAt 8 z) := fun z hz => (hM z (by simp [hz])).2
  have HE := Lib.hid hE
  have HT := Lib.hid hTy
  have HD := Lib.hid hD
  have HNL := Lib.hid hNl
  clear hR hM hE hEl hTy hD hN hy' hNl
  go_enter Tryz.func129, Tryz.ntmps129
  go_wp2_with fail
  refine (HC.out _ w HT.out HE.out).mono ?_
  rintro e w2 ⟨rfl, b2⟩
  have HB2 := Lib.hid b2
  clear b2 z0 z1 z2 z3 z4
  cases h0 : plcB 256 y
  ·go_wp2_with fail
   go_ret
   exact ⟨ret_bool (by rw [HRR.out]; unfold choiceR; simp [h0]), HB2.out⟩
  ·by_cases hc1 : cap = 1
   ·have hN2 : N = 1 := by omega
    subst hc1
    have hl0 : l = [] := List.length_eq_zero_iff.1 (by have := HNL.out; omega)
    have HL0 := Lib.hid hl0
    clear hl0 HD HCL
    subst hN2
    go_wp2_with fail
    refine (clauses_any m [] (some ad) 0 0 w2 (TRow.nil _ _ _ _) (HE.out.under HB2.out) (fun y hy => by cases hy)).mono ?_
    rintro e w3 ⟨rfl, b3⟩
    go_wp2_with fail
    go_ret
    exact ⟨ret_bool (by rw [HRR.out, HL0.out]; unfold choiceR; simp [h0]), HB2.out.trans (b3.mono HB2.out.size)⟩
   ·have hc2 : 1 < cap := by omega
    clear hc1
    go_wp2_with fail
    refine (clauses_any m l _ (N - 1) (cap - 1) w2 (HD.out.later HB2.out) (HE.out.under HB2.out) HCL.out).mono ?_
    rintro e w3 ⟨rfl, b3⟩
    go_wp2_with fail
    go_ret
    exact ⟨ret_bool (by rw [HRR.out]; unfold choiceR; simp [h0]), HB2.out.trans (b3.mono HB2.out.size)⟩
end Go.Proofs.YtmdcdhdjojimeaaGreatDoor
