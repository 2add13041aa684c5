/- package heap: cut. -/
import Derived.Test.YtaemfjmmklpjeaaGreatDoorHeapN
import Derived.Laws.MakeOwn
set_option linter.unusedVariables false
namespace Go.Proofs.YtaemfjmmklpjeaaGreatDoor
open Go.RowKit

def CutP (base hb ws : Nat) (cs : List HC) (CS : Value) (R0 : Option Addr) (r0 n : Nat) (w : World) (e : Ending) (w' : World) : Prop :=
  ∃ A RA rn, e = .returned (.slice A n n) ∧ HeapAt base w' hb cs ws CS (.slice RA rn rn) ∧ HeapCore base w' hb cs CS (.slice A n n) ∧ Mod (fun k => k = hb) w w' ∧ rn ≤ 1000000 ∧
    (∀ g o ro, A = some ⟨g, o, none⟩ → 0 < n → RA = some ⟨g, ro, none⟩ → 0 < rn → o + n * 7 ≤ ro) ∧
    (∀ g o, A = some ⟨g, o, none⟩ → 0 < n → (0 < r0 ∧ ∃ o', R0 = some ⟨g, o', none⟩) ∨ w.heap.size ≤ g) ∧ (∀ g o, RA = some ⟨g, o, none⟩ → 0 < rn → (0 < r0 ∧ ∃ o', R0 = some ⟨g, o', none⟩) ∨ w.heap.size ≤ g)

theorem info_wordb : (Tryz.prog.info? 51).map (fun i => (i.zero, i.size, i.bytes)) = some (some word0, 7, 88) := by kernel_rfl

theorem cut_done {R0 : Option Addr} {r0 : Nat} {base hb ws n rn : Nat} {cs : List HC} {CS RM : Value} {A RA : Option Addr} {w w1 : World} (hbox : w1.heap[hb]? = some (.cells #[CS, .int .i64 ws, RM] 94 (0, 0))) (hlow : base ≤ hb) (m : Mod (fun k => k = hb) w w1)
    (hA : HeapCore base w1 hb cs CS (.slice A n n)) (hR : HeapCore base w1 hb cs CS (.slice RA rn rn)) (hrn : rn ≤ 1000000) (hap : ∀ g o ro, A = some ⟨g, o, none⟩ → 0 < n → RA = some ⟨g, ro, none⟩ → 0 < rn → o + n * 7 ≤ ro)
    (hf1 : ∀ g o, A = some ⟨g, o, none⟩ → 0 < n → (0 < r0 ∧ ∃ o', R0 = some ⟨g, o', none⟩) ∨ w.heap.size ≤ g) (hf2 : ∀ g o, RA = some ⟨g, o, none⟩ → 0 < rn → (0 < r0 ∧ ∃ o', R0 = some ⟨g, o', none⟩) ∨ w.heap.size ≤ g) :
    CutP base hb ws cs CS R0 r0 n w (.returned (.slice A n n)) (w1.setCell ⟨hb, 2, none⟩ (.slice RA rn rn)) := by
  have ms : Mod (fun k => k = hb) w1 (w1.setCell ⟨hb, 2, none⟩ (.slice RA rn rn)) := Mod.setCell _ _ _ (.inl rfl)
  exact ⟨A, RA, rn, rfl, ⟨hlow, set_row (i := 2) _ hbox, hR.mod ms (fun k e => .inl e)⟩, hA.mod ms (fun k e => .inl e), m.trans ms (fun _ _ h => h), hrn, hap, hf1, hf2⟩

set_option maxHeartbeats 4000000 in
set_option maxRecDepth 100000 in
theorem cut_any {base hb ws : Nat} {cs : List HC} {CS : Value} (A : Option Addr) (rn : Nat) (w : World) (hbw : base ≤ w.heap.size) (h : HeapAt base w hb cs ws CS (.slice A rn rn)) (n : Nat) (hn : n ≤ 100000) (hws : ws ≤ 1000000000000) (hrn : rn ≤ 1000000) :
    Calls Tryz.prog 69 #[.pointer (some ⟨hb, 0, none⟩), .int .i64 n] w (CutP base hb ws cs CS A rn n w) := by
  have x0 : w.cell? ⟨hb, 0, none⟩ = some CS := cell_of_row h.box rfl
  have x1 : w.cell? ⟨hb, 1, none⟩ = some (.int .i64 ws) := cell_of_row h.box rfl
  have x2 : w.cell? ⟨hb, 2, none⟩ = some (.slice A rn rn) := cell_of_row h.box rfl
  have f2 : w.frozen? ⟨hb, 2, none⟩ = false := free_of_row h.box
  have HH := Lib.hid h
  clear h
  by_cases hlt : rn < n
  · have hd : decide ((rn : Int) < (n : Int)) = true := decide_eq_true (by omega)
    have hd2 : decide (rn < n) = true := decide_eq_true hlt
    obtain ⟨m, hm⟩ : ∃ m : Nat, max (n : Int) (min (ws : Int) 1024) = (m : Int) ∧ n ≤ m ∧ m ≤ 1000000 := ⟨max n (min ws 1024), by omega, by omega, by omega⟩
    obtain ⟨hm0, hm1, hm2⟩ := hm
    obtain ⟨M, hM, hMs⟩ : ∃ M : Array Value, (Instr.makeSlice 37 (.int .i64 (max (n : Int) (min (ws : Int) 1024))) (.int .i64 (max (n : Int) (min (ws : Int) 1024)))).run Tryz.prog w = .ok (.slice (some ⟨w.heap.size, 0, none⟩) m m) (w.alloc (.cells M 51)) ∧ m * 7 ≤ M.size := by
      obtain ⟨i, hi, hz⟩ := Option.map_eq_some_iff.1 info_wordb
      simp only [Prod.mk.injEq] at hz
      obtain ⟨hz, hsz, hby⟩ := hz
      have := run_makeSlice (P := Tryz.prog) w 37 51 i _ Tryz.underlying37 hi hz .i64 .i64 (m : Int) (m : Int) (by omega) (Int.le_refl _) (by rw [hsz, Int.toNat_natCast]; omega) (by rw [hby]; omega) (by omega)
      rw [hm0, this, Int.toNat_natCast]
      exact ⟨_, rfl, by rw [hsz]; unfold madeCells; simp⟩
    have gw : (w.alloc (.cells M 51)).heap[hb]? = _ := (Below.heap_alloc w (.cells M 51) _ (heap_lt HH.out.box)).trans HH.out.box
    have y2 : (w.alloc (.cells M 51)).cell? ⟨hb, 2, none⟩ = some (.slice A rn rn) := cell_of_row gw rfl
    have z2 : (w.alloc (.cells M 51)).frozen? ⟨hb, 2, none⟩ = false := free_of_row gw
    have HGW := Lib.hid gw
    have HMS := Lib.hid hMs
    clear hm0 gw hMs
    go_enter Tryz.func69, Tryz.ntmps69
    go_wp2_with fail
    all_goals
      go_ret
      have hgw := HGW.out
      have hms := HMS.out
      have hfr := HH.out.core.fresh hbw (heap_lt HH.out.box) M m hms
      have mal : Mod (fun k => k = hb) w (w.alloc (.cells M 51)) := Mod.alloc _ _ _
      have mst : Mod (fun k => k = hb) (w.alloc (.cells M 51)) ((w.alloc (.cells M 51)).setCell ⟨hb, 2, none⟩ (.slice (some ⟨w.heap.size, 0, none⟩) m m)) := Mod.setCell _ _ _ (.inl rfl)
      have hf2 := hfr.mod mst (fun k e => .inl e)
      have hbx := set_row (i := 2) (.slice (some ⟨w.heap.size, 0, none⟩) m m) hgw
      have hls := hf2.less n (m - n) (by omega)
      rw [Nat.zero_add] at hls
      first
        | exact cut_done hbx HH.out.low (mal.trans mst (fun _ _ h => h)) (hf2.less 0 n (by omega)) hls (by omega) (fun g1 o1 ro1 e1 _ e2 _ => by cases e1; cases e2; omega) (fun g1 o1 e1 _ => by cases e1; exact .inr (Nat.le_refl _)) (fun g1 o1 e1 _ => by cases e1; exact .inr (Nat.le_refl _))
        | (have e : m = n := by omega
           subst e
           exact cut_done hbx HH.out.low (mal.trans mst (fun _ _ h => h)) hf2 (hf2.noRoom _) (by omega) (fun _ _ _ _ _ _ h => by omega) (fun g1 o1 e1 _ => by cases e1; exact .inr (Nat.le_refl _)) (fun _ _ _ h => by omega))
  · have hd : decide ((rn : Int) < (n : Int)) = false := decide_eq_false (by omega)
    have hd2 : decide (rn < n) = false := decide_eq_false hlt
    by_cases he : rn = n
    · subst he
      go_enter Tryz.func69, Tryz.ntmps69
      go_wp2_with fail
      go_ret
      exact cut_done HH.out.box HH.out.low ⟨rfl, rfl, rfl, Nat.le_refl _, fun _ _ _ => rfl⟩ HH.out.core (HH.out.core.noRoom A) (by omega) (fun _ _ _ _ _ _ h => by omega) (fun g1 o1 e1 h1 => .inl ⟨h1, o1, e1⟩) (fun _ _ _ h => by omega)
    · obtain ⟨A', rn', e, hro⟩ := HH.out.core.room
      cases e
      obtain ⟨g, o, cur, rfl, -⟩ := hro (by omega)
      have hne : ¬ rn = n := he
      have hx : (⟨g, o, none⟩ : Addr).add (n * 7) = ⟨g, o + n * 7, none⟩ := by unfold Addr.add; split <;> simp_all
      have HXA := Lib.hid hx
      clear hx
      go_enter Tryz.func69, Tryz.ntmps69
      go_wp2_with fail
      go_ret
      have hl := HH.out.core.less n (rn - n) (by omega)
      exact cut_done HH.out.box HH.out.low ⟨rfl, rfl, rfl, Nat.le_refl _, fun _ _ _ => rfl⟩ (HH.out.core.less 0 n (by omega)) hl (by omega) (fun g1 o1 ro1 e1 _ e2 _ => by cases e1; cases e2; omega) (fun g1 o1 e1 _ => by cases e1; exact .inl ⟨by omega, _, rfl⟩) (fun g1 o1 e1 _ => by cases e1; exact .inl ⟨by omega, _, rfl⟩)
end Go.Proofs.YtaemfjmmklpjeaaGreatDoor
