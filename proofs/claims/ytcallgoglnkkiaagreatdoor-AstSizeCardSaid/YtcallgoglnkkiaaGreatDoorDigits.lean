/- Leading decimal digits of a text: how many, and their number, as plain functions on lists of bytes. -/
import Derived.WalkKit
namespace Go.Proofs.YtcallgoglnkkiaaGreatDoor
open Go.RowKit

def isDig (c : UInt8) : Bool := decide (48 ≤ c.toNat ∧ c.toNat ≤ 57)
/-- How many bytes ahead are digits. -/
def dg (l : List UInt8) : Nat := (l.takeWhile isDig).length
/-- The number that the first k bytes tell, if they are digits. -/
def vl (l : List UInt8) (k : Nat) : Nat := (l.take k).foldl (fun n c => n * 10 + (c.toNat - 48)) 0

theorem dg_cons (c : UInt8) (l : List UInt8) : dg (c :: l) = if isDig c = true then dg l + 1 else 0 := by
  unfold dg; rw [List.takeWhile_cons]; split <;> simp

theorem dg_le (l : List UInt8) : dg l ≤ l.length := by
  induction l with
  | nil => simp [dg]
  | cons c l ih => rw [dg_cons]; split <;> simp <;> omega

theorem dg_at : ∀ (l : List UInt8) (k : Nat) (h : k < l.length), k ≤ dg l → isDig l[k] = true → k + 1 ≤ dg l
  | c :: l, 0, _, _, hd => by rw [dg_cons, if_pos (by simpa using hd)]; omega
  | c :: l, k + 1, h, hk, hd => by
    rw [dg_cons] at hk ⊢
    split at hk
    · rename_i hc
      rw [if_pos hc]
      have := dg_at l k (by simpa using h) (by omega) (by simpa using hd)
      omega
    · omega

theorem dg_stop : ∀ (l : List UInt8) (k : Nat) (h : k < l.length), k ≤ dg l → isDig l[k] = false → dg l = k
  | c :: l, 0, _, _, hd => by rw [dg_cons, if_neg (by simpa using hd)]
  | c :: l, k + 1, h, hk, hd => by
    rw [dg_cons] at hk ⊢
    split at hk
    · rename_i hc
      rw [if_pos hc, dg_stop l k (by simpa using h) (by omega) (by simpa using hd)]
    · omega

theorem dg_in : ∀ (l : List UInt8) (k : Nat) (h : k < l.length), k < dg l → isDig l[k] = true
  | c :: l, 0, _, hk => by
    rw [dg_cons] at hk; split at hk
    · simpa
    · omega
  | c :: l, k + 1, h, hk => by
    rw [dg_cons] at hk; split at hk
    · simpa using dg_in l k (by simpa using h) (by omega)
    · omega

theorem vl_zero (l : List UInt8) : vl l 0 = 0 := by simp [vl]
theorem vl_succ (l : List UInt8) (k : Nat) (h : k < l.length) : vl l (k + 1) = vl l k * 10 + (l[k].toNat - 48) := by
  unfold vl; rw [List.take_succ_eq_append_getElem h, List.foldl_append]; rfl

/-- A number held at 2^59. -/
def held (x : Nat) : Int := if x ≤ 576460752303423488 then (x : Int) else 576460752303423488
theorem held_bd (x : Nat) : 0 ≤ held x ∧ held x ≤ 576460752303423488 := by unfold held; split <;> omega
theorem held_step (x d : Nat) (hd : d ≤ 9) : held (x * 10 + d) = min (held x * 10 + d) 576460752303423488 := by
  unfold held; split <;> split <;> omega

/-- What Read answers. -/
def readR (l : List UInt8) : Int × Int × Int :=
  if dg l = 0 then (0, 0, 2) else if 576460752303423487 < vl l (dg l) then (0, dg l, 11) else (vl l (dg l), dg l, 0)

end Go.Proofs.YtcallgoglnkkiaaGreatDoor
