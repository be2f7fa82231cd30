/- Plain facts on decimal numerals. -/
import Derived.Lib.ItoaMem
namespace Go.Proofs.YtoekgcafhcamjaaGreatDoor
open Go.Lib

/-- The digits of u without a leading zero: none for 0. -/
def digs (u : Nat) : List UInt8 := if u = 0 then [] else decDigits u

theorem digs_zero : digs 0 = [] := by simp [digs]
theorem digs_pos {u : Nat} (h : u ≠ 0) : digs u = decDigits u := by simp [digs, h]
theorem digs_step {u : Nat} (h : u ≠ 0) : digs (u / 10) ++ [UInt8.ofNat (48 + u % 10)] = digs u := by
  rw [digs_pos h]
  by_cases h10 : u < 10
  · have h0 : u / 10 = 0 := by omega
    rw [h0, digs_zero, decDigits_one h10, Nat.mod_eq_of_lt h10]; rfl
  · rw [digs_pos (by omega)]
    conv => rhs; rw [decDigits, dif_neg h10]

theorem nDigits_le_of_lt (k : Nat) : ∀ u, u < 10 ^ (k + 1) → nDigits u ≤ k + 1 := by
  induction k with
  | zero => intro u h; rw [nDigits_small (by simpa using h)]; omega
  | succ k ih =>
    intro u h
    by_cases h10 : u < 10
    · rw [nDigits_small h10]; omega
    · rw [nDigits_big h10]; have := ih (u / 10) (by rw [Nat.pow_succ] at h; omega); omega
theorem digs_len {u : Nat} (h : u ≤ 9223372036854775808) : (digs u).length ≤ 19 := by
  by_cases h0 : u = 0
  · subst h0; simp [digs_zero]
  · rw [digs_pos h0, decDigits_length]; exact nDigits_le_of_lt 18 u (by omega)
end Go.Proofs.YtoekgcafhcamjaaGreatDoor
