/- The model's InverseMatrix. -/
import Derived.Test.YteenheidomfpkaaMatMin
namespace Go.Proofs.Yteenheidomfpkaa
open Go.RowKit Go.Lib

def signI (r c : Nat) : Int := 1 - 2 * (((r : Int) + (c : Int)) % 2)
def entI (m : List (List Int)) (r c : Nat) : Int := detL m * signI r c * minorD m c r
def rowI (m : List (List Int)) (r : Nat) : List Int := (List.range m.length).map (entI m r)
def invL (m : List (List Int)) : List (List Int) := (List.range m.length).map (rowI m)
def invR (m : List (List Int)) : List (List Int) × Bool := if uniR m = true ∧ isM (invL m) = true then (invL m, true) else ([], false)
theorem rng_take {α : Type} (f : Nat → α) {n k : Nat} (h : k < n) : ((List.range n).map f).take (k + 1) = ((List.range n).map f).take k ++ [f k] := by
  have hl : k < ((List.range n).map f).length := by simp [h]
  rw [List.take_succ_eq_append_getElem hl]
  simp
theorem sign_two (r c : Nat) : signI r c = 1 ∨ signI r c = -1 := by
  unfold signI
  have : ((r : Int) + (c : Int)) % 2 = 0 ∨ ((r : Int) + (c : Int)) % 2 = 1 := by omega
  rcases this with h | h <;> rw [h] <;> simp
theorem uniR_t {m : List (List Int)} (h : uniR m = true) : isM m = true ∧ (detL m = 1 ∨ detL m = -1) := by
  unfold uniR detR at h
  rw [decide_eq_true_eq] at h
  by_cases hm : isM m = true
  · rw [if_pos hm] at h; exact ⟨hm, by omega⟩
  · rw [if_neg hm] at h; simp at h
theorem minor_bd {n : Nat} {m : List (List Int)} {r c : Nat} (h3 : n ≤ 3) (hm : Sq n 100 m) (hr : r < n) (hc : c < n) : -6000000000000000 ≤ minorD m r c ∧ minorD m r c ≤ 6000000000000000 := by
  unfold minorD
  split
  · omega
  · have hs := part_sq (ro := r) (c := c) hm hr hc
    have := hs.1
    exact det_bd (n := n - 1) (by omega) (by omega) (hs.mono (by omega))
theorem pm_mul {d s : Int} (hd : d = 1 ∨ d = -1) (hs : s = 1 ∨ s = -1) : d * s = 1 ∨ d * s = -1 := by
  rcases hd with rfl | rfl <;> rcases hs with rfl | rfl <;> simp
theorem pm_bd {d x : Int} (hd : d = 1 ∨ d = -1) (h1 : -6000000000000000 ≤ x) (h2 : x ≤ 6000000000000000) : -6000000000000000 ≤ d * x ∧ d * x ≤ 6000000000000000 := by
  rcases hd with rfl | rfl <;> omega
theorem rowI_len (m : List (List Int)) (r : Nat) : (rowI m r).length = m.length := by simp [rowI]
theorem invL_len (m : List (List Int)) : (invL m).length = m.length := by simp [invL]
theorem isM_tot {m : List (List Int)} (h : isM m = true) : tot m ≤ 9 := by
  have ht := isM_t h
  have key : ∀ (l : List (List Int)) (n : Nat), (∀ r ∈ l, r.length = n) → tot l = l.length * n := by
    intro l n
    induction l with
    | nil => intro _; simp [tot]
    | cons r rs ih =>
      intro hh
      have := ih (fun x hx => hh x (by simp [hx]))
      simp only [tot, List.map_cons, List.sum_cons, List.length_cons] at this ⊢
      rw [this, hh r (by simp), Nat.succ_mul]; omega
  rw [key m m.length (fun r hr => by obtain ⟨i, hi, rfl⟩ := List.getElem_of_mem hr; exact (ht.2.2 i hi).1)]
  exact Nat.mul_le_mul ht.2.1 ht.2.1
theorem invR_len (m : List (List Int)) : tot (invR m).1 ≤ 9 := by
  unfold invR
  split
  · rename_i h; exact isM_tot h.2
  · simp [tot]

end Go.Proofs.Yteenheidomfpkaa
