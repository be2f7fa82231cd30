/- The laws' marks on slices of slices of integers. -/
import Derived.Test.YtoekgcafhcamjaaDoorMae
import Derived.Test.YtoekgcafhcamjaaDoorMad
namespace Go.Proofs.YtoekgcafhcamjaaDoor
open Go.RowKit Go.Lib

/-- How far the marks have come: the first j rows bear them. -/
def marked (k j : Nat) (zss : List (List Int)) : List (List Int) := (rmarks k zss).take j ++ zss.drop j
theorem marked_len (k j : Nat) (zss : List (List Int)) : (marked k j zss).length = zss.length := by unfold marked; rw [List.length_append, List.length_take, List.length_drop, rmarks_len]; omega
theorem marked_zero (k : Nat) (zss : List (List Int)) : marked k 0 zss = zss := by simp [marked]
theorem marked_all (k : Nat) (zss : List (List Int)) : marked k zss.length zss = rmarks k zss := by unfold marked; rw [List.drop_length, List.append_nil, List.take_of_length_le (by rw [rmarks_len]; exact Nat.le_refl _)]
theorem marked_get (k j i : Nat) (zss : List (List Int)) : (marked k j zss)[i]? = if i < j then (rmarks k zss)[i]? else zss[i]? := by
  unfold marked
  by_cases h : i < j
  · rw [if_pos h]
    by_cases h2 : i < zss.length
    · rw [List.getElem?_append_left (by rw [List.length_take, rmarks_len]; omega), List.getElem?_take_of_lt h]
    · rw [List.getElem?_eq_none (by rw [List.length_append, List.length_take, List.length_drop, rmarks_len]; omega), List.getElem?_eq_none (by rw [rmarks_len]; omega)]
  · rw [if_neg h]
    by_cases h2 : j ≤ zss.length
    · rw [List.getElem?_append_right (by rw [List.length_take, rmarks_len]; omega), List.length_take, rmarks_len, List.getElem?_drop]
      congr 1; omega
    · rw [List.getElem?_eq_none (by rw [List.length_append, List.length_take, List.length_drop, rmarks_len]; omega), List.getElem?_eq_none (by omega)]
theorem marked_step (k j : Nat) (zss : List (List Int)) (h : j < zss.length) : (marked k j zss).set j (imarks (k + tot (zss.take j)) zss[j].length) = marked k (j + 1) zss := by
  refine List.ext_getElem? fun i => ?_
  rw [get_set _ _ _ _ (by rw [marked_len]; exact h), marked_get, marked_get]
  by_cases hij : i = j
  · subst hij
    rw [if_pos rfl, if_pos (Nat.lt_succ_self _), rmarks_get k zss i h]; rfl
  · rw [if_neg hij]
    by_cases hlt : i < j
    · rw [if_pos hlt, if_pos (by omega)]
    · rw [if_neg hlt, if_neg (by omega)]
theorem marked_at (k j : Nat) (zss : List (List Int)) (h : j < zss.length) : (marked k j zss)[j]'(by rw [marked_len]; exact h) = zss[j] := by
  have h1 : (marked k j zss)[j]? = zss[j]? := by rw [marked_get, if_neg (Nat.lt_irrefl _)]
  rw [List.getElem?_eq_getElem (by rw [marked_len]; exact h), List.getElem?_eq_getElem h] at h1
  exact Option.some.inj h1

end Go.Proofs.YtoekgcafhcamjaaDoor
