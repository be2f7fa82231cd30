/- How many numbers a hull has. -/
import Derived.Test.YtckpifcdlmfabaaPgM
import Derived.Test.YtckpifcdlmfabaaRw
namespace Go.Proofs.Ytckpifcdlmfabaa
theorem tot_rows (l : List P2) : tot (l.map rowOf) = 2 * l.length := by
  unfold tot
  rw [List.map_map]
  induction l with
  | nil => rfl
  | cons p l ih => rw [List.map_cons, List.sum_cons, ih]; simp [rowOf]; omega
theorem hullR_len (l : List (List Int)) : tot (hullR l).1 ≤ 24 := by
  have key : (hullP l).1.length ≤ 12 := by
    unfold hullP
    split
    · simp
    · split
      · simp
      · unfold cornR
        split
        · simp
        · rename_i h; simp only; omega
  unfold hullR
  rw [tot_rows]
  omega
end Go.Proofs.Ytckpifcdlmfabaa
