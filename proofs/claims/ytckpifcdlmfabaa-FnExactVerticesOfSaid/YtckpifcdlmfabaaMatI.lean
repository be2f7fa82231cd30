/- The program's matrices: what is a matrix. -/
import Derived.Test.YtckpifcdlmfabaaMac
import Derived.Test.YtckpifcdlmfabaaVecJ
import Derived.Shelf.Abstract
namespace Go.Proofs.Ytckpifcdlmfabaa
open Go.RowKit Go.Lib

/-- Where the first number lies that is no entry, or -1. -/
def IdxP (v : List Int) (w : World) (e : Ending) (w' : World) : Prop :=
  ((small v 100 = true ∧ e = .returned (.int .i64 (-1))) ∨ (small v 100 = false ∧ ∃ k : Nat, e = .returned (.int .i64 k))) ∧ Below w.heap.size w w'

theorem isM_mk {m : List (List Int)} (h1 : 1 ≤ m.length) (h3 : m.length ≤ 3) : isM m = m.all (rowOk m.length) := by
  unfold isM
  rw [inR_mk (by omega) (by omega)]; simp
theorem isM_len {m : List (List Int)} (h : ¬ (1 ≤ m.length ∧ m.length ≤ 3)) : isM m = false := by
  unfold isM
  rw [inR_f (by omega)]; simp

end Go.Proofs.Ytckpifcdlmfabaa
