/- The drawing of matrices. -/
import Derived.Test.YtjijgagdaolkcaaDrawVec
import Derived.Test.YtjijgagdaolkcaaRowApp
import Derived.Test.YtjijgagdaolkcaaMab
import Derived.Test.YtjijgagdaolkcaaOrd
namespace Go.Proofs.Ytjijgagdaolkcaa
open Go Go.RowKit Go.Lib

/-- A slice of slices was drawn: it and its rows lie in blocks of their own; of what was there the cursor alone has turned. -/
def DrewM (base p : Nat) (w : World) (P : List (List Int) → Prop) (e : Ending) (w' : World) : Prop :=
  (∃ v zss, e = .returned v ∧ P zss ∧ OwR 24 3 w.heap.size w'.heap.size w' v zss) ∧ CurAt base w' p ∧ Kept p (p + 1) w w'
/-- Rows of n numbers that are at most s. -/
def RowsB (zss : List (List Int)) (n : Nat) (s : Int) : Prop := ∀ zs, zs ∈ zss → zs.length = n ∧ Bd zs s
theorem RowsB.snoc {zss : List (List Int)} {n : Nat} {s : Int} (h : RowsB zss n s) {zs : List Int} (h1 : zs.length = n) (h2 : Bd zs s) : RowsB (zss ++ [zs]) n s := by
  intro q hq
  rcases List.mem_append.1 hq with hq | hq
  · exact h q hq
  · rw [List.mem_singleton] at hq; rw [hq]; exact ⟨h1, h2⟩

end Go.Proofs.Ytjijgagdaolkcaa
