/- The program's MoveRegion. -/
import Derived.Test.YtmogncpkdkdodaaFxB
namespace Go.Proofs.Ytmogncpkdkdodaa
open Go.RowKit Go.Lib

/-- What MoveRegion's loop keeps: the region's box, the answer's box, the halves of fixed length. -/
def IMoveI (w w2 : World) (n : Int) (U V : Value) (hs : List Hf) (wr : World) : Prop :=
  Bk wr w.heap.size #[.int .i64 n, U] 26 ∧ Bk wr (w.heap.size + 1) #[.int .i64 0, .slice none 0 0] 26 ∧ OwF 91 (w.heap.size + 2) w2.heap.size wr V hs ∧ Below w.heap.size w wr ∧ w.heap.size + 2 ≤ wr.heap.size ∧ w2.heap.size ≤ wr.heap.size
theorem moved_lens {n : Int} {hs : List Hf} {v : List Int} (h : regOk n hs = true) (k : Nat) (hk : k < (moveL hs v).length) : ((moveL hs v)[k].1.length : Int) = n := by
  rw [move_len] at hk
  have h1 := halfOk_t ((regOk_t h).2.2.2 k hk)
  have e : (moveL hs v)[k] = moveH v hs[k] := by simp [moveL]
  rw [e]
  exact h1.2.2.1

end Go.Proofs.Ytmogncpkdkdodaa
