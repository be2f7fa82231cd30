/- The program's boxPoints: the points of the box, three numbers each. -/
import Derived.Test.YtckpifcdlmfabaaRng
import Derived.Test.YtckpifcdlmfabaaMab
import Derived.Test.YtckpifcdlmfabaaMax
import Derived.Shelf.RegionOpen
import Derived.OwnWalkIn
import Derived.TacticsInMore
import Derived.LoopNIn
import Derived.LoopIn
namespace Go.Proofs.Ytckpifcdlmfabaa
open Go Go.RowKit Go.Lib Go.Shelf

attribute [local go_sem] Oper.semAt_some

/-- Three numbers as an array. -/
def nums3 (t : List Int) : Value := .agg #[.int .i64 (t.getD 0 0), .int .i64 (t.getD 1 0), .int .i64 (t.getD 2 0)]
abbrev encN (t : List Int) : Array Value := #[nums3 t]

theorem axis_step {e i : Nat} (h : i < (axis e).length) : -(e : Int) + i = (axis e)[i] := by rw [axis_get]; omega

theorem trip_next {e0 e1 e2 i j k : Nat} (hi : i < (axis e0).length) (hj : j < (axis e1).length) (hk : k < (axis e2).length) :
    tripAt (axis e0) (axis e1) (axis e2) i j k ++ [[-(e0 : Int) + i, -(e1 : Int) + j, -(e2 : Int) + k]] = tripAt (axis e0) (axis e1) (axis e2) i j (k + 1) := by
  rw [axis_step hi, axis_step hj, axis_step hk]; exact tripAt_step hi hj hk

theorem bk3_new (w : World) (x y z : Value) (T : TypeId) : Bk (w.alloc (.cells #[x, y, z] T)) w.heap.size #[x, y, z] T := Bk.new w _ T

end Go.Proofs.Ytckpifcdlmfabaa
