/- addTimes onto zeros; three indexed rows. -/
import Derived.Test.YteenheidomfpkaaGrdS
namespace Go.Proofs.Yteenheidomfpkaa
open Go.RowKit Go.Lib

theorem i_addz (f x y z : Int) (w : World) (hx : -4000000000000000000 ≤ f * x ∧ f * x ≤ 4000000000000000000) (hy : -4000000000000000000 ≤ f * y ∧ f * y ≤ 4000000000000000000) (hz : -4000000000000000000 ≤ f * z ∧ f * z ≤ 4000000000000000000) :
    Calls Try.prog 44 #[.agg #[.int .i64 0, .int .i64 0, .int .i64 0], .int .i64 f, .agg #[.int .i64 x, .int .i64 y, .int .i64 z]] w (Arr w (f * x) (f * y) (f * z)) := by
  have h := i_addt 0 0 0 f x y z w (by omega) (by omega) (by omega) hx hy hz
  simp only [Int.zero_add] at h
  exact h
end Go.Proofs.Yteenheidomfpkaa
