/- The model's matrices: IsMatrix, the determinant. -/
import Derived.Test.YtjijgagdaolkcaaMac
import Derived.Test.YtjijgagdaolkcaaMaj
import Derived.LoopN
import Derived.Deep.RegionHeld3
namespace Go.Proofs.Ytjijgagdaolkcaa
open Go.RowKit Go.Lib

theorem mul100 {b x y : Int} (hb : b ≤ 100000) (hx : -b ≤ x ∧ x ≤ b) (hy : -b ≤ y ∧ y ≤ b) : -10000000000 ≤ x * y ∧ x * y ≤ 10000000000 := by
  have := mul_bd (m := 100000) (n := 100000) (x := x) (y := y) (by omega) (by omega) (by omega) (by omega)
  omega
theorem mulbig {b x y : Int} (hb : b ≤ 100000) (hx : -b ≤ x ∧ x ≤ b) (h1 : -20000000000 ≤ y) (h2 : y ≤ 20000000000) : -2000000000000000 ≤ x * y ∧ x * y ≤ 2000000000000000 := by
  have := mul_bd (m := 100000) (n := 20000000000) (x := x) (y := y) (by omega) (by omega) h1 h2
  omega
end Go.Proofs.Ytjijgagdaolkcaa
/- The model's matrices: DetOf, IsUnimodular, ApplyMatrix. -/
namespace Go.Proofs.Ytjijgagdaolkcaa
open Go.RowKit Go.Lib

theorem detR_bd (m : List (List Int)) : -6000000000000000 ≤ detR m ∧ detR m ≤ 6000000000000000 := by
  unfold detR
  split
  · rename_i h
    have ht := isM_t h
    exact det_bd ht.1 ht.2.1 ((isM_sq h).mono (by omega))
  · omega
end Go.Proofs.Ytjijgagdaolkcaa
/- The model's ApplyMatrix. -/
namespace Go.Proofs.Ytjijgagdaolkcaa
open Go.RowKit Go.Lib

end Go.Proofs.Ytjijgagdaolkcaa
