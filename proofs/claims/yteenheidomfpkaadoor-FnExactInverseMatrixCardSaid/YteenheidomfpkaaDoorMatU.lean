/- The model's ApplyMatrix. -/
import Derived.Test.YteenheidomfpkaaDoorMatT
import Derived.Test.YteenheidomfpkaaDoorVecU
namespace Go.Proofs.YteenheidomfpkaaDoor
open Go.RowKit Go.Lib

end Go.Proofs.YteenheidomfpkaaDoor
