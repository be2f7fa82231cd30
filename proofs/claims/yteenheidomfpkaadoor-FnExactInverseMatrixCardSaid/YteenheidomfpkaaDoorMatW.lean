/- The model's matrices: products. -/
import Derived.Test.YteenheidomfpkaaDoorMatV
namespace Go.Proofs.YteenheidomfpkaaDoor
open Go.RowKit Go.Lib

end Go.Proofs.YteenheidomfpkaaDoor
