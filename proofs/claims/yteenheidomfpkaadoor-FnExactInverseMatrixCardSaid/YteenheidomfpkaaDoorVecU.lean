/- The model's vectors: the exported functions, out of the loops' contracts. -/
import Derived.Test.YteenheidomfpkaaDoorVecT
namespace Go.Proofs.YteenheidomfpkaaDoor
open Go.RowKit Go.Lib

end Go.Proofs.YteenheidomfpkaaDoor
