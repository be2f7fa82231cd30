/- The model's matrices: columns, products. -/
import Derived.Test.YteenheidomfpkaaDoorMatU
import Derived.Test.YteenheidomfpkaaDoorRowApp
namespace Go.Proofs.YteenheidomfpkaaDoor
open Go.RowKit Go.Lib

end Go.Proofs.YteenheidomfpkaaDoor
