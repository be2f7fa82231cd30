/- The model's matrices: products. -/
import Derived.Test.YtdffdcofnedhlaaDoorMatV
namespace Go.Proofs.YtdffdcofnedhlaaDoor
open Go.RowKit Go.Lib

end Go.Proofs.YtdffdcofnedhlaaDoor
