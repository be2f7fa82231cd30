/- The model's vectors: the exported functions, out of the loops' contracts. -/
import Derived.Test.YtdffdcofnedhlaaDoorVecT
namespace Go.Proofs.YtdffdcofnedhlaaDoor
open Go.RowKit Go.Lib

end Go.Proofs.YtdffdcofnedhlaaDoor
