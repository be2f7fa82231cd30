/- The model's matrices: columns, products. -/
import Derived.Test.YtdffdcofnedhlaaDoorMatU
import Derived.Test.YtdffdcofnedhlaaDoorRowApp
namespace Go.Proofs.YtdffdcofnedhlaaDoor
open Go.RowKit Go.Lib

end Go.Proofs.YtdffdcofnedhlaaDoor
