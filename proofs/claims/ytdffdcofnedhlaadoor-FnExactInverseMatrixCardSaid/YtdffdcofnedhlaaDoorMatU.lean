/- The model's ApplyMatrix. -/
import Derived.Test.YtdffdcofnedhlaaDoorMatT
import Derived.Test.YtdffdcofnedhlaaDoorVecU
namespace Go.Proofs.YtdffdcofnedhlaaDoor
open Go.RowKit Go.Lib

end Go.Proofs.YtdffdcofnedhlaaDoor
