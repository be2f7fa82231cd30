/- The model's TimesMatrix. -/
import Derived.Test.YtdffdcofnedhlaaDoorMatW
namespace Go.Proofs.YtdffdcofnedhlaaDoor
open Go.RowKit Go.Lib

end Go.Proofs.YtdffdcofnedhlaaDoor
