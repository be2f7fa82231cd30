/- The model's TimesMatrix. -/
import Derived.Test.YteenheidomfpkaaDoorMatW
namespace Go.Proofs.YteenheidomfpkaaDoor
open Go.RowKit Go.Lib

end Go.Proofs.YteenheidomfpkaaDoor
