/- The model's ApplyMatrix. -/
import Derived.Test.YteenheidomfpkaaMatT
import Derived.Test.YteenheidomfpkaaVecU
namespace Go.Proofs.Yteenheidomfpkaa
open Go.RowKit Go.Lib

end Go.Proofs.Yteenheidomfpkaa
