/- The model's vectors: the exported functions, out of the loops' contracts. -/
import Derived.Test.YteenheidomfpkaaVecT
namespace Go.Proofs.Yteenheidomfpkaa
open Go.RowKit Go.Lib

end Go.Proofs.Yteenheidomfpkaa
