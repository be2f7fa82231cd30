/- The model's vectors: the exported functions, out of the loops' contracts. -/
import Derived.Test.YtoekgcafhcamjaaVecT
namespace Go.Proofs.Ytoekgcafhcamjaa
open Go.RowKit Go.Lib

end Go.Proofs.Ytoekgcafhcamjaa
