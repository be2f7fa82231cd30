/- The model's vectors: the exported functions, out of the loops' contracts. -/
import Derived.Test.YtdjjcdkcffojkaaDoorVecT
namespace Go.Proofs.YtdjjcdkcffojkaaDoor
open Go.RowKit Go.Lib

end Go.Proofs.YtdjjcdkcffojkaaDoor
