/- The model's vectors: the exported functions, out of the loops' contracts. -/
import Derived.Test.YtflkalgofkpdbaaDoorVecT
namespace Go.Proofs.YtflkalgofkpdbaaDoor
open Go.RowKit Go.Lib

end Go.Proofs.YtflkalgofkpdbaaDoor
