/- The model's vectors: the exported functions, out of the loops' contracts. -/
import Derived.Test.YtdffdcofnedhlaaVecT
namespace Go.Proofs.Ytdffdcofnedhlaa
open Go.RowKit Go.Lib

end Go.Proofs.Ytdffdcofnedhlaa
