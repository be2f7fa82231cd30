/- The model's vectors: the exported functions, out of the loops' contracts. -/
import Derived.Test.YtflkalgofkpdbaaVecT
namespace Go.Proofs.Ytflkalgofkpdbaa
open Go.RowKit Go.Lib

end Go.Proofs.Ytflkalgofkpdbaa
