/- The model's vectors: the exported functions, out of the loops' contracts. -/
import Derived.Test.YtmogncpkdkdodaaVecT
namespace Go.Proofs.Ytmogncpkdkdodaa
open Go.RowKit Go.Lib

end Go.Proofs.Ytmogncpkdkdodaa
