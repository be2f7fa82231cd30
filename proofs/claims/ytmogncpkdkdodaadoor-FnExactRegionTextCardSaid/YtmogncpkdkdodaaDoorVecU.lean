/- The model's vectors: the exported functions, out of the loops' contracts. -/
import Derived.Test.YtmogncpkdkdodaaDoorVecT
namespace Go.Proofs.YtmogncpkdkdodaaDoor
open Go.RowKit Go.Lib

end Go.Proofs.YtmogncpkdkdodaaDoor
