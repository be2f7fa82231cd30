/- The measure of halves and regions. -/
import Derived.Test.YtoekgcafhcamjaaHfTo
namespace Go.Proofs.Ytoekgcafhcamjaa
open Go.RowKit Go.Lib

theorem szI_small {left n : Int} (h : left < n) : szI left n = -1 := if_pos h
theorem szI_fits {left n : Int} (h : ¬ left < n) : szI left n = left - n := if_neg h
theorem szHs_small {hs : List Hf} {left : Int} (h : left < hs.length + totN hs) : szHs hs left = -1 := if_pos h
theorem szHs_fits {hs : List Hf} {left : Int} (h : ¬ left < hs.length + totN hs) : szHs hs left = left - hs.length - totN hs := if_neg h

end Go.Proofs.Ytoekgcafhcamjaa
