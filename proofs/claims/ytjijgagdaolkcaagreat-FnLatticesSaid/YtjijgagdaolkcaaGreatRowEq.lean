/- Equality of two slices of slices of integers that read alike. -/
import Derived.Test.YtjijgagdaolkcaaGreatCom
import Derived.Test.YtjijgagdaolkcaaGreatMac
import Derived.Test.YtjijgagdaolkcaaGreatMae
import Derived.Test.YtjijgagdaolkcaaGreatProg
import Derived.WalkLawsBesides
import Derived.WalkSpells
import Derived.BigQuiet
import Derived.Deep.QuietTactic
import Derived.Deep.RegionHeld3
namespace Go.Proofs.YtjijgagdaolkcaaGreat
open Go.RowKit Go.Lib

theorem keepF {w W : World} {p q : Addr} {x y : Value} (h1 : W.cell? p = some x) (h2 : W.cell? q = some y) (h3 : Below w.heap.size w W) : W.drew.cell? p = some x ∧ W.drew.cell? q = some y ∧ Below w.heap.size w W.drew := ⟨h1, h2, h3.drew⟩
theorem keepE {w W w1 : World} {p q : Addr} {x y : Value} (hp : p.block < w.heap.size) (hq : q.block < w.heap.size) (h1 : W.cell? p = some x) (h2 : W.cell? q = some y) (h3 : Below w.heap.size w W) (hb : Below W.heap.size W w1) : w1.cell? p = some x ∧ w1.cell? q = some y ∧ Below w.heap.size w w1 :=
  ⟨(hb.cell (Nat.lt_of_lt_of_le hp h3.size)).trans h1, (hb.cell (Nat.lt_of_lt_of_le hq h3.size)).trans h2, h3.trans (hb.mono h3.size)⟩

end Go.Proofs.YtjijgagdaolkcaaGreat
