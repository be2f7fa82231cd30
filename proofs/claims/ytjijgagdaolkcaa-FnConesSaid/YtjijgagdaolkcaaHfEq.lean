/- Equality of halves and regions that read alike. -/
import Derived.Test.YtjijgagdaolkcaaMal
import Derived.Test.YtjijgagdaolkcaaRowEq
namespace Go.Proofs.Ytjijgagdaolkcaa
open Go.RowKit Go.Lib

theorem keepF4 {w W : World} {p q r s : Addr} {x y z t : Value} (h1 : W.cell? p = some x) (h2 : W.cell? q = some y) (h4 : W.cell? r = some z) (h5 : W.cell? s = some t) (h3 : Below w.heap.size w W) : W.drew.cell? p = some x ∧ W.drew.cell? q = some y ∧ W.drew.cell? r = some z ∧ W.drew.cell? s = some t ∧ Below w.heap.size w W.drew := ⟨h1, h2, h4, h5, h3.drew⟩
theorem keepE4 {w W w1 : World} {p q r s : Addr} {x y z t : Value} (hp : p.block < w.heap.size) (hq : q.block < w.heap.size) (hr : r.block < w.heap.size) (hs : s.block < w.heap.size) (h1 : W.cell? p = some x) (h2 : W.cell? q = some y) (h4 : W.cell? r = some z) (h5 : W.cell? s = some t) (h3 : Below w.heap.size w W) (hb : Below W.heap.size W w1) :
    w1.cell? p = some x ∧ w1.cell? q = some y ∧ w1.cell? r = some z ∧ w1.cell? s = some t ∧ Below w.heap.size w w1 :=
  ⟨(hb.cell (Nat.lt_of_lt_of_le hp h3.size)).trans h1, (hb.cell (Nat.lt_of_lt_of_le hq h3.size)).trans h2, (hb.cell (Nat.lt_of_lt_of_le hr h3.size)).trans h4, (hb.cell (Nat.lt_of_lt_of_le hs h3.size)).trans h5, h3.trans (hb.mono h3.size)⟩

end Go.Proofs.Ytjijgagdaolkcaa
