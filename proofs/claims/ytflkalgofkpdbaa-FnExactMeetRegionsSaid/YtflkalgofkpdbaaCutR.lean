/- A call with two copies whose answer is a region in a box that may be made at any time: what the ways have in common. -/
import Derived.Test.YtflkalgofkpdbaaHfMark
import Derived.Test.YtflkalgofkpdbaaHfEq
import Derived.Test.YtflkalgofkpdbaaHfB
namespace Go.Proofs.Ytflkalgofkpdbaa
open Go.RowKit Go.Lib

theorem keepA4 {w W : World} {o : Obj} {p q r s : Addr} {x y z t : Value} (hp : p.block < w.heap.size) (hq : q.block < w.heap.size) (hr : r.block < w.heap.size) (hs : s.block < w.heap.size) (h1 : W.cell? p = some x) (h2 : W.cell? q = some y) (h4 : W.cell? r = some z) (h5 : W.cell? s = some t) (h3 : Below w.heap.size w W) :
    (W.alloc o).cell? p = some x ∧ (W.alloc o).cell? q = some y ∧ (W.alloc o).cell? r = some z ∧ (W.alloc o).cell? s = some t ∧ Below w.heap.size w (W.alloc o) := keepE4 hp hq hr hs h1 h2 h4 h5 h3 (below1 W o)
theorem keepD4 {w W : World} {o : Obj} {p q r s : Addr} {x y z t : Value} (hp : p.block < w.heap.size) (hq : q.block < w.heap.size) (hr : r.block < w.heap.size) (hs : s.block < w.heap.size) (h1 : W.drew.cell? p = some x) (h2 : W.drew.cell? q = some y) (h4 : W.drew.cell? r = some z) (h5 : W.drew.cell? s = some t) (h3 : Below w.heap.size w W.drew) :
    (W.alloc o).drew.cell? p = some x ∧ (W.alloc o).drew.cell? q = some y ∧ (W.alloc o).drew.cell? r = some z ∧ (W.alloc o).drew.cell? s = some t ∧ Below w.heap.size w (W.alloc o).drew :=
  have h := keepE4 (w := w) (W := W.drew) (w1 := W.drew.alloc o) hp hq hr hs h1 h2 h4 h5 h3 (below1 W.drew o)
  ⟨h.1, h.2.1, h.2.2.1, h.2.2.2.1, ⟨h.2.2.2.2.os, h.2.2.2.2.tape, h.2.2.2.2.output, h.2.2.2.2.size, h.2.2.2.2.block⟩⟩
theorem keepS4 {w W : World} {b : Nat} {u v : Value} {p q r s : Addr} {x y z t : Value} (hp : p.block < w.heap.size) (hq : q.block < w.heap.size) (hr : r.block < w.heap.size) (hs : s.block < w.heap.size) (h1 : W.cell? p = some x) (h2 : W.cell? q = some y) (h4 : W.cell? r = some z) (h5 : W.cell? s = some t) (h3 : Below w.heap.size w W) (hb : w.heap.size ≤ b) :
    ((W.setCell ⟨b, 0, none⟩ u).setCell ⟨b, 1, none⟩ v).cell? p = some x ∧ ((W.setCell ⟨b, 0, none⟩ u).setCell ⟨b, 1, none⟩ v).cell? q = some y ∧ ((W.setCell ⟨b, 0, none⟩ u).setCell ⟨b, 1, none⟩ v).cell? r = some z ∧ ((W.setCell ⟨b, 0, none⟩ u).setCell ⟨b, 1, none⟩ v).cell? s = some t ∧ Below w.heap.size w ((W.setCell ⟨b, 0, none⟩ u).setCell ⟨b, 1, none⟩ v) := by
  have k : Below w.heap.size W ((W.setCell ⟨b, 0, none⟩ u).setCell ⟨b, 1, none⟩ v) := ((Below.refl _ _).setCell (p := ⟨b, 0, none⟩) hb u).setCell (p := ⟨b, 1, none⟩) hb v
  exact ⟨(k.cell hp).trans h1, (k.cell hq).trans h2, (k.cell hr).trans h4, (k.cell hs).trans h5, h3.trans k⟩
theorem below_other {w W : World} {o o' : Obj} (hW : w.heap.size ≤ W.heap.size) (h : Below w.heap.size w (W.alloc o)) : Below w.heap.size w (W.alloc o') :=
  ⟨h.os, h.tape, h.output, by have := h.size; simp only [World.size_alloc] at this ⊢; exact this, fun k hk => by
    rw [Below.heap_alloc W o' k (Nat.lt_of_lt_of_le hk hW), ← Below.heap_alloc W o k (Nat.lt_of_lt_of_le hk hW)]
    exact h.block k hk⟩
theorem keepR4 {w W : World} {o o' : Obj} {p q r s : Addr} {x y z t : Value} (hW : w.heap.size ≤ W.heap.size) (hp : p.block < w.heap.size) (hq : q.block < w.heap.size) (hr : r.block < w.heap.size) (hs : s.block < w.heap.size) (h1 : (W.alloc o).cell? p = some x) (h2 : (W.alloc o).cell? q = some y) (h4 : (W.alloc o).cell? r = some z) (h5 : (W.alloc o).cell? s = some t) (h3 : Below w.heap.size w (W.alloc o)) :
    (W.alloc o').cell? p = some x ∧ (W.alloc o').cell? q = some y ∧ (W.alloc o').cell? r = some z ∧ (W.alloc o').cell? s = some t ∧ Below w.heap.size w (W.alloc o') :=
  have k := below_other (o' := o') hW h3
  ⟨(k.cell hp).trans ((h3.cell hp).symm.trans h1), (k.cell hq).trans ((h3.cell hq).symm.trans h2), (k.cell hr).trans ((h3.cell hr).symm.trans h4), (k.cell hs).trans ((h3.cell hs).symm.trans h5), k⟩
/-- What the region leaves: the box of the answer, the answer's second part, the answer. -/
def CutR (w : World) (r : Rgn × Bool) (s6 s7 : Value) (wx : World) : Prop :=
  ∃ (b : Nat) (a : Option Addr) (c : Nat), s6 = .pointer (some ⟨b, 0, none⟩) ∧ s7 = .bool r.2 ∧ Bk wx b #[.int .i64 r.1.1, .slice a r.1.2.length c] 38 ∧ OwH 27 3 w.heap.size wx.heap.size wx (.slice a r.1.2.length c) r.1.2 ∧ Below w.heap.size w wx ∧ w.heap.size ≤ b
theorem CutR.store {w wx : World} {r : Rgn × Bool} {lo hi b c : Nat} {a : Option Addr} {x y : Value} (hB : Bk wx b #[x, y] 38) (ho : OwH 27 3 lo hi wx (.slice a r.1.2.length c) r.1.2)
    (hb : Below w.heap.size w ((wx.setCell ⟨b, 0, none⟩ (.int .i64 r.1.1)).setCell ⟨b, 1, none⟩ (.slice a r.1.2.length c))) (h1 : w.heap.size ≤ b) (h2 : w.heap.size ≤ lo) (h3 : hi ≤ wx.heap.size) :
    CutR w r (.pointer (some ⟨b, 0, none⟩)) (.bool r.2) ((wx.setCell ⟨b, 0, none⟩ (.int .i64 r.1.1)).setCell ⟨b, 1, none⟩ (.slice a r.1.2.length c)) :=
  ⟨b, a, c, rfl, rfl, (hB.set0 _).set1 _, ((ho.other (p := ⟨b, 0, none⟩) hB (by decide) (by decide) _).other (p := ⟨b, 1, none⟩) (hB.set0 _) (by decide) (by decide) _).mono h2 (by simpa [World.setCell] using h3), hb, h1⟩
theorem CutR.fresh {w wx : World} {r : Rgn × Bool} {lo hi c : Nat} {a : Option Addr} (ho : OwH 27 3 lo hi wx (.slice a r.1.2.length c) r.1.2) (hb : Below w.heap.size w (wx.alloc (.cells #[.int .i64 r.1.1, .slice a r.1.2.length c] 38))) (h1 : w.heap.size ≤ wx.heap.size) (h2 : w.heap.size ≤ lo) (h3 : hi ≤ wx.heap.size) :
    CutR w r (.pointer (some ⟨wx.heap.size, 0, none⟩)) (.bool r.2) (wx.alloc (.cells #[.int .i64 r.1.1, .slice a r.1.2.length c] 38)) :=
  ⟨wx.heap.size, a, c, rfl, rfl, Bk.new _ _ _, (ho.below (below1 _ _)).mono h2 (by simp; omega), hb, h1⟩
end Go.Proofs.Ytflkalgofkpdbaa
