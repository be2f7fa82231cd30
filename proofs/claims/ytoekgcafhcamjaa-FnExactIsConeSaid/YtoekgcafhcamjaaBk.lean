/- Blocks that are known whole: a struct's variable. -/
import Derived.Test.YtoekgcafhcamjaaFrm
namespace Go.Proofs.Ytoekgcafhcamjaa
open Go Go.RowKit

/-- Block b holds these cells. -/
def Bk (w : World) (b : Nat) (cs : Array Value) (T : TypeId) : Prop := w.heap[b]? = some (.cells cs T (0, 0))
theorem Bk.new (w : World) (cs : Array Value) (T : TypeId) : Bk (w.alloc (.cells cs T)) w.heap.size cs T := heap_alloc_new w _
theorem Bk.newAt {w : World} {b : Nat} (h : w.heap.size = b) (cs : Array Value) (T : TypeId) : Bk (w.alloc (.cells cs T)) b cs T := by subst h; exact heap_alloc_new w _
theorem Bk.lt {w : World} {b : Nat} {cs : Array Value} {T : TypeId} (h : Bk w b cs T) : b < w.heap.size := lt_of_heap h
theorem Bk.below {w w' : World} {b : Nat} {cs : Array Value} {T : TypeId} (h : Bk w b cs T) (hb : Below w.heap.size w w') : Bk w' b cs T := (hb.block b h.lt).trans h
theorem Bk.since {w w' : World} {b B : Nat} {cs : Array Value} {T : TypeId} (h : Bk w b cs T) (hb : Below B w w') (hB : b < B) : Bk w' b cs T := (hb.block b hB).trans h
theorem Bk.kept {w w' : World} {b lo hi : Nat} {cs : Array Value} {T : TypeId} (h : Bk w b cs T) (hk : Kept lo hi w w') (hd : b < lo ∨ hi ≤ b) : Bk w' b cs T := (hk.block b h.lt hd).trans h
theorem Bk.alloc {w : World} {b : Nat} {cs : Array Value} {T : TypeId} (h : Bk w b cs T) (o : Obj) : Bk (w.alloc o) b cs T := h.below ((Below.refl _ _).alloc (Nat.le_refl _) o)
theorem Bk.cell {w : World} {b : Nat} {cs : Array Value} {T : TypeId} (h : Bk w b cs T) (i : Nat) {v : Value} (hv : cs[i]? = some v) : w.cell? ⟨b, i, none⟩ = some v := by rw [cell_of_row _ _ i _ _ _ h]; exact hv
theorem Bk.free {w : World} {b : Nat} {cs : Array Value} {T : TypeId} (h : Bk w b cs T) (i : Nat) : w.frozen? ⟨b, i, none⟩ = false := frozen_of_row _ _ i _ _ h
theorem Bk.two {w : World} {b : Nat} {x y : Value} {T : TypeId} (h : Bk w b #[x, y] T) : (w.cell? ⟨b, 0, none⟩ = some x ∧ w.cell? ⟨b, 1, none⟩ = some y) ∧ w.frozen? ⟨b, 0, none⟩ = false ∧ w.frozen? ⟨b, 1, none⟩ = false :=
  ⟨⟨h.cell 0 rfl, h.cell 1 rfl⟩, h.free 0, h.free 1⟩
theorem Bk.set {w : World} {b : Nat} {cs : Array Value} {T : TypeId} (h : Bk w b cs T) (i : Nat) (u : Value) (hi : i < cs.size) : Bk (w.setCell ⟨b, i, none⟩ u) b (cs.set! i u) T := by
  have h1 := h
  unfold Bk at *
  have hl := lt_of_heap h1
  simp only [World.setCell]
  rw [Array.getElem?_modify, if_pos rfl, h]
  simp [Array.set!_eq_setIfInBounds]
theorem Bk.set0 {w : World} {b : Nat} {x y : Value} {T : TypeId} (h : Bk w b #[x, y] T) (u : Value) : Bk (w.setCell ⟨b, 0, none⟩ u) b #[u, y] T := h.set 0 u (by simp)
theorem Bk.set1 {w : World} {b : Nat} {x y : Value} {T : TypeId} (h : Bk w b #[x, y] T) (u : Value) : Bk (w.setCell ⟨b, 1, none⟩ u) b #[x, u] T := h.set 1 u (by simp)
theorem Bk.other {w : World} {b : Nat} {cs : Array Value} {T : TypeId} (h : Bk w b cs T) {p : Addr} (hp : p.block ≠ b) (u : Value) : Bk (w.setCell p u) b cs T := (Below.heap_setCell _ _ _ _ (fun e => hp e.symm)).trans h
/-- Two, three blocks that were made one behind the other. -/
theorem Bk.pair (w : World) (a b : Array Value) (S T : TypeId) :
    Bk ((w.alloc (.cells a S)).alloc (.cells b T)) w.heap.size a S ∧ Bk ((w.alloc (.cells a S)).alloc (.cells b T)) (w.heap.size + 1) b T :=
  ⟨(Bk.new w a S).alloc _, Bk.newAt (by simp) b T⟩
theorem Bk.three (w : World) (a b c : Array Value) (S T U : TypeId) :
    Bk (((w.alloc (.cells a S)).alloc (.cells b T)).alloc (.cells c U)) w.heap.size a S ∧ Bk (((w.alloc (.cells a S)).alloc (.cells b T)).alloc (.cells c U)) (w.heap.size + 1) b T ∧ Bk (((w.alloc (.cells a S)).alloc (.cells b T)).alloc (.cells c U)) (w.heap.size + 1 + 1) c U :=
  ⟨(Bk.pair w a b S T).1.alloc _, (Bk.pair w a b S T).2.alloc _, Bk.newAt (by simp) c U⟩
theorem alloc_lt (w : World) (o : Obj) : w.heap.size < (w.alloc o).heap.size := by simp
theorem below2 (w : World) (o p : Obj) : Below w.heap.size w ((w.alloc o).alloc p) := ((Below.refl _ _).alloc (Nat.le_refl _) o).alloc (by simp) p
theorem below1 (w : World) (o : Obj) : Below w.heap.size w (w.alloc o) := (Below.refl _ _).alloc (Nat.le_refl _) o
theorem below3 (w : World) (o p q : Obj) : Below w.heap.size w (((w.alloc o).alloc p).alloc q) := (below2 w o p).alloc (by simp; omega) q
theorem OwnV.shape1 {e : TypeId} {lo hi : Nat} {w : World} {v : Value} {xs : List Value} (h : OwnV e lo hi w v xs) : ∃ (a : Option Addr) (c : Nat), v = .slice a xs.length c ∧ xs.length ≤ maxLen := by
  obtain ⟨a, c, e, hm, _⟩ := h.sl.shape
  exact ⟨a, c, e, hm⟩
end Go.Proofs.Ytoekgcafhcamjaa
