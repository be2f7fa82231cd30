/- Blocks of nine numbers (three rows of three) and of three. -/
import Derived.Test.YteenheidomfpkaaDoorCom
import Derived.Laws.Rows
import Derived.WalkKit
namespace Go.Proofs.YteenheidomfpkaaDoor
open Go Go.RowKit

/-- Block B holds nine numbers. -/
def G9 (w : World) (B : Nat) (T : TypeId) (a b c d e f g h i : Int) : Prop :=
  w.heap[B]? = some (.cells #[.int .i64 a, .int .i64 b, .int .i64 c, .int .i64 d, .int .i64 e, .int .i64 f, .int .i64 g, .int .i64 h, .int .i64 i] T (0, 0))
theorem heap_lt {w : World} {B : Nat} {o : Obj} (h : w.heap[B]? = some o) : B < w.heap.size := by
  by_cases hh : B < w.heap.size
  · exact hh
  · rw [Array.getElem?_eq_none (by omega)] at h; cases h
section
variable {w w' : World} {B : Nat} {T : TypeId} {a b c d e f g h i : Int}
theorem G9.lt (k : G9 w B T a b c d e f g h i) : B < w.heap.size := heap_lt k
theorem G9.below (k : G9 w B T a b c d e f g h i) (hb : Below w.heap.size w w') : G9 w' B T a b c d e f g h i := by
  unfold G9
  rw [hb.block B k.lt]; exact k
theorem G9.new (w : World) (T : TypeId) (a b c d e f g h i : Int) : G9 (w.alloc (.cells #[.int .i64 a, .int .i64 b, .int .i64 c, .int .i64 d, .int .i64 e, .int .i64 f, .int .i64 g, .int .i64 h, .int .i64 i] T)) w.heap.size T a b c d e f g h i := heap_alloc_new w _
theorem G9.newAt {w : World} {B : Nat} (hB : w.heap.size = B) (T : TypeId) (a b c d e f g h i : Int) : G9 (w.alloc (.cells #[.int .i64 a, .int .i64 b, .int .i64 c, .int .i64 d, .int .i64 e, .int .i64 f, .int .i64 g, .int .i64 h, .int .i64 i] T)) B T a b c d e f g h i := by subst hB; exact G9.new ..
/-- Its cells. -/
theorem G9.cells (k : G9 w B T a b c d e f g h i) :
    (w.cell? ⟨B, 0, none⟩ = some (.int .i64 a) ∧ w.cell? ⟨B, 1, none⟩ = some (.int .i64 b) ∧ w.cell? ⟨B, 2, none⟩ = some (.int .i64 c)) ∧
    (w.cell? ⟨B, 3, none⟩ = some (.int .i64 d) ∧ w.cell? ⟨B, 4, none⟩ = some (.int .i64 e) ∧ w.cell? ⟨B, 5, none⟩ = some (.int .i64 f)) ∧
    (w.cell? ⟨B, 6, none⟩ = some (.int .i64 g) ∧ w.cell? ⟨B, 7, none⟩ = some (.int .i64 h) ∧ w.cell? ⟨B, 8, none⟩ = some (.int .i64 i)) :=
  ⟨⟨cell_of_row _ _ _ _ _ _ k, cell_of_row _ _ _ _ _ _ k, cell_of_row _ _ _ _ _ _ k⟩, ⟨cell_of_row _ _ _ _ _ _ k, cell_of_row _ _ _ _ _ _ k, cell_of_row _ _ _ _ _ _ k⟩, ⟨cell_of_row _ _ _ _ _ _ k, cell_of_row _ _ _ _ _ _ k, cell_of_row _ _ _ _ _ _ k⟩⟩
theorem G9.frozen (k : G9 w B T a b c d e f g h i) (j : Nat) : w.frozen? ⟨B, j, none⟩ = false := frozen_of_row _ _ j _ _ k
theorem G9.set0 (k : G9 w B T a b c d e f g h i) (x y z : Int) : G9 (((w.setCell ⟨B, 0, none⟩ (.int .i64 x)).setCell ⟨B, 1, none⟩ (.int .i64 y)).setCell ⟨B, 2, none⟩ (.int .i64 z)) B T x y z d e f g h i :=
  heap_setCell_same _ _ _ _ _ _ (heap_setCell_same _ _ _ _ _ _ (heap_setCell_same _ _ _ _ _ _ k))
theorem G9.set1 (k : G9 w B T a b c d e f g h i) (x y z : Int) : G9 (((w.setCell ⟨B, 3, none⟩ (.int .i64 x)).setCell ⟨B, 4, none⟩ (.int .i64 y)).setCell ⟨B, 5, none⟩ (.int .i64 z)) B T a b c x y z g h i :=
  heap_setCell_same _ _ _ _ _ _ (heap_setCell_same _ _ _ _ _ _ (heap_setCell_same _ _ _ _ _ _ k))
theorem G9.set2 (k : G9 w B T a b c d e f g h i) (x y z : Int) : G9 (((w.setCell ⟨B, 6, none⟩ (.int .i64 x)).setCell ⟨B, 7, none⟩ (.int .i64 y)).setCell ⟨B, 8, none⟩ (.int .i64 z)) B T a b c d e f x y z :=
  heap_setCell_same _ _ _ _ _ _ (heap_setCell_same _ _ _ _ _ _ (heap_setCell_same _ _ _ _ _ _ k))
theorem G9.other (k : G9 w B T a b c d e f g h i) {p : Addr} (hp : p.block ≠ B) (v : Value) : G9 (w.setCell p v) B T a b c d e f g h i := by
  unfold G9
  rw [Below.heap_setCell _ _ _ _ (fun e => hp e.symm)]; exact k
end
end Go.Proofs.YteenheidomfpkaaDoor
