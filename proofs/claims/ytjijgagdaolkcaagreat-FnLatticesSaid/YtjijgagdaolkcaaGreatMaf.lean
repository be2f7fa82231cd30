/- Blocks of nine numbers (three rows of three) and of three. -/
import Derived.Test.YtjijgagdaolkcaaGreatCom
import Derived.Laws.Rows
import Derived.WalkKit
namespace Go.Proofs.YtjijgagdaolkcaaGreat
open Go Go.RowKit

/-- Block B holds nine numbers. -/
def G9 (w : World) (B : Nat) (T : TypeId) (a b c d e f g h i : Int) : Prop :=
  w.heap[B]? = some (.cells #[.int .i64 a, .int .i64 b, .int .i64 c, .int .i64 d, .int .i64 e, .int .i64 f, .int .i64 g, .int .i64 h, .int .i64 i] T (0, 0))
theorem heap_lt {w : World} {B : Nat} {o : Obj} (h : w.heap[B]? = some o) : B < w.heap.size := by
  by_cases hh : B < w.heap.size
  · exact hh
  · rw [Array.getElem?_eq_none (by omega)] at h; cases h
section
variable {w w' : World} {B : Nat} {T : TypeId} {a b c d e f g h i : Int}
theorem G9.lt (k : G9 w B T a b c d e f g h i) : B < w.heap.size := heap_lt k
theorem G9.below (k : G9 w B T a b c d e f g h i) (hb : Below w.heap.size w w') : G9 w' B T a b c d e f g h i := by
  unfold G9
  rw [hb.block B k.lt]; exact k
theorem G9.new (w : World) (T : TypeId) (a b c d e f g h i : Int) : G9 (w.alloc (.cells #[.int .i64 a, .int .i64 b, .int .i64 c, .int .i64 d, .int .i64 e, .int .i64 f, .int .i64 g, .int .i64 h, .int .i64 i] T)) w.heap.size T a b c d e f g h i := heap_alloc_new w _
theorem G9.newAt {w : World} {B : Nat} (hB : w.heap.size = B) (T : TypeId) (a b c d e f g h i : Int) : G9 (w.alloc (.cells #[.int .i64 a, .int .i64 b, .int .i64 c, .int .i64 d, .int .i64 e, .int .i64 f, .int .i64 g, .int .i64 h, .int .i64 i] T)) B T a b c d e f g h i := by subst hB; exact G9.new ..
/-- Its cells. -/
theorem G9.cells (k : G9 w B T a b c d e f g h i) :
    (w.cell? ⟨B, 0, none⟩ = some (.int .i64 a) ∧ w.cell? ⟨B, 1, none⟩ = some (.int .i64 b) ∧ w.cell? ⟨B, 2, none⟩ = some (.int .i64 c)) ∧
    (w.cell? ⟨B, 3, none⟩ = some (.int .i64 d) ∧ w.cell? ⟨B, 4, none⟩ = some (.int .i64 e) ∧ w.cell? ⟨B, 5, none⟩ = some (.int .i64 f)) ∧
    (w.cell? ⟨B, 6, none⟩ = some (.int .i64 g) ∧ w.cell? ⟨B, 7, none⟩ = some (.int .i64 h) ∧ w.cell? ⟨B, 8, none⟩ = some (.int .i64 i)) :=
  ⟨⟨cell_of_row _ _ _ _ _ _ k, cell_of_row _ _ _ _ _ _ k, cell_of_row _ _ _ _ _ _ k⟩, ⟨cell_of_row _ _ _ _ _ _ k, cell_of_row _ _ _ _ _ _ k, cell_of_row _ _ _ _ _ _ k⟩, ⟨cell_of_row _ _ _ _ _ _ k, cell_of_row _ _ _ _ _ _ k, cell_of_row _ _ _ _ _ _ k⟩⟩
theorem G9.frozen (k : G9 w B T a b c d e f g h i) (j : Nat) : w.frozen? ⟨B, j, none⟩ = false := frozen_of_row _ _ j _ _ k
theorem G9.set0 (k : G9 w B T a b c d e f g h i) (x y z : Int) : G9 (((w.setCell ⟨B, 0, none⟩ (.int .i64 x)).setCell ⟨B, 1, none⟩ (.int .i64 y)).setCell ⟨B, 2, none⟩ (.int .i64 z)) B T x y z d e f g h i :=
  heap_setCell_same _ _ _ _ _ _ (heap_setCell_same _ _ _ _ _ _ (heap_setCell_same _ _ _ _ _ _ k))
theorem G9.set1 (k : G9 w B T a b c d e f g h i) (x y z : Int) : G9 (((w.setCell ⟨B, 3, none⟩ (.int .i64 x)).setCell ⟨B, 4, none⟩ (.int .i64 y)).setCell ⟨B, 5, none⟩ (.int .i64 z)) B T a b c x y z g h i :=
  heap_setCell_same _ _ _ _ _ _ (heap_setCell_same _ _ _ _ _ _ (heap_setCell_same _ _ _ _ _ _ k))
theorem G9.set2 (k : G9 w B T a b c d e f g h i) (x y z : Int) : G9 (((w.setCell ⟨B, 6, none⟩ (.int .i64 x)).setCell ⟨B, 7, none⟩ (.int .i64 y)).setCell ⟨B, 8, none⟩ (.int .i64 z)) B T a b c d e f x y z :=
  heap_setCell_same _ _ _ _ _ _ (heap_setCell_same _ _ _ _ _ _ (heap_setCell_same _ _ _ _ _ _ k))
theorem G9.other (k : G9 w B T a b c d e f g h i) {p : Addr} (hp : p.block ≠ B) (v : Value) : G9 (w.setCell p v) B T a b c d e f g h i := by
  unfold G9
  rw [Below.heap_setCell _ _ _ _ (fun e => hp e.symm)]; exact k
end
end Go.Proofs.YtjijgagdaolkcaaGreat
/- Blocks of three numbers; blocks behind a draw. -/
namespace Go.Proofs.YtjijgagdaolkcaaGreat
open Go Go.RowKit

/-- Block B holds three numbers. -/
def G3 (w : World) (B : Nat) (T : TypeId) (a b c : Int) : Prop := w.heap[B]? = some (.cells #[.int .i64 a, .int .i64 b, .int .i64 c] T (0, 0))
section
variable {w w' : World} {B : Nat} {T : TypeId} {a b c : Int}
theorem G3.lt (k : G3 w B T a b c) : B < w.heap.size := heap_lt k
theorem G3.below (k : G3 w B T a b c) (hb : Below w.heap.size w w') : G3 w' B T a b c := by
  unfold G3
  rw [hb.block B k.lt]; exact k
theorem G3.newAt {w : World} {B : Nat} (hB : w.heap.size = B) (T : TypeId) (a b c : Int) : G3 (w.alloc (.cells #[.int .i64 a, .int .i64 b, .int .i64 c] T)) B T a b c := by subst hB; exact heap_alloc_new w _
theorem G3.cells (k : G3 w B T a b c) : w.cell? ⟨B, 0, none⟩ = some (.int .i64 a) ∧ w.cell? ⟨B, 1, none⟩ = some (.int .i64 b) ∧ w.cell? ⟨B, 2, none⟩ = some (.int .i64 c) :=
  ⟨cell_of_row _ _ _ _ _ _ k, cell_of_row _ _ _ _ _ _ k, cell_of_row _ _ _ _ _ _ k⟩
theorem G3.frozen (k : G3 w B T a b c) (j : Nat) : w.frozen? ⟨B, j, none⟩ = false := frozen_of_row _ _ j _ _ k
theorem G3.set0 (k : G3 w B T a b c) (x : Int) : G3 (w.setCell ⟨B, 0, none⟩ (.int .i64 x)) B T x b c := heap_setCell_same _ _ _ _ _ _ k
theorem G3.set1 (k : G3 w B T a b c) (x : Int) : G3 (w.setCell ⟨B, 1, none⟩ (.int .i64 x)) B T a x c := heap_setCell_same _ _ _ _ _ _ k
theorem G3.set2 (k : G3 w B T a b c) (x : Int) : G3 (w.setCell ⟨B, 2, none⟩ (.int .i64 x)) B T a b x := heap_setCell_same _ _ _ _ _ _ k
end

theorem G3.other {w : World} {B : Nat} {T : TypeId} {a b c : Int} (k : G3 w B T a b c) {p : Addr} (hp : p.block ≠ B) (v : Value) : G3 (w.setCell p v) B T a b c := by
  unfold G3
  rw [Below.heap_setCell _ _ _ _ (fun e => hp e.symm)]; exact k
theorem G9.drewn {w : World} {B : Nat} {T : TypeId} {a b c d e f g h i : Int} (k : G9 w B T a b c d e f g h i) : G9 w.drew B T a b c d e f g h i := k
theorem G9.cells9 {w : World} {B : Nat} {T : TypeId} {a b c d e f g h i : Int} (k : G9 w B T a b c d e f g h i) : w.cell? ⟨B, 0, none⟩ = some (.int .i64 a) ∧ w.cell? ⟨B, 1, none⟩ = some (.int .i64 b) ∧ w.cell? ⟨B, 2, none⟩ = some (.int .i64 c) ∧ w.cell? ⟨B, 3, none⟩ = some (.int .i64 d) ∧ w.cell? ⟨B, 4, none⟩ = some (.int .i64 e) ∧ w.cell? ⟨B, 5, none⟩ = some (.int .i64 f) ∧ w.cell? ⟨B, 6, none⟩ = some (.int .i64 g) ∧ w.cell? ⟨B, 7, none⟩ = some (.int .i64 h) ∧ w.cell? ⟨B, 8, none⟩ = some (.int .i64 i) := by
  obtain ⟨⟨m0, m1, m2⟩, ⟨m3, m4, m5⟩, m6, m7, m8⟩ := k.cells
  exact ⟨m0, m1, m2, m3, m4, m5, m6, m7, m8⟩
theorem G9.belowE {w w' : World} {B : Nat} {T : TypeId} {a b c d e f g h i : Int} (k : G9 w B T a b c d e f g h i) (hb : Below w.drew.heap.size w.drew w') : G9 w' B T a b c d e f g h i := G9.below (w := w.drew) k hb
theorem size_drew_alloc (w : World) (o : Obj) : w.heap.size ≤ (w.drew.alloc o).heap.size := by
  have h := World.size_alloc w.drew o
  rw [h]
  exact Nat.le_succ _
theorem G9.belowA {w w' : World} {B : Nat} {T : TypeId} {a b c d e f g h i : Int} (k : G9 w B T a b c d e f g h i) {o : Obj} (hb : Below (w.drew.alloc o).heap.size (w.drew.alloc o) w') : G9 w' B T a b c d e f g h i :=
  (G9.below (w := w.drew) k ((Below.refl w.drew.heap.size w.drew).alloc (Nat.le_refl _) o)).below hb
theorem G9.cells9D {w : World} {B : Nat} {T : TypeId} {a b c d e f g h i : Int} (k : G9 w B T a b c d e f g h i) : w.drew.cell? ⟨B, 0, none⟩ = some (.int .i64 a) ∧ w.drew.cell? ⟨B, 1, none⟩ = some (.int .i64 b) ∧ w.drew.cell? ⟨B, 2, none⟩ = some (.int .i64 c) ∧ w.drew.cell? ⟨B, 3, none⟩ = some (.int .i64 d) ∧ w.drew.cell? ⟨B, 4, none⟩ = some (.int .i64 e) ∧ w.drew.cell? ⟨B, 5, none⟩ = some (.int .i64 f) ∧ w.drew.cell? ⟨B, 6, none⟩ = some (.int .i64 g) ∧ w.drew.cell? ⟨B, 7, none⟩ = some (.int .i64 h) ∧ w.drew.cell? ⟨B, 8, none⟩ = some (.int .i64 i) := G9.cells9 (w := w.drew) k
theorem G9.allocd {w : World} {B : Nat} {T : TypeId} {a b c d e f g h i : Int} (k : G9 w B T a b c d e f g h i) (o : Obj) : G9 (w.alloc o) B T a b c d e f g h i := k.below ((Below.refl _ _).alloc (Nat.le_refl _) o)
theorem G9.drewAlloc {w : World} {B : Nat} {T : TypeId} {a b c d e f g h i : Int} (k : G9 w B T a b c d e f g h i) (o : Obj) : G9 (w.drew.alloc o) B T a b c d e f g h i := G9.allocd (w := w.drew) k o
theorem G9.col0 {w : World} {B : Nat} {T : TypeId} {a b c d e f g h i : Int} (k : G9 w B T a b c d e f g h i) (x y z : Int) : G9 (((w.setCell ⟨B, 0, none⟩ (.int .i64 x)).setCell ⟨B, 3, none⟩ (.int .i64 y)).setCell ⟨B, 6, none⟩ (.int .i64 z)) B T x b c y e f z h i :=
  heap_setCell_same _ _ _ _ _ _ (heap_setCell_same _ _ _ _ _ _ (heap_setCell_same _ _ _ _ _ _ k))
theorem G9.col1 {w : World} {B : Nat} {T : TypeId} {a b c d e f g h i : Int} (k : G9 w B T a b c d e f g h i) (x y z : Int) : G9 (((w.setCell ⟨B, 1, none⟩ (.int .i64 x)).setCell ⟨B, 4, none⟩ (.int .i64 y)).setCell ⟨B, 7, none⟩ (.int .i64 z)) B T a x c d y f g z i :=
  heap_setCell_same _ _ _ _ _ _ (heap_setCell_same _ _ _ _ _ _ (heap_setCell_same _ _ _ _ _ _ k))
theorem G9.col2 {w : World} {B : Nat} {T : TypeId} {a b c d e f g h i : Int} (k : G9 w B T a b c d e f g h i) (x y z : Int) : G9 (((w.setCell ⟨B, 2, none⟩ (.int .i64 x)).setCell ⟨B, 5, none⟩ (.int .i64 y)).setCell ⟨B, 8, none⟩ (.int .i64 z)) B T a b x d e y g h z :=
  heap_setCell_same _ _ _ _ _ _ (heap_setCell_same _ _ _ _ _ _ (heap_setCell_same _ _ _ _ _ _ k))
end Go.Proofs.YtjijgagdaolkcaaGreat
