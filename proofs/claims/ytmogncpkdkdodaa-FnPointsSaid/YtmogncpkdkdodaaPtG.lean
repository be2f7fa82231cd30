/- Plain facts for the law of points: sums over slices. -/
import Derived.Test.YtmogncpkdkdodaaMal
import Derived.Test.YtmogncpkdkdodaaPtF
import Derived.Test.YtmogncpkdkdodaaMbc
import Derived.Test.YtmogncpkdkdodaaSameL
import Derived.Test.YtmogncpkdkdodaaMas
namespace Go.Proofs.Ytmogncpkdkdodaa
open Go Go.RowKit Go.Lib

theorem boxP_cnt (R : List Int) : ∀ n : Nat, (boxP R n).length = R.length ^ n
  | 0 => rfl
  | n + 1 => by
    have ih := boxP_cnt R n
    simp only [boxP, List.length_flatMap, List.length_map]
    rw [List.map_const', List.sum_replicate_nat, ih, Nat.pow_succ]
theorem cntAt_le {n : Nat} (h : n ≤ 2) (hs : List Hf) (x : Int) : cntAt n hs x ≤ 169 := by
  unfold cntAt
  refine Nat.le_trans (List.length_filter_le _ _) ?_
  rw [boxP_cnt, axis_len]
  have hn : n = 0 ∨ n = 1 ∨ n = 2 := by omega
  rcases hn with rfl | rfl | rfl <;> decide
/-- The points of the first j slices. -/
def sumTo (n : Nat) (hs : List Hf) (j : Nat) : Nat := (((axis 6).take j).map (cntAt n hs)).sum
theorem sumTo_zero (n : Nat) (hs : List Hf) : sumTo n hs 0 = 0 := rfl
theorem sumTo_succ {n : Nat} {hs : List Hf} {j : Nat} (h : j < 13) : sumTo n hs (j + 1) = sumTo n hs j + cntAt n hs ((j : Int) - 6) := by
  have hl : j < (axis 6).length := by rw [axis_len]; omega
  unfold sumTo
  rw [List.take_succ_eq_append_getElem hl, List.map_append, List.sum_append, axis_get]
  simp
theorem sumTo_le {n : Nat} (h : n ≤ 2) (hs : List Hf) : ∀ j, j ≤ 13 → sumTo n hs j ≤ 169 * j
  | 0, _ => by simp [sumTo]
  | j + 1, hj => by
    have := sumTo_le h hs j (by omega)
    have := cntAt_le h hs ((j : Int) - 6)
    rw [sumTo_succ (by omega)]; omega
theorem sumTo_all (n : Nat) (hs : List Hf) : sumTo n hs 13 = (ptsL (n + 1 : Nat) hs).length := by
  rw [pts_sum, sumTo, List.take_of_length_le (by rw [axis_len]; omega)]
/-- Whether a bound among them is beyond 60. -/
def bigB (hs : List Hf) : Bool := hs.any fun h => decide (60 < (h.2.natAbs : Int))
theorem bigB_zero (hs : List Hf) : bigB (hs.take 0) = false := rfl
theorem bigB_succ {hs : List Hf} {k : Nat} (h : k < hs.length) : bigB (hs.take (k + 1)) = (bigB (hs.take k) || decide (60 < (hs[k].2.natAbs : Int))) := by
  unfold bigB
  rw [List.take_succ_eq_append_getElem h, List.any_append]; simp
theorem bigB_no {hs : List Hf} (h : bigB hs = false) (i : Nat) (hi : i < hs.length) : -60 ≤ hs[i].2 ∧ hs[i].2 ≤ 60 := by
  unfold bigB at h
  rw [List.any_eq_false] at h
  have := h _ (List.getElem_mem hi)
  simp only [decide_eq_true_eq] at this
  omega
theorem keep6D {w W : World} {p1 p2 p3 p4 p5 p6 : Addr} {x1 x2 x3 x4 x5 x6 : Value} (h1 : W.cell? p1 = some x1) (h2 : W.cell? p2 = some x2) (h3 : W.cell? p3 = some x3) (h4 : W.cell? p4 = some x4) (h5 : W.cell? p5 = some x5) (h6 : W.cell? p6 = some x6) (hb : Below w.heap.size w W) : W.drew.cell? p1 = some x1 ∧ W.drew.cell? p2 = some x2 ∧ W.drew.cell? p3 = some x3 ∧ W.drew.cell? p4 = some x4 ∧ W.drew.cell? p5 = some x5 ∧ W.drew.cell? p6 = some x6 ∧ Below w.heap.size w W.drew :=
  ⟨h1, h2, h3, h4, h5, h6, hb.drew⟩
theorem keep6E {w W w1 : World} {p1 p2 p3 p4 p5 p6 : Addr} {x1 x2 x3 x4 x5 x6 : Value} (l1 : p1.block < w.heap.size) (l2 : p2.block < w.heap.size) (l3 : p3.block < w.heap.size) (l4 : p4.block < w.heap.size) (l5 : p5.block < w.heap.size) (l6 : p6.block < w.heap.size) (h1 : W.cell? p1 = some x1) (h2 : W.cell? p2 = some x2) (h3 : W.cell? p3 = some x3) (h4 : W.cell? p4 = some x4) (h5 : W.cell? p5 = some x5) (h6 : W.cell? p6 = some x6) (hb : Below w.heap.size w W) (h : Below W.heap.size W w1) : w1.cell? p1 = some x1 ∧ w1.cell? p2 = some x2 ∧ w1.cell? p3 = some x3 ∧ w1.cell? p4 = some x4 ∧ w1.cell? p5 = some x5 ∧ w1.cell? p6 = some x6 ∧ Below w.heap.size w w1 :=
  ⟨(h.cell (Nat.lt_of_lt_of_le l1 hb.size)).trans h1, (h.cell (Nat.lt_of_lt_of_le l2 hb.size)).trans h2, (h.cell (Nat.lt_of_lt_of_le l3 hb.size)).trans h3, (h.cell (Nat.lt_of_lt_of_le l4 hb.size)).trans h4, (h.cell (Nat.lt_of_lt_of_le l5 hb.size)).trans h5, (h.cell (Nat.lt_of_lt_of_le l6 hb.size)).trans h6, hb.trans (h.mono hb.size)⟩
theorem rg_of {lo hi : Nat} {w : World} {V : Value} (r : Rgn) (h : OwH 48 3 lo hi w V r.2) : Rg w (.agg #[.int .i64 r.1, V]) r := ⟨_, rfl, h.hs⟩
end Go.Proofs.Ytmogncpkdkdodaa
