/- Plain facts: three numbers each are the points of the region. -/
import Derived.Test.YtmogncpkdkdodaaPtP
namespace Go.Proofs.Ytmogncpkdkdodaa
open Go Go.RowKit Go.Lib

theorem dot_three {h : List Int} {x y z : Int} {n : Nat} (hl : h.length = n) (h1 : 1 ≤ n) (h3 : n ≤ 3) : dotL h ([x, y, z].take n) = dot3 h [x, y, z] := by
  subst hl
  match h, h1, h3 with
  | [a], _, _ => simp [dotL, dot3]
  | [a, b], _, _ => simp [dotL, dot3]
  | [a, b, c], _, _ => simp [dotL, dot3]; omega
theorem has_in {n : Nat} {hs : List Hf} (hr : regOk n hs = true) {t : List Int} (ht : t ∈ trip n) : hasL hs (t.take n) = inA hs t := by
  obtain ⟨x, y, z, rfl, _⟩ := trip_mem ht
  have h1 : 1 ≤ n := by have := (regOk_t hr).1; omega
  have h3 : n ≤ 3 := by have := (regOk_t hr).2.1; omega
  unfold hasL inA
  rw [Bool.eq_iff_iff, List.all_eq_true, List.all_eq_true]
  refine forall_congr' fun h => forall_congr' fun hm => ?_
  obtain ⟨i, hi, rfl⟩ := List.mem_iff_getElem.1 hm
  have hl := (halfOk_t ((regOk_t hr).2.2.2 i hi)).2.2.1
  rw [dot_three (by omega) h1 h3]
theorem tri_pts {n : Nat} {hs : List Hf} (hr : regOk n hs = true) : (triR n hs).map (fun t => t.take n) = ptsL n hs := by
  have h1 : 1 ≤ n := by have := (regOk_t hr).1; omega
  have h3 : n ≤ 3 := by have := (regOk_t hr).2.1; omega
  unfold triR ptsL
  rw [show ((n : Int)).toNat = n by omega, ← trip_box h1 h3, List.filter_map]
  congr 1
  refine List.filter_congr fun t ht => ?_
  exact (has_in hr ht).symm
theorem tri_len {n : Nat} {hs : List Hf} (hr : regOk n hs = true) : (triR n hs).length = (ptsL n hs).length := by rw [← tri_pts hr, List.length_map]
theorem tripL_len (A B C : List Int) : (tripL A B C).length = A.length * (B.length * C.length) := by
  have key : ∀ x, (B.flatMap fun y => C.map fun z => [x, y, z]).length = B.length * C.length := fun x => by
    induction B with
    | nil => simp
    | cons y B ih2 => rw [List.flatMap_cons, List.length_append, ih2, List.length_cons, List.length_map, Nat.succ_mul, Nat.add_comm]
  unfold tripL
  induction A with
  | nil => simp
  | cons x A ih => rw [List.flatMap_cons, List.length_append, ih, key, List.length_cons, Nat.succ_mul, Nat.add_comm]
theorem trip_len (n : Int) : (trip n).length ≤ 2197 := by
  unfold trip
  rw [tripL_len, axis_len, axis_len, axis_len]
  have h0 := edge_le n 0
  have h1 := edge_le n 1
  have h2 := edge_le n 2
  have a : (2 * edge n 1 + 1) * (2 * edge n 2 + 1) ≤ 13 * 13 := Nat.mul_le_mul (by omega) (by omega)
  have b : (2 * edge n 0 + 1) * ((2 * edge n 1 + 1) * (2 * edge n 2 + 1)) ≤ 13 * (13 * 13) := Nat.mul_le_mul (by omega) a
  omega
theorem tri_len_le (n : Int) (hs : List Hf) : (triR n hs).length ≤ 2197 := Nat.le_trans (List.length_filter_le ..) (trip_len n)
theorem pre_len {α : Type} {l m : List α} {x : α} (h : l ++ [x] <+: m) : l.length < m.length := by
  have := h.length_le
  simp at this; omega
theorem countR_f {n : Int} {hs : List Hf} (h : regOk n hs = false) : countR n hs = -1 := by unfold countR; rw [h]; rfl
theorem countR_t {n : Nat} {hs : List Hf} (h : regOk n hs = true) : countR n hs = (triR n hs).length := by unfold countR; rw [if_pos h, tri_len h]
end Go.Proofs.Ytmogncpkdkdodaa
