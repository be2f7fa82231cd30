/- Plain facts: the points of a box in order, those of a region among them, the first one with the least product, slices. -/
import Derived.Test.YtmogncpkdkdodaaRegM
namespace Go.Proofs.Ytmogncpkdkdodaa

/-- The numbers from -e to e. -/
def axis (e : Nat) : List Int := (List.range (2 * e + 1)).map fun i : Nat => (i : Int) - (e : Int)
theorem axis_len (e : Nat) : (axis e).length = 2 * e + 1 := by simp [axis]
theorem axis_get (e i : Nat) (h : i < (axis e).length) : (axis e)[i] = (i : Int) - e := by simp [axis]
theorem flatMap_cg {α β : Type} {l : List α} {f g : α → List β} (h : ∀ x, x ∈ l → f x = g x) : l.flatMap f = l.flatMap g := by
  induction l with
  | nil => rfl
  | cons x l ih => rw [List.flatMap_cons, List.flatMap_cons, h x (List.mem_cons_self ..), ih fun y hy => h y (List.mem_cons_of_mem _ hy)]
/-- The points of a box of n dimensions, in order. -/
def boxP (R : List Int) : Nat → List (List Int)
  | 0 => [[]]
  | n + 1 => (boxP R n).flatMap fun p => R.map fun x => p ++ [x]
theorem boxP_lens (R : List Int) : ∀ (n : Nat) (p : List Int), p ∈ boxP R n → p.length = n
  | 0, p, h => by simp [boxP] at h; rw [h]; rfl
  | n + 1, p, h => by
    unfold boxP at h
    obtain ⟨q, hq, h⟩ := List.mem_flatMap.1 h
    obtain ⟨x, _, rfl⟩ := List.mem_map.1 h
    rw [List.length_append, boxP_lens R n q hq]; rfl
/-- Three numbers each. -/
def tripL (A B C : List Int) : List (List Int) := A.flatMap fun x => B.flatMap fun y => C.map fun z => [x, y, z]
def edge (n : Int) (k : Nat) : Nat := if (k : Int) < n then 6 else 0
def trip (n : Int) : List (List Int) := tripL (axis (edge n 0)) (axis (edge n 1)) (axis (edge n 2))
theorem axis_zero : axis 0 = [0] := rfl
theorem trip_one (R : List Int) : (tripL R [0] [0]).map (fun t => t.take 1) = boxP R 1 := by
  simp [tripL, boxP, List.map_flatMap]
  induction R with
  | nil => rfl
  | cons x R ih => simp [ih]
theorem trip_two (R : List Int) : (tripL R R [0]).map (fun t => t.take 2) = boxP R 2 := by
  have e : boxP R 1 = R.map fun x => [x] := by simp [boxP]
  rw [show boxP R 2 = (boxP R 1).flatMap fun p => R.map fun x => p ++ [x] from rfl, e, tripL, List.flatMap_map, List.map_flatMap]
  refine flatMap_cg fun x _ => ?_
  rw [List.map_flatMap]
  simp only [List.map_cons, List.map_nil]
  generalize hS : R = S
  clear hS
  induction S with
  | nil => rfl
  | cons y S ih => simp only [List.flatMap_cons, List.map_cons, ih]; rfl
theorem trip_three (R : List Int) : (tripL R R R).map (fun t => t.take 3) = boxP R 3 := by
  have e : boxP R 1 = R.map fun x => [x] := by simp [boxP]
  rw [show boxP R 3 = ((boxP R 1).flatMap fun p => R.map fun x => p ++ [x]).flatMap fun p => R.map fun x => p ++ [x] from rfl, e, tripL, List.flatMap_map, List.map_flatMap, List.flatMap_assoc]
  refine flatMap_cg fun x _ => ?_
  rw [List.map_flatMap, List.flatMap_map]
  refine flatMap_cg fun y _ => ?_
  rw [List.map_map]
  rfl
theorem trip_box {n : Nat} (h1 : 1 ≤ n) (h3 : n ≤ 3) : (trip n).map (fun t => t.take n) = boxP (axis 6) n := by
  have hn : n = 1 ∨ n = 2 ∨ n = 3 := by omega
  rcases hn with rfl | rfl | rfl
  · exact trip_one (axis 6)
  · exact trip_two (axis 6)
  · exact trip_three (axis 6)
theorem trip_mem {n : Int} {t : List Int} (h : t ∈ trip n) : ∃ x y z : Int, t = [x, y, z] ∧ (-6 ≤ x ∧ x ≤ 6) ∧ (-6 ≤ y ∧ y ≤ 6) ∧ (-6 ≤ z ∧ z ≤ 6) ∧ (¬ 1 < n → y = 0) ∧ (¬ 2 < n → z = 0) := by
  have ax : ∀ (k : Nat) (x : Int), x ∈ axis (edge n k) → (-6 ≤ x ∧ x ≤ 6) ∧ (¬ (k : Int) < n → x = 0) := by
    intro k x hx
    unfold axis at hx
    obtain ⟨i, hi, rfl⟩ := List.mem_map.1 hx
    rw [List.mem_range] at hi
    unfold edge at hi ⊢
    split at hi
    · rename_i hk
      rw [if_pos hk]
      exact ⟨by omega, fun e => absurd hk e⟩
    · rename_i hk
      rw [if_neg hk]
      exact ⟨by omega, fun _ => by omega⟩
  unfold trip tripL at h
  obtain ⟨x, hx, h⟩ := List.mem_flatMap.1 h
  obtain ⟨y, hy, h⟩ := List.mem_flatMap.1 h
  obtain ⟨z, hz, rfl⟩ := List.mem_map.1 h
  exact ⟨x, y, z, rfl, (ax 0 x hx).1, (ax 1 y hy).1, (ax 2 z hz).1, (ax 1 y hy).2, (ax 2 z hz).2⟩
/-- What has come when the loops stand at i, j, k. -/
def tripAt (A B C : List Int) (i j k : Nat) : List (List Int) :=
  tripL (A.take i) B C ++ (tripL (A.drop i |>.take 1) (B.take j) C ++ tripL (A.drop i |>.take 1) (B.drop j |>.take 1) (C.take k))
theorem tripL_app (A A' B C : List Int) : tripL (A ++ A') B C = tripL A B C ++ tripL A' B C := by simp [tripL]
theorem tripL_one (x : Int) (B B' C : List Int) : tripL [x] (B ++ B') C = tripL [x] B C ++ tripL [x] B' C := by simp [tripL]
theorem tripL_two (x y : Int) (C C' : List Int) : tripL [x] [y] (C ++ C') = tripL [x] [y] C ++ tripL [x] [y] C' := by simp [tripL]
theorem tripL_nil (B C : List Int) : tripL [] B C = [] := rfl
theorem tripL_nil2 (x : Int) (C : List Int) : tripL [x] [] C = [] := rfl
theorem tripL_nil3 (x y : Int) : tripL [x] [y] [] = [] := rfl
theorem drop_one {l : List Int} {i : Nat} (h : i < l.length) : (l.drop i).take 1 = [l[i]] := by rw [List.drop_eq_getElem_cons h]; rfl
theorem drop_none {l : List Int} {i : Nat} (h : l.length ≤ i) : (l.drop i).take 1 = [] := by rw [List.drop_eq_nil_of_le h]; rfl
theorem tripAt_zero (A B C : List Int) : tripAt A B C 0 0 0 = [] := by
  unfold tripAt
  simp only [List.take_zero, tripL_nil, List.nil_append, List.drop_zero]
  cases A with
  | nil => rfl
  | cons x A => cases B <;> rfl
theorem tripAt_step {A B C : List Int} {i j k : Nat} (hi : i < A.length) (hj : j < B.length) (hk : k < C.length) : tripAt A B C i j k ++ [[A[i], B[j], C[k]]] = tripAt A B C i j (k + 1) := by
  unfold tripAt
  rw [drop_one hi, drop_one hj, List.append_assoc, List.append_assoc, List.take_succ_eq_append_getElem hk, tripL_two]
  rfl
theorem tripAt_row {A B C : List Int} {i j : Nat} (hi : i < A.length) (hj : j < B.length) : tripAt A B C i j C.length = tripAt A B C i (j + 1) 0 := by
  unfold tripAt
  rw [drop_one hi, drop_one hj, List.take_length, List.take_succ_eq_append_getElem hj, tripL_one]
  congr 1
  rw [List.take_zero]
  by_cases h : j + 1 < B.length
  · rw [drop_one h, tripL_nil3, List.append_nil]
  · rw [drop_none (by omega), tripL_nil2, List.append_nil]
theorem tripAt_plane {A B C : List Int} {i : Nat} (hi : i < A.length) : tripAt A B C i B.length 0 = tripAt A B C (i + 1) 0 0 := by
  unfold tripAt
  rw [drop_one hi, List.take_length, List.take_succ_eq_append_getElem hi, tripL_app, List.append_assoc]
  congr 1
  rw [drop_none (Nat.le_refl _), tripL_nil2, List.append_nil, List.take_zero, List.take_zero]
  simp [tripL]
theorem tripAt_all (A B C : List Int) : tripAt A B C A.length 0 0 = tripL A B C := by
  unfold tripAt
  rw [List.take_length, drop_none (Nat.le_refl _), tripL_nil, tripL_nil]
  simp
theorem tripAt_pre (A B C : List Int) {i j k : Nat} (hi : i < A.length) (hj : j < B.length) : tripAt A B C i j k <+: tripL A B C := by
  have p3 : tripAt A B C i j k <+: tripAt A B C i j C.length := by
    unfold tripAt
    rw [drop_one hi, drop_one hj, List.take_length, List.prefix_append_right_inj, List.prefix_append_right_inj]
    conv => rhs; rw [← List.take_append_drop k C, tripL_two]
    exact List.prefix_append _ _
  have p2 : tripAt A B C i (j + 1) 0 <+: tripAt A B C i B.length 0 := by
    unfold tripAt
    rw [drop_one hi, List.prefix_append_right_inj, List.take_length, List.take_zero, drop_none (Nat.le_refl _), tripL_nil2, List.append_nil]
    have e : tripL [A[i]] (List.take 1 (List.drop (j + 1) B)) [] = [] := by
      by_cases h : j + 1 < B.length
      · rw [drop_one h]; rfl
      · rw [drop_none (by omega)]; rfl
    rw [e, List.append_nil]
    conv => rhs; rw [← List.take_append_drop (j + 1) B, tripL_one]
    exact List.prefix_append _ _
  have p1 : tripAt A B C (i + 1) 0 0 <+: tripL A B C := by
    have e : tripAt A B C (i + 1) 0 0 = tripL (A.take (i + 1)) B C := by
      unfold tripAt
      have e1 : tripL (List.take 1 (List.drop (i + 1) A)) [] C = [] := by
        by_cases h : i + 1 < A.length
        · rw [drop_one h]; rfl
        · rw [drop_none (by omega)]; rfl
      have e2 : ∀ D, tripL (List.take 1 (List.drop (i + 1) A)) D [] = [] := fun D => by simp [tripL]
      rw [List.take_zero, List.take_zero, e1, e2]; simp
    rw [e]
    conv => rhs; rw [← List.take_append_drop (i + 1) A, tripL_app]
    exact List.prefix_append _ _
  rw [tripAt_row hi hj] at p3
  rw [tripAt_plane hi] at p2
  exact p3.trans (p2.trans p1)

/-- The product of three numbers each. -/
def dot3 (a t : List Int) : Int := a.getD 0 0 * t.getD 0 0 + a.getD 1 0 * t.getD 1 0 + a.getD 2 0 * t.getD 2 0
def inA (hs : List Hf) (t : List Int) : Bool := hs.all fun h => decide (dot3 h.1 t ≤ h.2)
/-- The points of a region in the box. -/
def ptsL (n : Int) (hs : List Hf) : List (List Int) := (boxP (axis 6) n.toNat).filter (hasL hs)
def ptsR (n : Int) (hs : List Hf) : List (List Int) := if regOk n hs = true then ptsL n hs else []
def countR (n : Int) (hs : List Hf) : Int := if regOk n hs = true then (ptsL n hs).length else -1
theorem ptsR_f {n : Int} {hs : List Hf} (h : regOk n hs = false) : ptsR n hs = [] := by unfold ptsR; rw [h]; rfl
theorem ptsR_t {n : Int} {hs : List Hf} (h : regOk n hs = true) : ptsR n hs = ptsL n hs := if_pos h
end Go.Proofs.Ytmogncpkdkdodaa
