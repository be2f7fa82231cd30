/- Plain facts on matrices. -/
import Derived.Test.YteenheidomfpkaaDoorVecM
import Derived.Test.YteenheidomfpkaaDoorRw
namespace Go.Proofs.YteenheidomfpkaaDoor

def rowOk (n : Nat) (r : List Int) : Bool := decide (r.length = n) && small r 100
def isM (m : List (List Int)) : Bool := m.all (rowOk m.length) && inR m.length 1 3
theorem rowOk_t {n : Nat} {r : List Int} (h : rowOk n r = true) : r.length = n ∧ small r 100 = true := by
  unfold rowOk at h
  rw [Bool.and_eq_true, decide_eq_true_eq] at h
  exact h
theorem rows_take {n : Nat} {m : List (List Int)} {k : Nat} (h : k < m.length) (h1 : (m.take k).all (rowOk n) = true) (h2 : rowOk n m[k] = true) : (m.take (k + 1)).all (rowOk n) = true := by
  rw [List.take_succ_eq_append_getElem h, List.all_append, h1, List.all_cons, h2]; rfl
theorem rows_not {n : Nat} {m : List (List Int)} {k : Nat} (h : k < m.length) (h2 : rowOk n m[k] = false) : m.all (rowOk n) = false := by
  rw [List.all_eq_false]
  exact ⟨m[k], List.getElem_mem h, by simp [h2]⟩
theorem isM_t {m : List (List Int)} (h : isM m = true) : 1 ≤ m.length ∧ m.length ≤ 3 ∧ ∀ (i : Nat) (hi : i < m.length), m[i].length = m.length ∧ Bd m[i] 100 := by
  unfold isM at h
  rw [Bool.and_eq_true, List.all_eq_true] at h
  have h2 := inR_t h.2
  exact ⟨by omega, by omega, fun i hi => by
    have h3 := rowOk_t (h.1 _ (List.getElem_mem hi))
    exact ⟨h3.1, small_bd h3.2⟩⟩
/-- n rows of n numbers from -b to b. -/
def Sq (n : Nat) (b : Int) (m : List (List Int)) : Prop := m.length = n ∧ ∀ (i : Nat) (hi : i < m.length), m[i].length = n ∧ Bd m[i] b
theorem isM_sq {m : List (List Int)} (h : isM m = true) : Sq m.length 100 m := ⟨rfl, (isM_t h).2.2⟩
/-- The determinant. -/
def detL : List (List Int) → Int
  | [[a]] => a
  | [[a, b], [c, d]] => a * d - b * c
  | [[a, b, c], [d, e, f], [g, h, i]] => a * (e * i - f * h) + b * (f * g - d * i) + c * (d * h - e * g)
  | _ => 0
def detR (m : List (List Int)) : Int := if isM m = true then detL m else 0
theorem list1 {α : Type} {l : List α} (h : l.length = 1) : ∃ a, l = [a] := by
  match l, h with
  | [a], _ => exact ⟨a, rfl⟩
theorem list2 {α : Type} {l : List α} (h : l.length = 2) : ∃ a b, l = [a, b] := by
  match l, h with
  | [a, b], _ => exact ⟨a, b, rfl⟩
theorem list3 {α : Type} {l : List α} (h : l.length = 3) : ∃ a b c, l = [a, b, c] := by
  match l, h with
  | [a, b, c], _ => exact ⟨a, b, c, rfl⟩
theorem sq1 {b : Int} {m : List (List Int)} (h : Sq 1 b m) : ∃ x, m = [[x]] ∧ -b ≤ x ∧ x ≤ b := by
  obtain ⟨h1, h2⟩ := h
  obtain ⟨r, rfl⟩ := list1 h1
  obtain ⟨h3, h4⟩ := h2 0 (by simp)
  simp only [List.getElem_cons_zero] at h3 h4
  obtain ⟨x, rfl⟩ := list1 h3
  have := h4 0 (by simp)
  exact ⟨x, rfl, by simpa using this.1, by simpa using this.2⟩
theorem sq2 {b : Int} {m : List (List Int)} (h : Sq 2 b m) : ∃ x y z u, m = [[x, y], [z, u]] ∧ (-b ≤ x ∧ x ≤ b) ∧ (-b ≤ y ∧ y ≤ b) ∧ (-b ≤ z ∧ z ≤ b) ∧ (-b ≤ u ∧ u ≤ b) := by
  obtain ⟨h1, h2⟩ := h
  obtain ⟨r, s, rfl⟩ := list2 h1
  obtain ⟨h3, h4⟩ := h2 0 (by simp)
  obtain ⟨h5, h6⟩ := h2 1 (by simp)
  simp only [List.getElem_cons_zero, List.getElem_cons_succ] at h3 h4 h5 h6
  obtain ⟨x, y, rfl⟩ := list2 h3
  obtain ⟨z, u, rfl⟩ := list2 h5
  have a0 := h4 0 (by simp)
  have a1 := h4 1 (by simp)
  have b0 := h6 0 (by simp)
  have b1 := h6 1 (by simp)
  simp only [List.getElem_cons_zero, List.getElem_cons_succ] at a0 a1 b0 b1
  exact ⟨x, y, z, u, rfl, a0, a1, b0, b1⟩
theorem sq3 {b : Int} {m : List (List Int)} (h : Sq 3 b m) : ∃ x y z x' y' z' x'' y'' z'', m = [[x, y, z], [x', y', z'], [x'', y'', z'']] ∧ (-b ≤ x ∧ x ≤ b) ∧ (-b ≤ y ∧ y ≤ b) ∧ (-b ≤ z ∧ z ≤ b) ∧
    (-b ≤ x' ∧ x' ≤ b) ∧ (-b ≤ y' ∧ y' ≤ b) ∧ (-b ≤ z' ∧ z' ≤ b) ∧ (-b ≤ x'' ∧ x'' ≤ b) ∧ (-b ≤ y'' ∧ y'' ≤ b) ∧ (-b ≤ z'' ∧ z'' ≤ b) := by
  obtain ⟨h1, h2⟩ := h
  obtain ⟨r, s, t, rfl⟩ := list3 h1
  obtain ⟨h3, h4⟩ := h2 0 (by simp)
  obtain ⟨h5, h6⟩ := h2 1 (by simp)
  obtain ⟨h7, h8⟩ := h2 2 (by simp)
  simp only [List.getElem_cons_zero, List.getElem_cons_succ] at h3 h4 h5 h6 h7 h8
  obtain ⟨x, y, z, rfl⟩ := list3 h3
  obtain ⟨x', y', z', rfl⟩ := list3 h5
  obtain ⟨x'', y'', z'', rfl⟩ := list3 h7
  have a0 := h4 0 (by simp)
  have a1 := h4 1 (by simp)
  have a2 := h4 2 (by simp)
  have b0 := h6 0 (by simp)
  have b1 := h6 1 (by simp)
  have b2 := h6 2 (by simp)
  have c0 := h8 0 (by simp)
  have c1 := h8 1 (by simp)
  have c2 := h8 2 (by simp)
  simp only [List.getElem_cons_zero, List.getElem_cons_succ] at a0 a1 a2 b0 b1 b2 c0 c1 c2
  exact ⟨x, y, z, x', y', z', x'', y'', z'', rfl, a0, a1, a2, b0, b1, b2, c0, c1, c2⟩

def uniR (m : List (List Int)) : Bool := decide ((detR m).natAbs = 1)
def applyL (m : List (List Int)) (v : List Int) : List Int := m.map fun r => dotL r v
def applyR (m : List (List Int)) (v : List Int) : List Int × Bool := if isM m = true ∧ isV v = true ∧ v.length = m.length ∧ isV (applyL m v) = true then (applyL m v, true) else ([], false)
theorem applyL_take {m : List (List Int)} {v : List Int} {k : Nat} (h : k < m.length) : applyL (m.take (k + 1)) v = applyL (m.take k) v ++ [dotL m[k] v] := by
  unfold applyL
  rw [List.take_succ_eq_append_getElem h, List.map_append]; rfl
theorem applyR_len (m : List (List Int)) (v : List Int) : (applyR m v).1.length ≤ 3 := by
  unfold applyR
  split
  · rename_i h; exact (isV_t h.2.2.2).2.1
  · simp
theorem sum3_bd {x y z : Int} (hx : -2000000000000000 ≤ x ∧ x ≤ 2000000000000000) (hy : -2000000000000000 ≤ y ∧ y ≤ 2000000000000000) (hz : -2000000000000000 ≤ z ∧ z ≤ 2000000000000000) : -6000000000000000 ≤ x + y + z ∧ x + y + z ≤ 6000000000000000 := by omega
theorem det_bd {n : Nat} {m : List (List Int)} (h1 : 1 ≤ n) (h3 : n ≤ 3) (h : Sq n 100000 m) : -6000000000000000 ≤ detL m ∧ detL m ≤ 6000000000000000 := by
  by_cases e1 : n = 1
  · subst e1; obtain ⟨x, rfl, h1, h2⟩ := sq1 h; simp only [detL]; omega
  · by_cases e2 : n = 2
    · subst e2
      obtain ⟨x, y, z, u, rfl, hx, hy, hz, hu⟩ := sq2 h
      have p1 := mul_bd hx.1 hx.2 hu.1 hu.2
      have p2 := mul_bd hy.1 hy.2 hz.1 hz.2
      simp only [detL]; omega
    · obtain rfl : n = 3 := by omega
      obtain ⟨x0, x1, x2, y0, y1, y2, z0, z1, z2, rfl, a0, a1, a2, b0, b1, b2, c0, c1, c2⟩ := sq3 h
      have key : ∀ (p q r s t : Int), (-100000 ≤ p ∧ p ≤ 100000) → (-100000 ≤ q ∧ q ≤ 100000) → (-100000 ≤ r ∧ r ≤ 100000) → (-100000 ≤ s ∧ s ≤ 100000) → (-100000 ≤ t ∧ t ≤ 100000) → -2000000000000000 ≤ p * (q * r - s * t) ∧ p * (q * r - s * t) ≤ 2000000000000000 := by
        intro p q r s t hp hq hr hs ht
        have e1 := mul_bd hq.1 hq.2 hr.1 hr.2
        have e2 := mul_bd hs.1 hs.2 ht.1 ht.2
        have e3 := mul_bd (y := q * r - s * t) (n := 20000000000) hp.1 hp.2 (by omega) (by omega)
        omega
      exact sum3_bd (key _ _ _ _ _ a0 b1 c2 b2 c1) (key _ _ _ _ _ a1 b2 c0 b0 c2) (key _ _ _ _ _ a2 b0 c1 b1 c0)
theorem Sq.mono {n : Nat} {b c : Int} {m : List (List Int)} (h : Sq n b m) (hbc : b ≤ c) : Sq n c m :=
  ⟨h.1, fun i hi => ⟨(h.2 i hi).1, fun k hk => by have := (h.2 i hi).2 k hk; omega⟩⟩

/-- Column c. -/
def colL (m : List (List Int)) (c : Nat) : List Int := m.map fun r => r.getD c 0
def turnL (m : List (List Int)) : List (List Int) := (List.range m.length).map (colL m)
def timesL (a b : List (List Int)) : List (List Int) := a.map fun r => applyL (turnL b) r
def timesR (a b : List (List Int)) : List (List Int) × Bool := if isM a = true ∧ isM b = true ∧ a.length = b.length ∧ isM (timesL a b) = true then (timesL a b, true) else ([], false)
theorem colL_take {m : List (List Int)} {c k : Nat} (h : k < m.length) (hc : c < m[k].length) : colL (m.take (k + 1)) c = colL (m.take k) c ++ [m[k][c]] := by
  unfold colL
  rw [List.take_succ_eq_append_getElem h, List.map_append]
  simp [List.getD_eq_getElem?_getD, hc]
theorem turnL_take (m : List (List Int)) {k : Nat} (h : k < m.length) : (turnL m).take (k + 1) = (turnL m).take k ++ [colL m k] := by
  have hl : k < (turnL m).length := by simp [turnL, h]
  rw [List.take_succ_eq_append_getElem hl]
  simp [turnL]
theorem turnL_len (m : List (List Int)) : (turnL m).length = m.length := by simp [turnL]
theorem timesL_take {a b : List (List Int)} {k : Nat} (h : k < a.length) : timesL (a.take (k + 1)) b = timesL (a.take k) b ++ [applyL (turnL b) a[k]] := by
  unfold timesL
  rw [List.take_succ_eq_append_getElem h, List.map_append]; rfl
theorem turnL_sq {n : Nat} {b : Int} {m : List (List Int)} (hb : 0 ≤ b) (h : Sq n b m) : Sq n b (turnL m) := by
  refine ⟨by rw [turnL_len, h.1], fun i hi => ?_⟩
  have hi' : i < m.length := by simpa [turnL] using hi
  have e : (turnL m)[i] = colL m i := by simp [turnL]
  rw [e]
  refine ⟨by simp [colL, h.1], fun k hk => ?_⟩
  have hk' : k < m.length := by simpa [colL] using hk
  have h2 := h.2 k hk'
  have e2 : (colL m i)[k] = m[k].getD i 0 := by simp [colL]
  rw [e2]
  have h3 : i < m[k].length := by have := h.1; omega
  have h4 := h2.2 i h3
  simp only [List.getD_eq_getElem?_getD, List.getElem?_eq_getElem h3, Option.getD_some]
  exact h4
theorem timesR_len (a b : List (List Int)) : tot (timesR a b).1 ≤ 9 := by
  unfold timesR
  split
  · rename_i h
    have hs := isM_sq h.2.2.2
    have ht := isM_t h.2.2.2
    have key : ∀ (l : List (List Int)) (n : Nat), (∀ r ∈ l, r.length = n) → tot l = l.length * n := by
      intro l n
      induction l with
      | nil => intro _; simp [tot]
      | cons r rs ih =>
        intro hh
        have := ih (fun x hx => hh x (by simp [hx]))
        simp only [tot, List.map_cons, List.sum_cons, List.length_cons] at this ⊢
        rw [this, hh r (by simp), Nat.succ_mul]; omega
    have hr : ∀ r ∈ timesL a b, r.length = (timesL a b).length := fun r hr => by
      obtain ⟨i, hi, rfl⟩ := List.getElem_of_mem hr
      exact (ht.2.2 i hi).1
    rw [key _ _ hr]
    exact Nat.mul_le_mul ht.2.1 ht.2.1
  · simp [tot]
end Go.Proofs.YteenheidomfpkaaDoor
