/- Plain facts on the sides of a polygon. -/
import Derived.Test.YtckpifcdlmfabaaPgM
import Derived.Test.YtckpifcdlmfabaaPgT
namespace Go.Proofs.Ytckpifcdlmfabaa

abbrev S2 := P2 × P2
def sideP (ps : List P2) (k : Nat) : S2 := (ps.getD k (0, 0), ps.getD ((k + 1) % ps.length) (0, 0))
def sidesP (ps : List P2) : List S2 := (List.range ps.length).map (sideP ps)
theorem sidesP_len (ps : List P2) : (sidesP ps).length = ps.length := by simp [sidesP]
theorem sidesP_get (ps : List P2) (k : Nat) (h : k < (sidesP ps).length) : (sidesP ps)[k] = sideP ps k := by simp [sidesP]
def crossS (s : S2) : Int := s.1.1 * s.2.2 - s.1.2 * s.2.1
def stepS (s : S2) : Int := gcdI (s.2.1 - s.1.1) (s.2.2 - s.1.2)
def areaL (l : List S2) : Int := (l.map crossS).sum
def boundL (l : List S2) : Int := (l.map stepS).sum
theorem turn_zero (a b : P2) : turnP (0, 0) a b = crossS (a, b) := by unfold turnP crossS; simp
theorem area_take {l : List S2} {k : Nat} (h : k < l.length) : areaL (l.take (k + 1)) = areaL (l.take k) + crossS l[k] := by
  unfold areaL
  rw [List.take_succ_eq_append_getElem h, List.map_append, List.sum_append]; simp
theorem bound_take {l : List S2} {k : Nat} (h : k < l.length) : boundL (l.take (k + 1)) = boundL (l.take k) + stepS l[k] := by
  unfold boundL
  rw [List.take_succ_eq_append_getElem h, List.map_append, List.sum_append]; simp
/-- All ends within bounds. -/
def BdS (l : List S2) : Prop := ∀ s ∈ l, BdP 50 s.1 ∧ BdP 50 s.2
theorem crossS_bd {s : S2} (h : BdP 50 s.1 ∧ BdP 50 s.2) : -5000 ≤ crossS s ∧ crossS s ≤ 5000 := by
  unfold BdP at h
  have h1 := mul_bd (x := s.1.1) (y := s.2.2) (m := 50) (n := 50) h.1.1.1 h.1.1.2 h.2.2.1 h.2.2.2
  have h2 := mul_bd (x := s.1.2) (y := s.2.1) (m := 50) (n := 50) h.1.2.1 h.1.2.2 h.2.1.1 h.2.1.2
  unfold crossS
  omega
theorem area_bd {l : List S2} (h : BdS l) : ∀ k, k ≤ l.length → -(5000 * (k : Int)) ≤ areaL (l.take k) ∧ areaL (l.take k) ≤ 5000 * (k : Int) := by
  intro k
  induction k with
  | zero => intro _; simp [areaL]
  | succ k ih =>
    intro hk
    have h1 := ih (by omega)
    have h2 := crossS_bd (h l[k] (List.getElem_mem _))
    rw [area_take (by omega)]
    omega
theorem gcdI_le {a b n : Int} (hn : 0 ≤ n) (ha : -n ≤ a ∧ a ≤ n) (hb : -n ≤ b ∧ b ≤ n) : gcdI a b ≤ n := by
  unfold gcdI
  by_cases h : a = 0
  · subst h
    rw [Int.gcd_zero_left]; omega
  · have h1 : Int.gcd a b ∣ a.natAbs := Nat.gcd_dvd_left ..
    have h2 := Nat.le_of_dvd (by omega) h1
    omega
theorem stepS_bd {s : S2} (h : BdP 50 s.1 ∧ BdP 50 s.2) : 0 ≤ stepS s ∧ stepS s ≤ 100 := by
  unfold BdP at h
  unfold stepS
  exact ⟨gcdI_nonneg _ _, gcdI_le (by omega) (by omega) (by omega)⟩
theorem bound_bd {l : List S2} (h : BdS l) : ∀ k, k ≤ l.length → 0 ≤ boundL (l.take k) ∧ boundL (l.take k) ≤ 100 * (k : Int) := by
  intro k
  induction k with
  | zero => intro _; simp [boundL]
  | succ k ih =>
    intro hk
    have h1 := ih (by omega)
    have h2 := stepS_bd (h l[k] (List.getElem_mem _))
    rw [bound_take (by omega)]
    omega
theorem all_two (a b : Int) : allG [a, b] = gcdI a b := by
  show gcdI (gcdI 0 a) b = gcdI a b
  unfold gcdI
  rw [Int.gcd_zero_left]
  simp [Int.gcd]
/-- Where a point lies beside the sides. -/
def sgnI (t : Int) : Int := if t = 0 then 0 else if t < 0 then -1 else 1
def placeL (l : List S2) (x : P2) : Int := l.foldl (fun m s => min m (sgnI (turnP s.1 s.2 x))) 1
theorem place_take {l : List S2} {k : Nat} (x : P2) (h : k < l.length) : placeL (l.take (k + 1)) x = min (placeL (l.take k) x) (sgnI (turnP l[k].1 l[k].2 x)) := by
  unfold placeL
  rw [List.take_succ_eq_append_getElem h, List.foldl_append]; rfl
theorem place_rng (l : List S2) (x : P2) : -1 ≤ placeL l x ∧ placeL l x ≤ 1 := by
  unfold placeL
  have key : ∀ (l : List S2) (m : Int), -1 ≤ m ∧ m ≤ 1 → -1 ≤ l.foldl (fun m s => min m (sgnI (turnP s.1 s.2 x))) m ∧ l.foldl (fun m s => min m (sgnI (turnP s.1 s.2 x))) m ≤ 1 := by
    intro l
    induction l with
    | nil => intro m h; exact h
    | cons s l ih =>
      intro m h
      rw [List.foldl_cons]
      refine ih _ ?_
      unfold sgnI
      split
      · omega
      · split <;> omega
  exact key l 1 (by omega)
theorem place_le (l : List S2) (x : P2) (m : Int) : l.foldl (fun m s => min m (sgnI (turnP s.1 s.2 x))) m ≤ m := by
  induction l generalizing m with
  | nil => exact Int.le_refl _
  | cons s l ih =>
    rw [List.foldl_cons]
    have := ih (min m (sgnI (turnP s.1 s.2 x)))
    omega
theorem place_out {l : List S2} {k : Nat} (x : P2) (h : k < l.length) (ht : turnP l[k].1 l[k].2 x < 0) : placeL l x = -1 := by
  have h1 := place_take x h
  have h2 := place_rng l x
  have h3 : placeL l x ≤ placeL (l.take (k + 1)) x := by
    unfold placeL
    conv => lhs; rw [← List.take_append_drop (k + 1) l, List.foldl_append]
    exact place_le _ x _
  have h4 : sgnI (turnP l[k].1 l[k].2 x) = -1 := by unfold sgnI; rw [if_neg (by omega), if_pos ht]
  rw [h4] at h1
  omega
end Go.Proofs.Ytckpifcdlmfabaa
