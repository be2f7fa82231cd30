/- A matrix laid into three rows of three numbers: determinants, products, inverses, Hermite's form. -/
import Derived.Test.YteenheidomfpkaaDoorHerN
import Derived.Test.YteenheidomfpkaaDoorMatInv
namespace Go.Proofs.YteenheidomfpkaaDoor

/-- The places beyond the size are those of the unit matrix. -/
def padM : List (List Int) → List (List Int)
  | [[a]] => [[a, 0, 0], [0, 1, 0], [0, 0, 1]]
  | [[a, b], [c, d]] => [[a, b, 0], [c, d, 0], [0, 0, 1]]
  | m => m
def cutM (n : Nat) (x : List (List Int)) : List (List Int) := (x.take n).map (·.take n)
theorem sq_cases {n : Nat} {b : Int} {m : List (List Int)} (h1 : 1 ≤ n) (h3 : n ≤ 3) (h : Sq n b m) :
    (n = 1 ∧ ∃ x, m = [[x]]) ∨ (n = 2 ∧ ∃ x y z u, m = [[x, y], [z, u]]) ∨ (n = 3 ∧ ∃ x y z x' y' z' x'' y'' z'', m = [[x, y, z], [x', y', z'], [x'', y'', z'']]) := by
  by_cases e1 : n = 1
  · subst e1; obtain ⟨x, rfl, _⟩ := sq1 h; exact .inl ⟨rfl, x, rfl⟩
  · by_cases e2 : n = 2
    · subst e2; obtain ⟨x, y, z, u, rfl, _⟩ := sq2 h; exact .inr (.inl ⟨rfl, x, y, z, u, rfl⟩)
    · obtain rfl : n = 3 := by omega
      obtain ⟨x, y, z, x', y', z', x'', y'', z'', rfl, _⟩ := sq3 h
      exact .inr (.inr ⟨rfl, x, y, z, x', y', z', x'', y'', z'', rfl⟩)
theorem pad_det {n : Nat} {b : Int} {m : List (List Int)} (h1 : 1 ≤ n) (h3 : n ≤ 3) (h : Sq n b m) : detL (padM m) = detL m := by
  rcases sq_cases h1 h3 h with ⟨_, x, rfl⟩ | ⟨_, x, y, z, u, rfl⟩ | ⟨_, x, y, z, x', y', z', x'', y'', z'', rfl⟩
  · simp [padM, detL]
  · simp [padM, detL]; grind
  · rfl
theorem cut_pad {n : Nat} {b : Int} {m : List (List Int)} (h1 : 1 ≤ n) (h3 : n ≤ 3) (h : Sq n b m) : cutM n (padM m) = m := by
  rcases sq_cases h1 h3 h with ⟨rfl, x, rfl⟩ | ⟨rfl, x, y, z, u, rfl⟩ | ⟨rfl, x, y, z, x', y', z', x'', y'', z'', rfl⟩ <;> rfl
theorem bd3 {x y z b : Int} (hx : -b ≤ x ∧ x ≤ b) (hy : -b ≤ y ∧ y ≤ b) (hz : -b ≤ z ∧ z ≤ b) : Bd [x, y, z] b := by
  intro k hk
  match k, hk with
  | 0, _ => exact hx
  | 1, _ => exact hy
  | 2, _ => exact hz
theorem sq3_mk {b x y z x' y' z' x'' y'' z'' : Int} (h1 : Bd [x, y, z] b) (h2 : Bd [x', y', z'] b) (h3 : Bd [x'', y'', z''] b) : Sq 3 b [[x, y, z], [x', y', z'], [x'', y'', z'']] := by
  refine ⟨rfl, fun i hi => ?_⟩
  match i, hi with
  | 0, _ => exact ⟨rfl, h1⟩
  | 1, _ => exact ⟨rfl, h2⟩
  | 2, _ => exact ⟨rfl, h3⟩
theorem pad_sq {n : Nat} {b : Int} {m : List (List Int)} (hb : 1 ≤ b) (h1 : 1 ≤ n) (h3 : n ≤ 3) (h : Sq n b m) : Sq 3 b (padM m) := by
  by_cases e1 : n = 1
  · subst e1; obtain ⟨x, rfl, hx⟩ := sq1 h
    exact sq3_mk (bd3 hx (by omega) (by omega)) (bd3 (by omega) (by omega) (by omega)) (bd3 (by omega) (by omega) (by omega))
  · by_cases e2 : n = 2
    · subst e2; obtain ⟨x, y, z, u, rfl, hx, hy, hz, hu⟩ := sq2 h
      exact sq3_mk (bd3 hx hy (by omega)) (bd3 hz hu (by omega)) (bd3 (by omega) (by omega) (by omega))
    · obtain rfl : n = 3 := by omega
      obtain ⟨x, y, z, x', y', z', x'', y'', z'', rfl, _⟩ := sq3 h
      exact h

/-- The product, as the program reckons it. -/
def mulG : List (List Int) → List (List Int) → List (List Int)
  | [[a, b, c], [d, e, f], [g, h, i]], [[a', b', c'], [d', e', f'], [g', h', i']] =>
    [[a * a' + b * d' + c * g', a * b' + b * e' + c * h', a * c' + b * f' + c * i'],
     [d * a' + e * d' + f * g', d * b' + e * e' + f * h', d * c' + e * f' + f * i'],
     [g * a' + h * d' + i * g', g * b' + h * e' + i * h', g * c' + h * f' + i * i']]
  | _, _ => []
theorem mul_cut {n : Nat} {b : Int} {m k : List (List Int)} (h1 : 1 ≤ n) (h3 : n ≤ 3) (h : Sq n b m) (h' : Sq n b k) : cutM n (mulG (padM m) (padM k)) = timesL m k := by
  by_cases e1 : n = 1
  · subst e1; obtain ⟨x, rfl, hx⟩ := sq1 h; obtain ⟨y, rfl, hy⟩ := sq1 h'
    simp [mulG, padM, cutM, timesL, turnL, applyL, colL, dotL, List.range, List.range.loop]
    grind
  · by_cases e2 : n = 2
    · subst e2; obtain ⟨x, y, z, u, rfl, _⟩ := sq2 h; obtain ⟨x', y', z', u', rfl, _⟩ := sq2 h'
      simp [mulG, padM, cutM, timesL, turnL, applyL, colL, dotL, List.range, List.range.loop]
      grind
    · obtain rfl : n = 3 := by omega
      obtain ⟨a, b, c, d, e, f, g, h, i, rfl, _⟩ := sq3 h
      obtain ⟨a', b', c', d', e', f', g', h', i', rfl, _⟩ := sq3 h'
      simp [mulG, padM, cutM, timesL, turnL, applyL, colL, dotL, List.range, List.range.loop]
      grind
end Go.Proofs.YteenheidomfpkaaDoor
