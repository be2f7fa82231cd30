/- Plain facts: the least point is among the region's points and has the least product. -/
import Derived.Test.YtmogncpkdkdodaaMar
import Derived.Test.YtmogncpkdkdodaaMal
namespace Go.Proofs.Ytmogncpkdkdodaa

theorem bestF_le (f : List Int → Int) : ∀ (l : List (List Int)) (b : List Int), f (bestF f b l) ≤ f b ∧ ∀ p, p ∈ l → f (bestF f b l) ≤ f p
  | [], b => ⟨Int.le_refl _, fun _ h => by cases h⟩
  | y :: l, b => by
    simp only [bestF]
    by_cases c : f y < f b
    · rw [if_pos c]
      obtain ⟨h1, h2⟩ := bestF_le f l y
      refine ⟨by omega, fun p hp => ?_⟩
      rcases List.mem_cons.1 hp with rfl | hp
      · exact h1
      · exact h2 p hp
    · rw [if_neg c]
      obtain ⟨h1, h2⟩ := bestF_le f l b
      refine ⟨h1, fun p hp => ?_⟩
      rcases List.mem_cons.1 hp with rfl | hp
      · omega
      · exact h2 p hp
theorem firstD_le (f : List Int → Int) (d : List Int) {l : List (List Int)} {p : List Int} (hp : p ∈ l) : f (firstD f d l) ≤ f p := by
  cases l with
  | nil => cases hp
  | cons y l =>
    obtain ⟨h1, h2⟩ := bestF_le f l y
    rcases List.mem_cons.1 hp with rfl | hp
    · exact h1
    · exact h2 p hp
theorem axis_in {x : Int} (h : x ∈ axis 6) : -6 ≤ x ∧ x ≤ 6 := by
  unfold axis at h
  obtain ⟨i, hi, rfl⟩ := List.mem_map.1 h
  rw [List.mem_range] at hi
  omega
theorem boxP_in : ∀ (n : Nat) (p : List Int), p ∈ boxP (axis 6) n → ∀ x, x ∈ p → -6 ≤ x ∧ x ≤ 6
  | 0, p, h => by simp [boxP] at h; subst h; exact fun x hx => by cases hx
  | n + 1, p, h => by
    unfold boxP at h
    obtain ⟨q, hq, h⟩ := List.mem_flatMap.1 h
    obtain ⟨y, hy, rfl⟩ := List.mem_map.1 h
    intro x hx
    rcases List.mem_append.1 hx with hx | hx
    · exact boxP_in n q hq x hx
    · rw [List.mem_singleton] at hx
      subst hx
      exact axis_in hy
theorem pts_has {n : Int} {hs : List Hf} {p : List Int} (hr : regOk n hs = true) (hp : p ∈ ptsL n hs) : p.length = n.toNat ∧ Bd p 6 ∧ hasP n hs p = true := by
  obtain ⟨h1, h2⟩ := List.mem_filter.1 hp
  have hl := boxP_lens (axis 6) _ p h1
  have hb : Bd p 6 := fun i hi => by
    have := boxP_in _ p h1 p[i] (List.getElem_mem hi)
    omega
  have R := regOk_t hr
  refine ⟨hl, hb, ?_⟩
  have hv : isV p = true := by
    rw [isV_mk (by have := R.1; omega) (by have := R.2.1; omega)]
    exact small_mk fun i hi => by have := hb i hi; omega
  unfold hasP
  rw [hr, hv, decide_eq_true (show (p.length : Int) = n by have := R.1; omega), h2]
  rfl
/-- What a least point is. -/
theorem least_is {s n : Int} {hs : List Hf} {a : List Int} (h : (leastR s n hs a).2 = true) : ptR (n, hs) a = true ∧ (leastR s n hs a).1 ∈ ptsL n hs ∧ ∀ p, p ∈ ptsL n hs → s * dotL a (leastR s n hs a).1 ≤ s * dotL a p := by
  unfold leastR at h ⊢
  split at h
  · rename_i c
    rw [if_pos c]
    exact ⟨c.1, firstD_mem _ _ c.2, fun p hp => firstD_le (fun p => s * dotL a p) [] hp⟩
  · cases h
theorem least_both {n : Int} {hs : List Hf} {a : List Int} : (leastR (-1) n hs a).2 = (leastR 1 n hs a).2 := by
  unfold leastR
  split <;> rfl
theorem dotL_comm : ∀ (a b : List Int), dotL a b = dotL b a
  | [], b => by simp [dotL]
  | _ :: _, [] => by simp [dotL]
  | x :: a, y :: b => by
    have ih := dotL_comm a b
    simp only [dotL, List.zipWith_cons_cons, List.sum_cons] at ih ⊢
    rw [ih, Int.mul_comm]
/-- The least one's product is not above the most one's. -/
theorem least_most {n : Int} {hs : List Hf} {a : List Int} (h : (leastR 1 n hs a).2 = true) : dotL (leastR 1 n hs a).1 a ≤ dotL (leastR (-1) n hs a).1 a := by
  obtain ⟨_, _, h1⟩ := least_is h
  obtain ⟨_, h2, _⟩ := least_is (s := -1) (by rw [least_both]; exact h)
  have := h1 _ h2
  rw [dotL_comm _ a, dotL_comm _ a]
  omega
end Go.Proofs.Ytmogncpkdkdodaa
