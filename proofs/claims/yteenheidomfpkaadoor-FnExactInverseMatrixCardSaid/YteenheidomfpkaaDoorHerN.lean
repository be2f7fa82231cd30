/- The Hermite form: what holds at each pair of rows. -/
import Derived.Test.YteenheidomfpkaaDoorHerM
namespace Go.Proofs.YteenheidomfpkaaDoor

theorem neg_getD {c i : Nat} {z : List (List Int)} (h : i ≠ c) : (negH c z).getD i [] = z.getD i [] := by
  unfold negH
  split
  · simp only [List.getD_eq_getElem?_getD]
    rw [List.getElem?_set_ne (fun e => h e.symm)]
  · rfl
theorem herm_pair {m : List (List Int)} (h3 : m.length ≤ 3) (hsq : Sq m.length 100 m) (hd : detL m ≠ 0) {c j : Nat} (hj : c + 1 + j < m.length) :
    ∃ A : Int, Eu c m.length 80400000000 A ((pairsH c (hermS m c) j).getD c []) ((pairsH c (hermS m c) j).getD (c + 1 + j) []) := by
  have up : ∀ {c n : Nat} {K A : Int} {u v : List Int}, K ≤ 80400000000 → Eu c n K A u v → Eu c n 80400000000 A u v := by
    intro c n K A u v hK h
    obtain ⟨h1, h2, ⟨X, Y, hX, hY, hu, hv, hs, hXK, hYK⟩, ha, hb⟩ := h
    exact ⟨h1, h2, ⟨X, Y, hX, hY, hu, hv, by omega, by omega, by omega⟩, ha, hb⟩
  by_cases e2 : m.length = 2
  · obtain ⟨a, b, rfl⟩ := list2 e2
    obtain ⟨rfl, rfl⟩ : c = 0 ∧ j = 0 := by omega
    exact ⟨100, up (by omega) (herm2 hsq hd).1⟩
  · obtain ⟨a, b, z, rfl⟩ := list3 (show m.length = 3 by omega)
    have H := herm3 hsq hd
    simp only [List.length_cons, List.length_nil] at hj
    by_cases hc : c = 0
    · subst hc
      by_cases hj0 : j = 0
      · subst hj0
        exact ⟨100, up (by omega) H.1⟩
      · obtain rfl : j = 1 := by omega
        exact ⟨100, up (by omega) H.2.1⟩
    · obtain ⟨rfl, rfl⟩ : c = 1 ∧ j = 0 := by omega
      refine ⟨2010000, ?_⟩
      have e1 : (pairsH 1 (hermS [a, b, z] 1) 0).getD 1 [] = (eucl 0 a b).2 := by
        show (negH 0 _).getD 1 [] = _
        rw [neg_getD (by omega)]
        rfl
      have e2 : (pairsH 1 (hermS [a, b, z] 1) 0).getD (1 + 1 + 0) [] = (eucl 0 (eucl 0 a b).1 z).2 := by
        show (negH 0 _).getD 2 [] = _
        rw [neg_getD (by omega)]
        rfl
      rw [e1, e2]
      exact H.2.2.1
end Go.Proofs.YteenheidomfpkaaDoor
