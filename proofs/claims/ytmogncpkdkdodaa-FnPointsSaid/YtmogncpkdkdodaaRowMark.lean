/- The laws' marks on slices of slices of integers. -/
import Derived.Test.YtmogncpkdkdodaaMad
import Derived.Test.YtmogncpkdkdodaaMac
namespace Go.Proofs.Ytmogncpkdkdodaa
open Go.RowKit Go.Lib

/-- How far the marks have come: the first j rows bear them. -/
def marked (k j : Nat) (zss : List (List Int)) : List (List Int) := (rmarks k zss).take j ++ zss.drop j
theorem marked_len (k j : Nat) (zss : List (List Int)) : (marked k j zss).length = zss.length := by unfold marked; rw [List.length_append, List.length_take, List.length_drop, rmarks_len]; omega
theorem marked_zero (k : Nat) (zss : List (List Int)) : marked k 0 zss = zss := by simp [marked]
theorem marked_all (k : Nat) (zss : List (List Int)) : marked k zss.length zss = rmarks k zss := by unfold marked; rw [List.drop_length, List.append_nil, List.take_of_length_le (by rw [rmarks_len]; exact Nat.le_refl _)]
theorem marked_get (k j i : Nat) (zss : List (List Int)) : (marked k j zss)[i]? = if i < j then (rmarks k zss)[i]? else zss[i]? := by
  unfold marked
  by_cases h : i < j
  · rw [if_pos h]
    by_cases h2 : i < zss.length
    · rw [List.getElem?_append_left (by rw [List.length_take, rmarks_len]; omega), List.getElem?_take_of_lt h]
    · rw [List.getElem?_eq_none (by rw [List.length_append, List.length_take, List.length_drop, rmarks_len]; omega), List.getElem?_eq_none (by rw [rmarks_len]; omega)]
  · rw [if_neg h]
    by_cases h2 : j ≤ zss.length
    · rw [List.getElem?_append_right (by rw [List.length_take, rmarks_len]; omega), List.length_take, rmarks_len, List.getElem?_drop]
      congr 1; omega
    · rw [List.getElem?_eq_none (by rw [List.length_append, List.length_take, List.length_drop, rmarks_len]; omega), List.getElem?_eq_none (by omega)]
theorem marked_step (k j : Nat) (zss : List (List Int)) (h : j < zss.length) : (marked k j zss).set j (imarks (k + tot (zss.take j)) zss[j].length) = marked k (j + 1) zss := by
  refine List.ext_getElem? fun i => ?_
  rw [get_set _ _ _ _ (by rw [marked_len]; exact h), marked_get, marked_get]
  by_cases hij : i = j
  · subst hij
    rw [if_pos rfl, if_pos (Nat.lt_succ_self _), rmarks_get k zss i h]; rfl
  · rw [if_neg hij]
    by_cases hlt : i < j
    · rw [if_pos hlt, if_pos (by omega)]
    · rw [if_neg hlt, if_neg (by omega)]
theorem marked_at (k j : Nat) (zss : List (List Int)) (h : j < zss.length) : (marked k j zss)[j]'(by rw [marked_len]; exact h) = zss[j] := by
  have h1 : (marked k j zss)[j]? = zss[j]? := by rw [marked_get, if_neg (Nat.lt_irrefl _)]
  rw [List.getElem?_eq_getElem (by rw [marked_len]; exact h), List.getElem?_eq_getElem h] at h1
  exact Option.some.inj h1

/-- markIntS on a row, whatever lies beside it. -/
theorem mark_row (zs : List Int) (lo hi k n : Nat) (v : Value) (w : World) (hk : 1 ≤ k) (hn : k + zs.length = n) (hb : n ≤ 4611686018427387904) (how : OwnV 3 lo hi w v (intVals zs)) :
    Calls Try.prog 91 #[v, .int .i64 k] w fun e w' => e = .returned (.int .i64 n) ∧ OwnV 3 lo hi w' v (intVals (imarks k zs.length)) ∧ (∀ g, (∀ b, v.ownBlock = some b → b = g) → Kept g (g + 1) w w') ∧ Kept lo hi w w' := by
  rcases how with ⟨h0, rfl⟩ | ⟨g, cap, cur, rfl, h1, h2, hr⟩
  · have h0 : zs = [] := by simpa [intVals] using h0
    subst h0
    simp only [List.length_nil, Nat.add_zero] at hn
    subst hn
    exact (mark_int_none k w hk).mono fun e w' ⟨he, hw⟩ => by subst hw; exact ⟨he, .inl ⟨rfl, rfl⟩, fun g _ => Kept.refl _ _ _, Kept.refl _ _ _⟩
  · have ho : OwnV 3 g (g + 1) w (.slice (some ⟨g, 0, none⟩) (intVals zs).length cap) (intVals zs) := .inr ⟨g, cap, cur, rfl, Nat.le_refl _, Nat.lt_succ_self _, hr⟩
    refine (mark_int zs g (g + 1) k n _ w hk hn hb ho).mono fun e w' ⟨he, hm, hkk⟩ => ⟨he, hm.mono h1 h2, fun b hb => ?_, hkk.mono h1 h2⟩
    obtain rfl := hb g rfl
    exact hkk

end Go.Proofs.Ytmogncpkdkdodaa
