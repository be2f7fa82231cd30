/- The Hermite form of a matrix that is laid into three rows of three numbers. -/
import Derived.Test.YteenheidomfpkaaGrdM
namespace Go.Proofs.Yteenheidomfpkaa

theorem pair_id {c r : Nat} {z : List (List Int)} (hc : c < z.length) (hr : r < z.length) (h : colA c (z.getD r []) = 0) : pairH c r z = z := by
  have e : ∀ (l : List (List Int)) (k : Nat), k < l.length → l.set k (l.getD k []) = l := fun l k hk => by
    rw [List.getD_eq_getElem?_getD, List.getElem?_eq_getElem hk]
    exact List.set_getElem_self hk
  unfold pairH
  rw [eucl_end h]
  show (z.set c (z.getD c [])).set r (z.getD r []) = z
  rw [e z c hc, e z r hr]
theorem neg_id {c : Nat} {z : List (List Int)} (h : ¬ colA c (z.getD c []) < 0) : negH c z = z := by unfold negH; rw [if_neg h]
theorem less_zero {u v : List Int} (h : u.length = v.length) : lessL u (scaleL v 0) = u := by
  apply List.ext_getElem
  · rw [lessL_len (by simp [scaleL, h])]
  · intro k h1 h2
    simp [lessL, scaleL]
theorem red_id {c r : Nat} {z : List (List Int)} (hr : r < z.length) (hl : (z.getD r []).length = (z.getD c []).length) (h : colA c (z.getD r []) = 0) : redH c r z = z := by
  unfold redH
  rw [h, Int.zero_ediv, less_zero hl]
  rw [List.getD_eq_getElem?_getD, List.getElem?_eq_getElem hr]
  exact List.set_getElem_self hr
theorem eucl_pad {c : Nat} (hc : c < 2) : ∀ (k : Nat) {u v : List Int}, (colA c v).natAbs ≤ k → u.length = 2 → v.length = 2 →
    eucl c (u ++ [0]) (v ++ [0]) = ((eucl c u v).1 ++ [0], (eucl c u v).2 ++ [0]) ∧ (eucl c u v).1.length = 2 ∧ (eucl c u v).2.length = 2 := by
  have ca : ∀ l : List Int, l.length = 2 → colA c (l ++ [0]) = colA c l := fun l hl => by
    rw [colA_get (by rw [List.length_append]; omega), colA_get (by omega), List.getElem_append_left (by omega)]
  intro k
  induction k with
  | zero =>
    intro u v hk hu hv
    have h0 : colA c v = 0 := by omega
    rw [eucl_end h0, eucl_end (by rw [ca v hv]; exact h0)]
    exact ⟨rfl, hu, hv⟩
  | succ k ih =>
    intro u v hk hu hv
    by_cases h0 : colA c v = 0
    · rw [eucl_end h0, eucl_end (by rw [ca v hv]; exact h0)]
      exact ⟨rfl, hu, hv⟩
    · have hl : u.length = v.length := hu.trans hv.symm
      have hn : nextR c (u ++ [0]) (v ++ [0]) = nextR c u v ++ [0] := by
        unfold nextR
        rw [ca u hu, ca v hv]
        obtain ⟨a, b, rfl⟩ := list2 hu
        obtain ⟨x, y, rfl⟩ := list2 hv
        simp [lessL, scaleL]
      rw [eucl_step hl h0, eucl_step (by simp [hl]) (by rw [ca v hv]; exact h0), hn]
      refine ih ?_ hv (by rw [nextR_len hl, hu])
      rw [nextR_col hl, Int.natAbs_tmod]
      have := Nat.mod_lt (colA c u).natAbs (show 0 < (colA c v).natAbs by omega)
      omega
theorem neg_two (c : Nat) (hc : c < 2) (p q r s : Int) : (∃ p' q' r' s', negH c [[p, q], [r, s]] = [[p', q'], [r', s']]) ∧ negH c (padM [[p, q], [r, s]]) = padM (negH c [[p, q], [r, s]]) := by
  match c, hc with
  | 0, _ =>
    by_cases h : p < 0
    · have e : negH 0 [[p, q], [r, s]] = [[p * -1, q * -1], [r, s]] := by simp [negH, colA, scaleL, h]
      rw [e]
      exact ⟨⟨_, _, _, _, rfl⟩, by simp [negH, padM, colA, scaleL, h]⟩
    · have e : negH 0 [[p, q], [r, s]] = [[p, q], [r, s]] := by simp [negH, colA, h]
      rw [e]
      exact ⟨⟨_, _, _, _, rfl⟩, by simp [negH, padM, colA, h]⟩
  | 1, _ =>
    by_cases h : s < 0
    · have e : negH 1 [[p, q], [r, s]] = [[p, q], [r * -1, s * -1]] := by simp [negH, colA, scaleL, h]
      rw [e]
      exact ⟨⟨_, _, _, _, rfl⟩, by simp [negH, padM, colA, scaleL, h]⟩
    · have e : negH 1 [[p, q], [r, s]] = [[p, q], [r, s]] := by simp [negH, colA, h]
      rw [e]
      exact ⟨⟨_, _, _, _, rfl⟩, by simp [negH, padM, colA, h]⟩
theorem red_two (p q r s : Int) : (∃ p' q' r' s', redH 1 0 [[p, q], [r, s]] = [[p', q'], [r', s']]) ∧ redH 1 0 (padM [[p, q], [r, s]]) = padM (redH 1 0 [[p, q], [r, s]]) := by
  constructor
  · exact ⟨_, _, _, _, rfl⟩
  · simp [redH, padM, lessL, scaleL, colA]
theorem herm_pad2 {n : Nat} {b : Int} {m : List (List Int)} (h1 : 1 ≤ n) (h3 : n ≤ 3) (h : Sq n b m) : hermL (padM m) = padM (hermL m) ∧ ((n = 1 ∧ ∃ y, hermL m = [[y]]) ∨ (n = 2 ∧ ∃ p q r s, hermL m = [[p, q], [r, s]]) ∨ (n = 3 ∧ (hermL m).length = 3)) := by
  rcases sq_cases h1 h3 h with ⟨rfl, x, rfl⟩ | ⟨rfl, x, y, z, u, rfl⟩ | ⟨rfl, a, b, c, d, e, f, g, t, i, rfl⟩
  · have p0 : pairsH 0 (padM [[x]]) 2 = padM [[x]] := by
      show pairH 0 2 (pairH 0 1 (padM [[x]])) = _
      rw [pair_id (c := 0) (r := 1) (by simp [padM]) (by simp [padM]) (by simp [padM, colA]), pair_id (by simp [padM]) (by simp [padM]) (by simp [padM, colA])]
    have key : ∀ y : Int, hermS (padM [[y]]) 0 = padM [[y]] ∧ redsH 1 (negH 1 (pairsH 1 (padM [[y]]) 1)) 1 = padM [[y]] ∧ redsH 2 (negH 2 (pairsH 2 (padM [[y]]) 0)) 2 = padM [[y]] := fun y => by
      refine ⟨rfl, ?_, ?_⟩
      · show redH 1 0 (negH 1 (pairH 1 2 (padM [[y]]))) = _
        rw [pair_id (by simp [padM]) (by simp [padM]) (by simp [padM, colA]), neg_id (by simp [padM, colA]), red_id (by simp [padM]) (by simp [padM]) (by simp [padM, colA])]
      · show redH 2 1 (redH 2 0 (negH 2 (padM [[y]]))) = _
        rw [neg_id (by simp [padM, colA]), red_id (c := 2) (r := 0) (by simp [padM]) (by simp [padM]) (by simp [padM, colA]), red_id (by simp [padM]) (by simp [padM]) (by simp [padM, colA])]
    have n0 : ∃ y, negH 0 [[x]] = [[y]] ∧ negH 0 (padM [[x]]) = padM [[y]] := by
      by_cases hx : x < 0
      · exact ⟨x * -1, by simp [negH, colA, scaleL, hx], by simp [negH, padM, colA, scaleL, hx]⟩
      · exact ⟨x, by simp [negH, colA, hx], by simp [negH, padM, colA, hx]⟩
    obtain ⟨y, hy1, hy2⟩ := n0
    have e1 : hermL [[x]] = [[y]] := hy1
    have s1 : hermS (padM [[x]]) 1 = padM [[y]] := by
      show negH 0 (pairsH 0 (padM [[x]]) 2) = _
      rw [p0, hy2]
    have s2 : hermS (padM [[x]]) 2 = padM [[y]] := by
      show redsH 1 (negH 1 (pairsH 1 (hermS (padM [[x]]) 1) 1)) 1 = _
      rw [s1, (key y).2.1]
    refine ⟨?_, .inl ⟨rfl, y, e1⟩⟩
    show redsH 2 (negH 2 (pairsH 2 (hermS (padM [[x]]) 2) 0)) 2 = _
    rw [s2, (key y).2.2, e1]
  · obtain ⟨hE, l1, l2⟩ := eucl_pad (c := 0) (by omega) _ (Nat.le_refl _) (u := [x, y]) (v := [z, u]) rfl rfl
    obtain ⟨p, q, e1⟩ := list2 l1
    obtain ⟨r, s, e2⟩ := list2 l2
    have hp1 : pairsH 0 [[x, y], [z, u]] 1 = [[p, q], [r, s]] := by
      show [(eucl 0 [x, y] [z, u]).1, (eucl 0 [x, y] [z, u]).2] = _
      rw [e1, e2]
    have hp2 : pairsH 0 (padM [[x, y], [z, u]]) 2 = padM [[p, q], [r, s]] := by
      have k : pairH 0 1 (padM [[x, y], [z, u]]) = padM [[p, q], [r, s]] := by
        show [(eucl 0 ([x, y] ++ [0]) ([z, u] ++ [0])).1, (eucl 0 ([x, y] ++ [0]) ([z, u] ++ [0])).2, [0, 0, 1]] = _
        rw [hE, e1, e2]; rfl
      show pairH 0 2 (pairH 0 1 (padM [[x, y], [z, u]])) = _
      rw [k, pair_id (by simp [padM]) (by simp [padM]) (by simp [padM, colA])]
    obtain ⟨⟨p1, q1, r1, s1, hn⟩, hn2⟩ := neg_two 0 (by omega) p q r s
    obtain ⟨⟨p2, q2, r2, s2, hm⟩, hm2⟩ := neg_two 1 (by omega) p1 q1 r1 s1
    obtain ⟨⟨p3, q3, r3, s3, hk⟩, hk2⟩ := red_two p2 q2 r2 s2
    have t1 : hermL [[x, y], [z, u]] = [[p3, q3], [r3, s3]] := by
      show redH 1 0 (negH 1 (negH 0 (pairsH 0 [[x, y], [z, u]] 1))) = _
      rw [hp1, hn, hm, hk]
    have u1 : hermS (padM [[x, y], [z, u]]) 1 = padM [[p1, q1], [r1, s1]] := by
      show negH 0 (pairsH 0 (padM [[x, y], [z, u]]) 2) = _
      rw [hp2, hn2, hn]
    have u2 : hermS (padM [[x, y], [z, u]]) 2 = padM [[p3, q3], [r3, s3]] := by
      show redH 1 0 (negH 1 (pairH 1 2 (hermS (padM [[x, y], [z, u]]) 1))) = _
      rw [u1, pair_id (by simp [padM]) (by simp [padM]) (by simp [padM, colA]), hm2, hm, hk2, hk]
    refine ⟨?_, .inr (.inl ⟨rfl, _, _, _, _, t1⟩)⟩
    show redH 2 1 (redH 2 0 (negH 2 (hermS (padM [[x, y], [z, u]]) 2))) = _
    rw [u2, neg_id (by simp [padM, colA]), red_id (c := 2) (r := 0) (by simp [padM]) (by simp [padM]) (by simp [padM, colA]), red_id (by simp [padM]) (by simp [padM]) (by simp [padM, colA]), t1]
  · have hpm : ∀ l : List (List Int), l.length = 3 → padM l = l := fun l hl => by
      unfold padM
      split <;> simp_all
    have hlen : ∀ (m : List (List Int)) (c : Nat), (hermS m c).length = m.length := by
      have a1 : ∀ (c r : Nat) (z : List (List Int)), (pairH c r z).length = z.length := fun c r z => by simp [pairH]
      have a2 : ∀ (c : Nat) (z : List (List Int)) (j : Nat), (pairsH c z j).length = z.length := fun c z j => by
        induction j with
        | zero => rfl
        | succ j ih => show (pairH _ _ _).length = _; rw [a1, ih]
      have a3 : ∀ (c : Nat) (z : List (List Int)), (negH c z).length = z.length := fun c z => by unfold negH; split <;> simp
      have a4 : ∀ (c : Nat) (z : List (List Int)) (j : Nat), (redsH c z j).length = z.length := fun c z j => by
        induction j with
        | zero => rfl
        | succ j ih => show (redH _ _ _).length = _; unfold redH; rw [List.length_set, ih]
      intro m c
      induction c with
      | zero => rfl
      | succ c ih => show (redsH _ _ _).length = _; rw [a4, a3, a2, ih]
    have h3l : (hermL [[a, b, c], [d, e, f], [g, t, i]]).length = 3 := by unfold hermL; rw [hlen]; rfl
    refine ⟨?_, .inr (.inr ⟨rfl, h3l⟩)⟩
    rw [hpm (hermL _) h3l]
    rfl
theorem herm_pad {n : Nat} {b : Int} {m : List (List Int)} (h1 : 1 ≤ n) (h3 : n ≤ 3) (h : Sq n b m) : hermL (padM m) = padM (hermL m) := (herm_pad2 h1 h3 h).1
theorem herm_cut {n : Nat} {b a0 a1 a2 a3 a4 a5 a6 a7 a8 : Int} {m : List (List Int)} (h1 : 1 ≤ n) (h3 : n ≤ 3) (h : Sq n b m) (he : padM (hermL m) = [[a0, a1, a2], [a3, a4, a5], [a6, a7, a8]]) : cutM n [[a0, a1, a2], [a3, a4, a5], [a6, a7, a8]] = hermL m := by
  rcases (herm_pad2 h1 h3 h).2 with ⟨rfl, y, e⟩ | ⟨rfl, p, q, r, s, e⟩ | ⟨rfl, e⟩
  · rw [e] at he ⊢
    simp only [padM, List.cons.injEq, and_true] at he
    obtain ⟨⟨rfl, rfl, rfl⟩, _⟩ := he
    rfl
  · rw [e] at he ⊢
    simp only [padM, List.cons.injEq, and_true] at he
    obtain ⟨⟨rfl, rfl, rfl⟩, ⟨rfl, rfl, rfl⟩, _⟩ := he
    rfl
  · have hp : padM (hermL m) = hermL m := by
      generalize hermL m = l at e
      unfold padM
      split <;> simp_all
    rw [hp] at he
    rw [he]
    rfl
end Go.Proofs.Yteenheidomfpkaa
