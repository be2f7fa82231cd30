/- The Hermite form: what holds when a pivot is made positive and when the rows above it are reduced. -/
import Derived.Test.YteenheidomfpkaaHerN
namespace Go.Proofs.Yteenheidomfpkaa

def negr (c : Nat) (u : List Int) : List Int := if colA c u < 0 then scaleL u (-1) else u
theorem colA_scale (c : Nat) (u : List Int) (q : Int) : colA c (scaleL u q) = colA c u * q := by
  by_cases hc : c < u.length
  · rw [colA_get (by simpa [scaleL] using hc), colA_get hc]; simp [scaleL]
  · rw [colA_out (by simp [scaleL]; omega), colA_out (by omega)]; simp
theorem negr_len (c : Nat) (u : List Int) : (negr c u).length = u.length := by unfold negr; split <;> simp [scaleL]
theorem negr_bd {c : Nat} {u : List Int} {b : Int} (h : Bd u b) : Bd (negr c u) b := by
  unfold negr
  split
  · intro k hk
    have hk' : k < u.length := by simpa [scaleL] using hk
    have h2 := h k hk'
    have e : (scaleL u (-1))[k] = u[k] * -1 := by simp [scaleL]
    rw [e]; omega
  · exact h
theorem negr_pos {c : Nat} {u : List Int} (h : colA c u ≠ 0) : 0 < colA c (negr c u) := by
  unfold negr
  split
  · rw [colA_scale]; omega
  · omega
theorem negr_zero {c d : Nat} {u : List Int} (h : colA d u = 0) : colA d (negr c u) = 0 := by
  unfold negr
  split
  · rw [colA_scale, h]; simp
  · exact h
theorem negH_eq (c : Nat) (z : List (List Int)) (hc : c < z.length) : negH c z = z.set c (negr c (z.getD c [])) := by
  unfold negH negr
  split
  · rfl
  · rw [List.getD_eq_getElem?_getD, List.getElem?_eq_getElem hc]
    exact (List.set_getElem_self hc).symm
theorem floor_bd {x d X : Int} (hd : 0 < d) (h1 : -X ≤ x) (h2 : x ≤ X) : -X ≤ x / d ∧ x / d ≤ X := by
  have hX : 0 ≤ X := by omega
  constructor
  · refine (Int.le_ediv_iff_mul_le hd).2 ?_
    have := Int.mul_le_mul_of_nonneg_left (show 1 ≤ d by omega) hX
    have e : -X * d = -(X * d) := by rw [Int.neg_mul]
    omega
  · have h3 := Int.mul_ediv_add_emod x d
    have h4 := Int.emod_nonneg x (show d ≠ 0 by omega)
    by_cases hq : x / d ≤ 0
    · omega
    · have h5 := Int.mul_le_mul_of_nonneg_right (show 1 ≤ d by omega) (show 0 ≤ x / d by omega)
      omega
theorem colA_le {c : Nat} {u : List Int} {b : Int} (hb : 0 ≤ b) (h : Bd u b) : -b ≤ colA c u ∧ colA c u ≤ b := by
  have := col_bd (c := c) hb h
  omega
theorem scale_bd {u : List Int} {b q Q : Int} (_hb : 0 ≤ b) (_hQ : 0 ≤ Q) (h : Bd u b) (h1 : -Q ≤ q) (h2 : q ≤ Q) : Bd (scaleL u q) (b * Q) := by
  intro k hk
  have hk' : k < u.length := by simpa [scaleL] using hk
  have h3 := h k hk'
  have e : (scaleL u q)[k] = u[k] * q := by simp [scaleL]
  rw [e]
  exact mul_bd h3.1 h3.2 h1 h2
/-- A row that is 0 but in its last place: its multiple by a floor. -/
theorem last_bd {u : List Int} {x B X : Int} (hl : u.length = 3) (h0 : colA 0 u = 0) (h1 : colA 1 u = 0) (hp : 0 < colA 2 u) (hB : colA 2 u ≤ B) (hx1 : -X ≤ x) (hx2 : x ≤ X) : Bd (scaleL u (x / colA 2 u)) (X + B) := by
  obtain ⟨a, b, d, rfl⟩ := list3 hl
  simp [colA] at h0 h1 hp hB
  subst h0 h1
  have e : colA 2 [0, 0, d] = d := by simp [colA]
  rw [e]
  have h3 := Int.mul_ediv_add_emod x d
  have h4 := Int.emod_nonneg x (show d ≠ 0 by omega)
  have h5 := Int.emod_lt_of_pos x hp
  generalize hq : x / d = q at *
  intro k hk
  match k, (by simpa [scaleL] using hk : k < 3) with
  | 0, _ => simp [scaleL]; omega
  | 1, _ => simp [scaleL]; omega
  | 2, _ => simp [scaleL]; omega
theorem less_bd {u v : List Int} {a b : Int} (h1 : Bd u a) (h2 : Bd v b) : Bd (lessL u v) (a + b) := by
  intro k hk
  have hk2 : k < u.length ∧ k < v.length := by
    have : k < min u.length v.length := by simpa [lessL] using hk
    omega
  have h3 := h1 k hk2.1
  have h4 := h2 k hk2.2
  have e : (lessL u v)[k] = u[k]'hk2.1 - v[k]'hk2.2 := by simp [lessL]
  rw [e]; omega

/-- What a reduction meets: the row r and the pivot's row. -/
def RedOk (n c r : Nat) (z : List (List Int)) : Prop :=
  ∃ a p, z[r]? = some a ∧ z[c]? = some p ∧ a.length = n ∧ p.length = n ∧ 0 < colA c p ∧ Bd a 400000000000000000 ∧ Bd p 400000000000000000 ∧ Bd (scaleL p (colA c a / colA c p)) 400000000000000000
/-- What making a pivot positive meets. -/
def NegOk (n c : Nat) (z : List (List Int)) : Prop := ∃ u, z[c]? = some u ∧ u.length = n ∧ colA c u ≠ 0 ∧ Bd u 400000000000000000

theorem herm_all {m : List (List Int)} (h1 : 1 ≤ m.length) (h3 : m.length ≤ 3) (hsq : Sq m.length 100 m) (hd : detL m ≠ 0) {c : Nat} (hc : c < m.length) :
    NegOk m.length c (pairsH c (hermS m c) (m.length - 1 - c)) ∧ ∀ r, r < c → RedOk m.length c r (redsH c (negH c (pairsH c (hermS m c) (m.length - 1 - c))) r) := by
  by_cases e1 : m.length = 1
  · obtain ⟨a, rfl⟩ := list1 e1
    have hs := hsq.2 0 (by simp)
    simp only [List.getElem_cons_zero] at hs
    obtain ⟨x, rfl⟩ := list1 hs.1
    simp only [List.length_cons, List.length_nil] at hc
    obtain rfl : c = 0 := by omega
    refine ⟨⟨[x], rfl, rfl, ?_, bd_up hs.2 (by omega)⟩, fun r hr => by omega⟩
    simpa [colA, detL] using hd
  · by_cases e2 : m.length = 2
    · obtain ⟨a, b, rfl⟩ := list2 e2
      obtain ⟨E1, P0, P1⟩ := herm2 hsq hd
      obtain ⟨L1, L2, B1, B2, Z2, _⟩ := eucl_bd _ (Nat.le_refl _) E1
      simp only [List.length_cons, List.length_nil] at hc
      have z0 : pairsH 0 (hermS [a, b] 0) 1 = [(eucl 0 a b).1, (eucl 0 a b).2] := rfl
      have z1 : hermS [a, b] 1 = [negr 0 (eucl 0 a b).1, (eucl 0 a b).2] := by
        show negH 0 (pairsH 0 (hermS [a, b] 0) 1) = _
        rw [z0, negH_eq _ _ (by simp)]; rfl
      by_cases hc0 : c = 0
      · subst hc0
        exact ⟨⟨_, rfl, L1, P0, bd_up B1 (by omega)⟩, fun r hr => by omega⟩
      · obtain rfl : c = 1 := by omega
        show NegOk 2 1 (hermS [a, b] 1) ∧ ∀ r, r < 1 → RedOk 2 1 r (redsH 1 (negH 1 (hermS [a, b] 1)) r)
        rw [z1]
        generalize eucl 0 a b = E at *
        refine ⟨⟨_, rfl, L2, P1, bd_up B2 (by omega)⟩, fun r hr => ?_⟩
        obtain rfl : r = 0 := by omega
        rw [negH_eq _ _ (by simp)]
        have c0 := colA_le (c := 1) (by omega) (negr_bd (c := 0) B1)
        have q0 := floor_bd (negr_pos P1) c0.1 c0.2
        exact ⟨negr 0 E.1, negr 1 E.2, rfl, rfl, by rw [negr_len, L1], by rw [negr_len, L2], negr_pos P1, bd_up (negr_bd B1) (by omega), bd_up (negr_bd B2) (by omega), bd_up (scale_bd (by omega) (by omega) (negr_bd B2) q0.1 q0.2) (by omega)⟩
    · obtain ⟨a, b, z, rfl⟩ := list3 (show m.length = 3 by omega)
      obtain ⟨E1, E2, E3, P0, P1, P2, Z10, Z20⟩ := herm3 hsq hd
      obtain ⟨L1, L2, B1, B2, Z2, _⟩ := eucl_bd _ (Nat.le_refl _) E1
      obtain ⟨M1, M2, C1, C2, Y2, _⟩ := eucl_bd _ (Nat.le_refl _) E2
      obtain ⟨N1, N2, D1, D2, X2, _⟩ := eucl_bd _ (Nat.le_refl _) E3
      simp only [List.length_cons, List.length_nil] at hc
      have z0 : pairsH 0 (hermS [a, b, z] 0) 2 = [(eucl 0 (eucl 0 a b).1 z).1, (eucl 0 a b).2, (eucl 0 (eucl 0 a b).1 z).2] := rfl
      have z1 : hermS [a, b, z] 1 = [negr 0 (eucl 0 (eucl 0 a b).1 z).1, (eucl 0 a b).2, (eucl 0 (eucl 0 a b).1 z).2] := by
        show negH 0 (pairsH 0 (hermS [a, b, z] 0) 2) = _
        rw [z0, negH_eq _ _ (by simp)]; rfl
      by_cases hc0 : c = 0
      · subst hc0
        exact ⟨⟨_, rfl, M1, P0, bd_up C1 (by omega)⟩, fun r hr => by omega⟩
      · have z1p : pairsH 1 (hermS [a, b, z] 1) 1 = [negr 0 (eucl 0 (eucl 0 a b).1 z).1, (eucl 1 (eucl 0 a b).2 (eucl 0 (eucl 0 a b).1 z).2).1, (eucl 1 (eucl 0 a b).2 (eucl 0 (eucl 0 a b).1 z).2).2] := by rw [z1]; rfl
        generalize eucl 0 a b = F1 at *
        generalize eucl 0 F1.1 z = F2 at *
        generalize eucl 1 F1.2 F2.2 = F3 at *
        have c0 := colA_le (c := 1) (by omega) (negr_bd (c := 0) C1)
        have q0 := floor_bd (negr_pos P1) c0.1 c0.2
        by_cases hc1 : c = 1
        · subst hc1
          show NegOk 3 1 (pairsH 1 (hermS [a, b, z] 1) 1) ∧ ∀ r, r < 1 → RedOk 3 1 r (redsH 1 (negH 1 (pairsH 1 (hermS [a, b, z] 1) 1)) r)
          rw [z1p]
          refine ⟨⟨_, rfl, N1, P1, bd_up D1 (by omega)⟩, fun r hr => ?_⟩
          obtain rfl : r = 0 := by omega
          rw [negH_eq _ _ (by simp)]
          exact ⟨negr 0 F2.1, negr 1 F3.1, rfl, rfl, by rw [negr_len, M1], by rw [negr_len, N1], negr_pos P1, bd_up (negr_bd C1) (by omega), bd_up (negr_bd D1) (by omega), bd_up (scale_bd (by omega) (by omega) (negr_bd D1) q0.1 q0.2) (by omega)⟩
        · obtain rfl : c = 2 := by omega
          have z2 : hermS [a, b, z] 2 = [lessL (negr 0 F2.1) (scaleL (negr 1 F3.1) (colA 1 (negr 0 F2.1) / colA 1 (negr 1 F3.1))), negr 1 F3.1, F3.2] := by
            show redsH 1 (negH 1 (pairsH 1 (hermS [a, b, z] 1) 1)) 1 = _
            rw [z1p, negH_eq _ _ (by simp)]; rfl
          show NegOk 3 2 (hermS [a, b, z] 2) ∧ ∀ r, r < 2 → RedOk 3 2 r (redsH 2 (negH 2 (hermS [a, b, z] 2)) r)
          rw [z2]
          have hR := less_bd (negr_bd (c := 0) C1) (scale_bd (by omega) (by omega) (negr_bd (c := 1) D1) q0.1 q0.2)
          have hRl : (lessL (negr 0 F2.1) (scaleL (negr 1 F3.1) (colA 1 (negr 0 F2.1) / colA 1 (negr 1 F3.1)))).length = 3 := by rw [lessL_len (by simp [scaleL, negr_len, M1, N1]), negr_len, M1]
          generalize lessL (negr 0 F2.1) (scaleL (negr 1 F3.1) (colA 1 (negr 0 F2.1) / colA 1 (negr 1 F3.1))) = R0 at *
          refine ⟨⟨_, rfl, N2, P2, bd_up D2 (by omega)⟩, fun r hr => ?_⟩
          rw [negH_eq _ _ (by simp)]
          have cR := colA_le (c := 2) (by omega) hR
          have cP := colA_le (c := 2) (by omega) (negr_bd (c := 1) D1)
          have cQ := colA_le (c := 2) (by omega) (negr_bd (c := 2) D2)
          have hQ3 : (negr 2 F3.2).length = 3 := by rw [negr_len, N2]
          by_cases hr0 : r = 0
          · subst hr0
            exact ⟨R0, negr 2 F3.2, rfl, rfl, hRl, hQ3, negr_pos P2, bd_up hR (by omega), bd_up (negr_bd D2) (by omega), bd_up (last_bd hQ3 (negr_zero Z20) (negr_zero X2) (negr_pos P2) cQ.2 cR.1 cR.2) (by omega)⟩
          · obtain rfl : r = 1 := by omega
            exact ⟨negr 1 F3.1, negr 2 F3.2, rfl, rfl, by rw [negr_len, N1], hQ3, negr_pos P2, bd_up (negr_bd D1) (by omega), bd_up (negr_bd D2) (by omega), bd_up (last_bd hQ3 (negr_zero Z20) (negr_zero X2) (negr_pos P2) cQ.2 cP.1 cP.2) (by omega)⟩
end Go.Proofs.Yteenheidomfpkaa
