/- The Hermite form, plain: Euclid on two rows at a column, and how great the numbers grow. -/
import Derived.Test.YteenheidomfpkaaDoorMatM
namespace Go.Proofs.YteenheidomfpkaaDoor

def colA (c : Nat) (u : List Int) : Int := u.getD c 0
theorem colA_get {c : Nat} {u : List Int} (h : c < u.length) : colA c u = u[c] := by simp [colA, List.getD_eq_getElem?_getD, h]
theorem colA_out {c : Nat} {u : List Int} (h : u.length ≤ c) : colA c u = 0 := by simp [colA, List.getD_eq_getElem?_getD, h]
def nextR (c : Nat) (u v : List Int) : List Int := lessL u (scaleL v ((colA c u).tdiv (colA c v)))
theorem lessL_len {u v : List Int} (h : u.length = v.length) : (lessL u v).length = u.length := by simp [lessL, h]
theorem nextR_len {c : Nat} {u v : List Int} (h : u.length = v.length) : (nextR c u v).length = u.length := by unfold nextR; exact lessL_len (by simp [scaleL, h])
theorem nextR_col {c : Nat} {u v : List Int} (h : u.length = v.length) : colA c (nextR c u v) = (colA c u).tmod (colA c v) := by
  by_cases hc : c < u.length
  · have e1 : colA c (nextR c u v) = u[c] - v[c] * ((colA c u).tdiv (colA c v)) := by
      rw [colA_get (by rw [nextR_len h]; exact hc)]
      simp only [nextR, lessL, scaleL, List.getElem_zipWith, List.getElem_map]
    have e2 : colA c u = u[c] := colA_get hc
    have e3 : colA c v = v[c] := colA_get (by omega)
    rw [e1, ← e2, ← e3]
    have h1 := Int.tmod_add_mul_tdiv (colA c u) (colA c v)
    omega
  · rw [colA_out (by rw [nextR_len h]; omega), colA_out (u := u) (by omega)]
    simp
/-- Euclid's steps on two rows till the second has 0 in column c. -/
def eucl (c : Nat) (u v : List Int) : List Int × List Int :=
  if _h : u.length = v.length ∧ colA c v ≠ 0 then eucl c v (nextR c u v) else (u, v)
termination_by (colA c v).natAbs
decreasing_by
  rw [nextR_col _h.1, Int.natAbs_tmod]
  exact Nat.mod_lt _ (by omega)
theorem eucl_step {c : Nat} {u v : List Int} (h1 : u.length = v.length) (h2 : colA c v ≠ 0) : eucl c u v = eucl c v (nextR c u v) := by
  rw [eucl, dif_pos ⟨h1, h2⟩]
theorem eucl_end {c : Nat} {u v : List Int} (h2 : colA c v = 0) : eucl c u v = (u, v) := by
  rw [eucl, dif_neg (fun h => h.2 h2)]
/-- The numbers of the two rows stay small: what the steps keep. -/
def Eu (c : Nat) (n : Nat) (K A : Int) (u v : List Int) : Prop :=
  u.length = n ∧ v.length = n ∧ (∃ X Y : Int, 0 ≤ X ∧ 0 ≤ Y ∧ Bd u X ∧ Bd v Y ∧ X * (colA c v).natAbs + Y * (colA c u).natAbs ≤ K ∧ X ≤ K ∧ Y ≤ K) ∧ ((colA c u).natAbs : Int) ≤ A ∧ ((colA c v).natAbs : Int) ≤ A
theorem Eu.first {c n : Nat} {K A Aa Ab X Y : Int} {u v : List Int} (h1 : u.length = n) (h2 : v.length = n) (hX : 0 ≤ X) (hY : 0 ≤ Y) (hu : Bd u X) (hv : Bd v Y) (ha : ((colA c u).natAbs : Int) ≤ Aa) (hb : ((colA c v).natAbs : Int) ≤ Ab)
    (hK : X * Ab + Y * Aa ≤ K) (hXK : X ≤ K) (hYK : Y ≤ K) (hAa : Aa ≤ A) (hAb : Ab ≤ A) : Eu c n K A u v := by
  refine ⟨h1, h2, ⟨X, Y, hX, hY, hu, hv, ?_, hXK, hYK⟩, by omega, by omega⟩
  have e1 := Int.mul_le_mul_of_nonneg_left hb hX
  have e2 := Int.mul_le_mul_of_nonneg_left ha hY
  omega
theorem col_bd {c : Nat} {u : List Int} {b : Int} (hb : 0 ≤ b) (h : Bd u b) : ((colA c u).natAbs : Int) ≤ b := by
  by_cases hc : c < u.length
  · rw [colA_get hc]; have := h c hc; omega
  · rw [colA_out (by omega)]; simpa using hb
theorem le_of_mul {X x K : Int} (hx : 1 ≤ x) (hX : 0 ≤ X) (h : X * x ≤ K) : X ≤ K := by
  have := Int.mul_le_mul_of_nonneg_left hx hX
  omega
theorem Eu.step {c n : Nat} {K A : Int} {u v : List Int} (h : Eu c n K A u v) (hne : colA c v ≠ 0) :
    Eu c n K A v (nextR c u v) ∧ Bd (scaleL v ((colA c u).tdiv (colA c v))) K ∧ Bd u K ∧ Bd v K := by
  obtain ⟨h1, h2, ⟨X, Y, hX, hY, hu, hv, hK, hXK, hYK⟩, ha, hb⟩ := h
  have hcol := nextR_col (c := c) (h1.trans h2.symm)
  have hlen := nextR_len (c := c) (h1.trans h2.symm)
  have q1 : ((colA c u).tdiv (colA c v)).natAbs = (colA c u).natAbs / (colA c v).natAbs := Int.natAbs_tdiv _ _
  have q2 : ((colA c u).tmod (colA c v)).natAbs = (colA c u).natAbs % (colA c v).natAbs := Int.natAbs_tmod _ _
  have q3 := Nat.mod_add_div (colA c u).natAbs (colA c v).natAbs
  have q4 := Nat.mod_lt (colA c u).natAbs (show 0 < (colA c v).natAbs by omega)
  have q5 := Nat.mod_le (colA c u).natAbs (colA c v).natAbs
  rw [← q1, ← q2] at q3
  rw [← q2] at q4 q5
  rw [← hcol] at q3 q4 q5
  have hs : scaleL v ((colA c u).tdiv (colA c v)) = scaleL v ((colA c u).tdiv (colA c v)) := rfl
  generalize hq : (colA c u).tdiv (colA c v) = q at *
  have hb1 : (1 : Int) ≤ ((colA c v).natAbs : Int) := by omega
  have hQ : (0 : Int) ≤ (q.natAbs : Int) := by omega
  have hQY : 0 ≤ (q.natAbs : Int) * Y := Int.mul_nonneg hQ hY
  have hsc : Bd (scaleL v q) ((q.natAbs : Int) * Y) := by
    intro k hk
    have hk' : k < v.length := by simpa [scaleL] using hk
    have h3 := hv k hk'
    have h4 := mul_bd (x := q) (y := v[k]) (m := (q.natAbs : Int)) (n := Y) (by omega) (by omega) h3.1 h3.2
    have e : (scaleL v q)[k] = v[k] * q := by simp [scaleL]
    rw [e, Int.mul_comm v[k] q]
    exact h4
  have hnx : Bd (nextR c u v) (X + (q.natAbs : Int) * Y) := by
    intro k hk
    have hk1 : k < u.length := by omega
    have hk2 : k < v.length := by omega
    have h3 := hu k hk1
    have h4 := hsc k (by simpa [scaleL] using hk2)
    have e : (nextR c u v)[k] = u[k] - (scaleL v q)[k]'(by simpa [scaleL] using hk2) := by simp [nextR, lessL, hq]
    rw [e]
    omega
  -- the sum is kept
  have q3' : ((colA c (nextR c u v)).natAbs : Int) + ((colA c v).natAbs : Int) * (q.natAbs : Int) = ((colA c u).natAbs : Int) := by exact_mod_cast q3
  have hsum : Y * ((colA c (nextR c u v)).natAbs : Int) + (X + (q.natAbs : Int) * Y) * ((colA c v).natAbs : Int) ≤ K := by
    rw [← q3', Int.mul_add] at hK
    rw [Int.add_mul]
    have e : Y * (((colA c v).natAbs : Int) * (q.natAbs : Int)) = (q.natAbs : Int) * Y * ((colA c v).natAbs : Int) := by
      rw [Int.mul_comm (((colA c v).natAbs : Int)), ← Int.mul_assoc, Int.mul_comm Y]
    omega
  have hYc : 0 ≤ Y * ((colA c (nextR c u v)).natAbs : Int) := Int.mul_nonneg hY (by omega)
  have hK2 : X + (q.natAbs : Int) * Y ≤ K := le_of_mul hb1 (by omega) (by omega)
  have mono : ∀ {l : List Int} {b d : Int}, Bd l b → b ≤ d → Bd l d := fun hl hbd k hk => by have := hl k hk; omega
  exact ⟨⟨h2, by omega, ⟨Y, X + (q.natAbs : Int) * Y, hY, by omega, hv, hnx, hsum, hYK, hK2⟩, hb, by omega⟩, mono hsc (by omega), mono hu hXK, mono hv hYK⟩

theorem bd_up {l : List Int} {b d : Int} (h : Bd l b) (hbd : b ≤ d) : Bd l d := fun k hk => by have := h k hk; omega
/-- Euclid to its end: the bounds, the lengths, 0 in the second row's column. -/
theorem eucl_bd {c n : Nat} {K A : Int} : ∀ (k : Nat) {u v : List Int}, (colA c v).natAbs ≤ k → Eu c n K A u v →
    ((eucl c u v).1.length = n ∧ (eucl c u v).2.length = n ∧ Bd (eucl c u v).1 K ∧ Bd (eucl c u v).2 K ∧ colA c (eucl c u v).2 = 0 ∧ ((colA c (eucl c u v).1).natAbs : Int) ≤ A) := by
  intro k
  induction k with
  | zero =>
    intro u v hk h
    rw [eucl_end (by omega)]
    obtain ⟨h1, h2, ⟨X, Y, _, _, hu, hv, _, hX, hY⟩, ha, _⟩ := h
    exact ⟨h1, h2, bd_up hu hX, bd_up hv hY, show colA c v = 0 by omega, ha⟩
  | succ k ih =>
    intro u v hk h
    by_cases h0 : colA c v = 0
    · rw [eucl_end h0]
      obtain ⟨h1, h2, ⟨X, Y, _, _, hu, hv, _, hX, hY⟩, ha, _⟩ := h
      exact ⟨h1, h2, bd_up hu hX, bd_up hv hY, h0, ha⟩
    · have hl : u.length = v.length := h.1.trans h.2.1.symm
      rw [eucl_step hl h0]
      refine ih ?_ (h.step h0).1
      rw [nextR_col hl, Int.natAbs_tmod]
      have := Nat.mod_lt (colA c u).natAbs (show 0 < (colA c v).natAbs by omega)
      omega

/-- What the steps leave of a number that turns its sign with each step. -/
theorem eucl_keeps {c : Nat} (f : List Int → List Int → Int) {n : Nat} (hf : ∀ u v q, u.length = n → v.length = n → f v (lessL u (scaleL v q)) = - f u v) :
    ∀ (k : Nat) {u v : List Int}, (colA c v).natAbs ≤ k → u.length = n → v.length = n → (f (eucl c u v).1 (eucl c u v).2).natAbs = (f u v).natAbs := by
  intro k
  induction k with
  | zero => intro u v hk _ _; rw [eucl_end (by omega)]
  | succ k ih =>
    intro u v hk h1 h2
    by_cases h0 : colA c v = 0
    · rw [eucl_end h0]
    · have hl : u.length = v.length := h1.trans h2.symm
      rw [eucl_step hl h0, ih ?_ h2 (by rw [nextR_len hl, h1])]
      · unfold nextR; rw [hf u v _ h1 h2, Int.natAbs_neg]
      · rw [nextR_col hl, Int.natAbs_tmod]
        have := Nat.mod_lt (colA c u).natAbs (show 0 < (colA c v).natAbs by omega)
        omega
theorem det2_step (u v : List Int) (q : Int) (h1 : u.length = 2) (h2 : v.length = 2) : detL [v, lessL u (scaleL v q)] = - detL [u, v] := by
  obtain ⟨a, b, rfl⟩ := list2 h1
  obtain ⟨x, y, rfl⟩ := list2 h2
  simp only [lessL, scaleL, List.map_cons, List.map_nil, List.zipWith_cons_cons, List.zipWith_nil_left, detL]
  grind
theorem det3_01 (z u v : List Int) (q : Int) (h0 : z.length = 3) (h1 : u.length = 3) (h2 : v.length = 3) : detL [v, lessL u (scaleL v q), z] = - detL [u, v, z] := by
  obtain ⟨a, b, c, rfl⟩ := list3 h1
  obtain ⟨x, y, w, rfl⟩ := list3 h2
  obtain ⟨d, e, f, rfl⟩ := list3 h0
  simp only [lessL, scaleL, List.map_cons, List.map_nil, List.zipWith_cons_cons, List.zipWith_nil_left, detL]
  grind
theorem det3_02 (z u v : List Int) (q : Int) (h0 : z.length = 3) (h1 : u.length = 3) (h2 : v.length = 3) : detL [v, z, lessL u (scaleL v q)] = - detL [u, z, v] := by
  obtain ⟨a, b, c, rfl⟩ := list3 h1
  obtain ⟨x, y, w, rfl⟩ := list3 h2
  obtain ⟨d, e, f, rfl⟩ := list3 h0
  simp only [lessL, scaleL, List.map_cons, List.map_nil, List.zipWith_cons_cons, List.zipWith_nil_left, detL]
  grind
theorem det3_12 (z u v : List Int) (q : Int) (h0 : z.length = 3) (h1 : u.length = 3) (h2 : v.length = 3) : detL [z, v, lessL u (scaleL v q)] = - detL [z, u, v] := by
  obtain ⟨a, b, c, rfl⟩ := list3 h1
  obtain ⟨x, y, w, rfl⟩ := list3 h2
  obtain ⟨d, e, f, rfl⟩ := list3 h0
  simp only [lessL, scaleL, List.map_cons, List.map_nil, List.zipWith_cons_cons, List.zipWith_nil_left, detL]
  grind

theorem nextR_at {c d : Nat} {u v : List Int} (h : u.length = v.length) : colA d (nextR c u v) = colA d u - colA d v * ((colA c u).tdiv (colA c v)) := by
  by_cases hd : d < u.length
  · rw [colA_get (by rw [nextR_len h]; exact hd), colA_get hd, colA_get (by omega)]
    simp only [nextR, lessL, scaleL, List.getElem_zipWith, List.getElem_map]
  · rw [colA_out (by rw [nextR_len h]; omega), colA_out (by omega), colA_out (u := v) (by omega)]; omega
/-- A column that is 0 in both rows stays so. -/
theorem eucl_zero {c d : Nat} : ∀ (k : Nat) {u v : List Int}, (colA c v).natAbs ≤ k → u.length = v.length → colA d u = 0 → colA d v = 0 → colA d (eucl c u v).1 = 0 ∧ colA d (eucl c u v).2 = 0 := by
  intro k
  induction k with
  | zero => intro u v hk _ h1 h2; rw [eucl_end (by omega)]; exact ⟨h1, h2⟩
  | succ k ih =>
    intro u v hk hl h1 h2
    by_cases h0 : colA c v = 0
    · rw [eucl_end h0]; exact ⟨h1, h2⟩
    · rw [eucl_step hl h0]
      refine ih ?_ (by rw [nextR_len hl, hl]) h2 (by rw [nextR_at hl, h1, h2]; simp)
      rw [nextR_col hl, Int.natAbs_tmod]
      have := Nat.mod_lt (colA c u).natAbs (show 0 < (colA c v).natAbs by omega)
      omega
theorem det2_up {u v : List Int} (h1 : u.length = 2) (h2 : v.length = 2) (z : colA 0 v = 0) : detL [u, v] = colA 0 u * colA 1 v := by
  obtain ⟨a, b, rfl⟩ := list2 h1
  obtain ⟨x, y, rfl⟩ := list2 h2
  simp [colA] at z
  subst z
  simp [detL, colA]
theorem det3_up {u v w : List Int} (h1 : u.length = 3) (h2 : v.length = 3) (h3 : w.length = 3) (z1 : colA 0 v = 0) (z2 : colA 0 w = 0) (z3 : colA 1 w = 0) : detL [u, v, w] = colA 0 u * colA 1 v * colA 2 w := by
  obtain ⟨a, b, c, rfl⟩ := list3 h1
  obtain ⟨x, y, t, rfl⟩ := list3 h2
  obtain ⟨d, e, f, rfl⟩ := list3 h3
  simp [colA] at z1 z2 z3
  subst z1 z2 z3
  simp [detL, colA, Int.mul_assoc]
/-- Two rows: Euclid's end. -/
theorem herm2 {a b : List Int} (hm : Sq 2 100 [a, b]) (hd : detL [a, b] ≠ 0) :
    Eu 0 2 20000 100 a b ∧ colA 0 (eucl 0 a b).1 ≠ 0 ∧ colA 1 (eucl 0 a b).2 ≠ 0 := by
  have ha := hm.2 0 (by simp)
  have hb := hm.2 1 (by simp)
  simp only [List.getElem_cons_zero, List.getElem_cons_succ] at ha hb
  have E1 : Eu 0 2 20000 100 a b := Eu.first ha.1 hb.1 (by omega) (by omega) ha.2 hb.2 (col_bd (by omega) ha.2) (col_bd (by omega) hb.2) (by omega) (by omega) (by omega) (Int.le_refl _) (Int.le_refl _)
  have B1 := eucl_bd _ (Nat.le_refl _) E1
  have K1 := eucl_keeps (c := 0) (fun u v => detL [u, v]) (n := 2) (fun u v q h1 h2 => det2_step u v q h1 h2) _ (Nat.le_refl _) ha.1 hb.1
  try simp only at K1
  rw [det2_up B1.1 B1.2.1 B1.2.2.2.2.1] at K1
  have hne : colA 0 (eucl 0 a b).1 * colA 1 (eucl 0 a b).2 ≠ 0 := by omega
  exact ⟨E1, fun h => hne (by rw [h]; simp), fun h => hne (by rw [h]; simp)⟩
/-- Three rows: Euclid's three rounds. -/
theorem herm3 {a b z : List Int} (hm : Sq 3 100 [a, b, z]) (hd : detL [a, b, z] ≠ 0) :
    Eu 0 3 20000 100 a b ∧ Eu 0 3 2010000 100 (eucl 0 a b).1 z ∧ Eu 1 3 80400000000 2010000 (eucl 0 a b).2 (eucl 0 (eucl 0 a b).1 z).2 ∧
    colA 0 (eucl 0 (eucl 0 a b).1 z).1 ≠ 0 ∧ colA 1 (eucl 1 (eucl 0 a b).2 (eucl 0 (eucl 0 a b).1 z).2).1 ≠ 0 ∧ colA 2 (eucl 1 (eucl 0 a b).2 (eucl 0 (eucl 0 a b).1 z).2).2 ≠ 0 ∧
    colA 0 (eucl 1 (eucl 0 a b).2 (eucl 0 (eucl 0 a b).1 z).2).1 = 0 ∧ colA 0 (eucl 1 (eucl 0 a b).2 (eucl 0 (eucl 0 a b).1 z).2).2 = 0 := by
  have ha := hm.2 0 (by simp)
  have hb := hm.2 1 (by simp)
  have hz := hm.2 2 (by simp)
  simp only [List.getElem_cons_zero, List.getElem_cons_succ] at ha hb hz
  have E1 : Eu 0 3 20000 100 a b := Eu.first ha.1 hb.1 (by omega) (by omega) ha.2 hb.2 (col_bd (by omega) ha.2) (col_bd (by omega) hb.2) (by omega) (by omega) (by omega) (Int.le_refl _) (Int.le_refl _)
  have B1 := eucl_bd _ (Nat.le_refl _) E1
  have K1 := eucl_keeps (c := 0) (fun u v => detL [u, v, z]) (n := 3) (fun u v q h1 h2 => det3_01 z u v q hz.1 h1 h2) _ (Nat.le_refl _) ha.1 hb.1
  try simp only at K1
  generalize eucl 0 a b = e1 at *
  have E2 : Eu 0 3 2010000 100 e1.1 z := Eu.first B1.1 hz.1 (by omega) (by omega) B1.2.2.1 hz.2 B1.2.2.2.2.2 (col_bd (by omega) hz.2) (by omega) (by omega) (by omega) (Int.le_refl _) (Int.le_refl _)
  have B2 := eucl_bd _ (Nat.le_refl _) E2
  have K2 := eucl_keeps (c := 0) (fun u v => detL [u, e1.2, v]) (n := 3) (fun u v q h1 h2 => det3_02 e1.2 u v q B1.2.1 h1 h2) _ (Nat.le_refl _) B1.1 hz.1
  try simp only at K2
  generalize eucl 0 e1.1 z = e2 at *
  have E3 : Eu 1 3 80400000000 2010000 e1.2 e2.2 := Eu.first B1.2.1 B2.2.1 (by omega) (by omega) B1.2.2.2.1 B2.2.2.2.1 (col_bd (by omega) B1.2.2.2.1) (col_bd (by omega) B2.2.2.2.1) (by omega) (by omega) (by omega) (by omega) (Int.le_refl _)
  have B3 := eucl_bd _ (Nat.le_refl _) E3
  have Z3 := eucl_zero (c := 1) (d := 0) _ (Nat.le_refl _) (B1.2.1.trans B2.2.1.symm) B1.2.2.2.2.1 B2.2.2.2.2.1
  have K3 := eucl_keeps (c := 1) (fun u v => detL [e2.1, u, v]) (n := 3) (fun u v q h1 h2 => det3_12 e2.1 u v q B2.1 h1 h2) _ (Nat.le_refl _) B1.2.1 B2.2.1
  try simp only at K3
  generalize eucl 1 e1.2 e2.2 = e3 at *
  rw [det3_up B2.1 B3.1 B3.2.1 Z3.1 Z3.2 B3.2.2.2.2.1] at K3
  have hne : colA 0 e2.1 * colA 1 e3.1 * colA 2 e3.2 ≠ 0 := by omega
  exact ⟨E1, E2, E3, fun h => hne (by rw [h]; simp), fun h => hne (by rw [h]; simp), fun h => hne (by rw [h]; simp), Z3.1, Z3.2⟩

/-! The whole form, as the model reckons it. -/
def pairH (c r : Nat) (z : List (List Int)) : List (List Int) := (z.set c (eucl c (z.getD c []) (z.getD r [])).1).set r (eucl c (z.getD c []) (z.getD r [])).2
def pairsH (c : Nat) (z : List (List Int)) : Nat → List (List Int)
  | 0 => z
  | j + 1 => pairH c (c + 1 + j) (pairsH c z j)
def negH (c : Nat) (z : List (List Int)) : List (List Int) := if colA c (z.getD c []) < 0 then z.set c (scaleL (z.getD c []) (-1)) else z
def redH (c r : Nat) (z : List (List Int)) : List (List Int) := z.set r (lessL (z.getD r []) (scaleL (z.getD c []) (colA c (z.getD r []) / colA c (z.getD c []))))
def redsH (c : Nat) (z : List (List Int)) : Nat → List (List Int)
  | 0 => z
  | r + 1 => redH c r (redsH c z r)
def hermS (m : List (List Int)) : Nat → List (List Int)
  | 0 => m
  | c + 1 => redsH c (negH c (pairsH c (hermS m c) (m.length - 1 - c))) c
def hermL (m : List (List Int)) : List (List Int) := hermS m m.length
def hermR (m : List (List Int)) : List (List Int) × Bool := if detR m ≠ 0 ∧ isM (hermL m) = true then (hermL m, true) else ([], false)
end Go.Proofs.YteenheidomfpkaaDoor
