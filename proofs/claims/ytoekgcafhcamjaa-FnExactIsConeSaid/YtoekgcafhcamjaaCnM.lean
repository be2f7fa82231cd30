/- Plain facts on cones of the plane: the next vector, the rays, turns. -/
import Derived.Test.YtoekgcafhcamjaaPgM
import Derived.Test.YtoekgcafhcamjaaRw
namespace Go.Proofs.Ytoekgcafhcamjaa
open Go Go.RowKit Go.Lib

/-- The determinant of two points. -/
def crP (p q : P2) : Int := p.1 * q.2 - p.2 * q.1
/-- Within the bounds of rays; without a common divisor. -/
def Cn30 (p : P2) : Prop := (-30 ≤ p.1 ∧ p.1 ≤ 30) ∧ -30 ≤ p.2 ∧ p.2 ≤ 30
def PrP (p : P2) : Prop := Int.gcd p.1 p.2 = 1
theorem bez_nat : ∀ (n a b : Nat), b ≤ n → Nat.gcd a b = 1 → ∃ x y : Int, (a : Int) * x + (b : Int) * y = 1
  | 0, a, b, hn, h => by
    obtain rfl : b = 0 := by omega
    rw [Nat.gcd_zero_right] at h
    exact ⟨1, 0, by rw [h]; simp⟩
  | n + 1, a, b, hn, h => by
    by_cases hb : b = 0
    · subst hb
      rw [Nat.gcd_zero_right] at h
      exact ⟨1, 0, by rw [h]; simp⟩
    · have hm := Nat.mod_lt a (Nat.pos_of_ne_zero hb)
      obtain ⟨x, y, e⟩ := bez_nat n b (a % b) (by omega) (by rw [Nat.gcd_comm, ← Nat.gcd_rec, Nat.gcd_comm]; exact h)
      refine ⟨y, x - (a / b : Nat) * y, ?_⟩
      have e2 : (a : Int) = (b : Int) * (a / b : Nat) + (a % b : Nat) := by
        rw [← Int.natCast_mul, ← Int.natCast_add, Nat.div_add_mod]
      generalize ((a / b : Nat) : Int) = q at *
      generalize ((a % b : Nat) : Int) = r at *
      rw [e2]
      grind
theorem bez_int {a b : Int} (h : Int.gcd a b = 1) : ∃ x y : Int, a * x + b * y = 1 := by
  obtain ⟨x, y, e⟩ := bez_nat b.natAbs a.natAbs b.natAbs (Nat.le_refl _) h
  rcases Int.natAbs_eq a with ha | ha <;> rcases Int.natAbs_eq b with hb | hb
  · exact ⟨x, y, by rw [ha, hb]; exact e⟩
  · exact ⟨x, -y, by rw [ha, hb]; grind⟩
  · exact ⟨-x, y, by rw [ha, hb]; grind⟩
  · exact ⟨-x, -y, by rw [ha, hb]; grind⟩
theorem mul_le30 {a b m : Int} (hb : -30 ≤ b ∧ b ≤ 30) (ha : 0 ≤ a ∧ a ≤ m) : -(30 * m) ≤ b * a ∧ b * a ≤ 30 * m := by
  have h1 : 0 ≤ (30 - b) * a := Int.mul_nonneg (by omega) ha.1
  have h2 : 0 ≤ (30 + b) * a := Int.mul_nonneg (by omega) ha.1
  rw [Int.sub_mul] at h1
  rw [Int.add_mul] at h2
  omega
/-- A primitive vector has one with determinant 1 behind it, within the same bounds. -/
theorem bez {u : P2} (hu : Cn30 u) (hp : PrP u) : ∃ w : P2, Cn30 w ∧ crP u w = 1 := by
  obtain ⟨a, b⟩ := u
  unfold PrP at hp
  unfold Cn30 at hu
  simp only at hp hu
  by_cases h0 : a = 0
  · subst h0
    refine ⟨(-b, 0), by unfold Cn30; simp only; omega, ?_⟩
    have hb : b.natAbs = 1 := by simpa [Int.gcd] using hp
    unfold crP
    rcases (by omega : b = 1 ∨ b = -1) with rfl | rfl <;> rfl
  · obtain ⟨x0, y0, e⟩ := bez_int hp
    -- w = (-y0, x0): a * x0 - b * (-y0)
    obtain ⟨x, hx⟩ : ∃ x, (-y0) % a = x := ⟨_, rfl⟩
    obtain ⟨q, hq⟩ : ∃ q, (-y0) / a = q := ⟨_, rfl⟩
    have e1 : -y0 = a * q + x := by rw [← hx, ← hq]; have := Int.mul_ediv_add_emod (-y0) a; omega
    have hx0 : 0 ≤ x := by rw [← hx]; exact Int.emod_nonneg _ h0
    have hx1 : x < a.natAbs := by rw [← hx]; exact Int.emod_lt (-y0) h0
    obtain ⟨y, hy⟩ : ∃ y, x0 - b * q = y := ⟨_, rfl⟩
    have e2 : a * y = 1 + b * x := by
      rw [← hy]
      have : y0 = -(a * q + x) := by omega
      rw [this] at e
      grind
    refine ⟨(x, y), ?_, by unfold crP; simp only; omega⟩
    have hbx := mul_le30 hu.2 ⟨hx0, (by omega : x ≤ a.natAbs - 1)⟩
    have hy1 : y ≤ 30 := by
      apply Classical.byContradiction
      intro hc
      rcases (by omega : 0 < a ∨ a < 0) with ha | ha
      · have h1 : 0 ≤ a * (y - 31) := Int.mul_nonneg (by omega) (by omega)
        rw [Int.mul_sub] at h1
        omega
      · have h1 : 0 ≤ (-a) * (y - 31) := Int.mul_nonneg (by omega) (by omega)
        rw [Int.mul_sub, Int.neg_mul, Int.neg_mul] at h1
        omega
    have hy2 : -30 ≤ y := by
      apply Classical.byContradiction
      intro hc
      rcases (by omega : 0 < a ∨ a < 0) with ha | ha
      · have h1 : 0 ≤ a * (-31 - y) := Int.mul_nonneg (by omega) (by omega)
        rw [Int.mul_sub] at h1
        omega
      · have h1 : 0 ≤ (-a) * (-31 - y) := Int.mul_nonneg (by omega) (by omega)
        rw [Int.mul_sub, Int.neg_mul, Int.neg_mul] at h1
        omega
    unfold Cn30
    simp only
    omega

theorem basis {u w : P2} (z : P2) (h : crP u w = 1) : z.1 = crP z w * u.1 + crP u z * w.1 ∧ z.2 = crP z w * u.2 + crP u z * w.2 := by
  unfold crP at *
  constructor <;> grind
/-- w is the next vector of the cone of u and v. -/
def IsNx (u v w : P2) : Prop := crP u w = 1 ∧ 0 ≤ crP w v ∧ crP w v < crP u v
theorem nx_mul {t d r s : Int} (h : s = t * d + r) (h1 : 0 ≤ r) (h2 : r < d) (h3 : 0 ≤ s) (h4 : s < d) : t = 0 := by
  rcases (by omega : t = 0 ∨ 1 ≤ t ∨ t ≤ -1) with k | k | k
  · exact k
  · have := Int.mul_nonneg (by omega : 0 ≤ t - 1) (by omega : 0 ≤ d)
    rw [Int.sub_mul] at this
    omega
  · have := Int.mul_nonneg (by omega : 0 ≤ -1 - t) (by omega : 0 ≤ d)
    rw [Int.sub_mul] at this
    omega
theorem nx_unique {u v w w' : P2} (h : IsNx u v w) (h' : IsNx u v w') : w = w' := by
  obtain ⟨h1, h2, h3⟩ := h
  obtain ⟨k1, k2, k3⟩ := h'
  obtain ⟨e1, e2⟩ := basis w' h1
  rw [k1] at e1 e2
  have e3 : crP w' v = crP w' w * crP u v + crP w v := by
    have f : ∀ t : Int, w'.1 = t * u.1 + 1 * w.1 → w'.2 = t * u.2 + 1 * w.2 → crP w' v = t * crP u v + crP w v := by
      intro t g1 g2
      unfold crP
      rw [g1, g2]
      grind
    exact f _ e1 e2
  have t0 := nx_mul e3 h2 h3 k2 k3
  rw [t0] at e1 e2
  exact Prod.ext (by omega) (by omega)
/-- A vector with determinant 1 behind u, moved by multiples of u. -/
theorem nx_of {u v w : P2} (h : crP u w = 1) (hd : 0 < crP u v) : IsNx u v (w.1 - u.1 * (crP w v / crP u v), w.2 - u.2 * (crP w v / crP u v)) := by
  have e : crP w v % crP u v = crP w v - crP u v * (crP w v / crP u v) := by have := Int.mul_ediv_add_emod (crP w v) (crP u v); omega
  have g1 := Int.emod_nonneg (crP w v) (by omega : crP u v ≠ 0)
  have g2 := Int.emod_lt_of_pos (crP w v) hd
  generalize crP w v / crP u v = q at *
  have k1 : crP u (w.1 - u.1 * q, w.2 - u.2 * q) = 1 := by rw [← h]; unfold crP; simp only; grind
  have k2 : crP (w.1 - u.1 * q, w.2 - u.2 * q) v = crP w v - crP u v * q := by unfold crP; simp only; grind
  exact ⟨k1, by rw [k2]; omega, by rw [k2]; omega⟩
theorem nx_ex {u v : P2} (hu : Cn30 u) (hp : PrP u) (hd : 0 < crP u v) : ∃ w, IsNx u v w := by
  obtain ⟨w, -, h⟩ := bez hu hp
  exact ⟨_, nx_of h hd⟩
open Classical in
/-- The next vector. -/
noncomputable def nxP (u v : P2) : P2 := if h : ∃ w, IsNx u v w then Classical.choose h else (0, 0)
theorem nxP_is {u v : P2} (hu : Cn30 u) (hp : PrP u) (hd : 0 < crP u v) : IsNx u v (nxP u v) := by
  have h := nx_ex hu hp hd
  unfold nxP
  rw [dif_pos h]
  exact Classical.choose_spec h
theorem nxP_eq {u v w : P2} (h : IsNx u v w) : nxP u v = w := by
  have hex : ∃ w, IsNx u v w := ⟨w, h⟩
  unfold nxP
  rw [dif_pos hex]
  exact nx_unique (Classical.choose_spec hex) h
/-- d times the next vector is v and as many u as the next one's determinant says. -/
theorem nx_mulw {u v w : P2} (h : IsNx u v w) : crP u v * w.1 = v.1 + crP w v * u.1 ∧ crP u v * w.2 = v.2 + crP w v * u.2 := by
  obtain ⟨e1, e2⟩ := basis v h.1
  have e : crP v w = -crP w v := by unfold crP; grind
  rw [e] at e1 e2
  have n1 := Int.neg_mul (crP w v) u.1
  have n2 := Int.neg_mul (crP w v) u.2
  omega
theorem bd_div {d x y k a : Int} (e : d * x = y + k * a) (hy : -30 ≤ y ∧ y ≤ 30) (ha : -30 ≤ a ∧ a ≤ 30) (hk : 0 ≤ k) (hd : k < d) : -30 ≤ x ∧ x ≤ 30 := by
  have h1 := mul_le30 ha ⟨hk, (by omega : k ≤ d - 1)⟩
  have e2 : a * k = k * a := Int.mul_comm _ _
  constructor
  · apply Classical.byContradiction
    intro hc
    have := Int.mul_nonneg (by omega : 0 ≤ d) (by omega : 0 ≤ -31 - x)
    rw [Int.mul_sub] at this
    omega
  · apply Classical.byContradiction
    intro hc
    have := Int.mul_nonneg (by omega : 0 ≤ d) (by omega : 0 ≤ x - 31)
    rw [Int.mul_sub] at this
    omega
theorem nx_bd {u v w : P2} (hu : Cn30 u) (hv : Cn30 v) (h : IsNx u v w) : Cn30 w := by
  obtain ⟨e1, e2⟩ := nx_mulw h
  exact ⟨bd_div e1 hv.1 hu.1 h.2.1 h.2.2, bd_div e2 hv.2 hu.2 h.2.1 h.2.2⟩
theorem dvd_one {g : Nat} (h : (g : Int) ∣ 1) : g = 1 := by
  have := Int.natAbs_dvd_natAbs.2 h
  simpa using this
theorem prim_of {u w : P2} (h : crP u w = 1) : PrP w := by
  unfold PrP
  have h1 : ((Int.gcd w.1 w.2 : Nat) : Int) ∣ w.1 := Int.gcd_dvd_left ..
  have h2 : ((Int.gcd w.1 w.2 : Nat) : Int) ∣ w.2 := Int.gcd_dvd_right ..
  refine dvd_one ?_
  rw [← h]
  exact Int.dvd_sub (Int.dvd_trans h2 (Int.dvd_mul_left _ _)) (Int.dvd_trans h1 (Int.dvd_mul_left _ _))
theorem prim_div {v : P2} {d x y : Int} (hv : PrP v) (hd : 0 < d) (h1 : d * x = v.1) (h2 : d * y = v.2) : d = 1 := by
  have k1 : d ∣ v.1 := ⟨x, h1.symm⟩
  have k2 : d ∣ v.2 := ⟨y, h2.symm⟩
  have k3 := Int.dvd_coe_gcd k1 k2
  unfold PrP at hv
  rw [hv] at k3
  have := Int.natAbs_dvd_natAbs.2 k3
  simp at this
  omega
theorem nx_end {u v w : P2} (hv : PrP v) (h : IsNx u v w) (h0 : crP w v = 0) : w = v := by
  obtain ⟨e1, e2⟩ := nx_mulw h
  rw [h0] at e1 e2
  simp only [Int.zero_mul, Int.add_zero] at e1 e2
  have hd : crP u v = 1 := prim_div hv (by have := h.2.1; have := h.2.2; omega) e1 e2
  rw [hd] at e1 e2
  exact Prod.ext (by omega) (by omega)

/-- Two vectors between which the rays are gone through. -/
def Two (u v : P2) : Prop := Cn30 u ∧ Cn30 v ∧ PrP u ∧ PrP v ∧ (0 < crP u v ∨ u = v)
theorem cr_self (u : P2) : crP u u = 0 := by unfold crP; rw [Int.mul_comm]; omega
theorem Two.next {u v : P2} (h : Two u v) (hd : 0 < crP u v) : IsNx u v (nxP u v) ∧ Two (nxP u v) v := by
  obtain ⟨h1, h2, h3, h4, h5⟩ := h
  have k := nxP_is h1 h3 hd
  refine ⟨k, nx_bd h1 h2 k, h2, prim_of k.1, h4, ?_⟩
  rcases (by have := k.2.1; omega : 0 < crP (nxP u v) v ∨ crP (nxP u v) v = 0) with h | h
  · exact .inl h
  · exact .inr (nx_end h4 k h)
theorem Two.ne {u v : P2} (h : Two u v) : (u = v) ↔ ¬ 0 < crP u v := by
  constructor
  · intro e; rw [e, cr_self]; omega
  · intro e; rcases h.2.2.2.2 with k | k
    · exact absurd k e
    · exact k
/-- The rays from u to v. -/
noncomputable def raysF : Nat → P2 → P2 → List P2
  | 0, _, v => [v]
  | n + 1, u, v => if 0 < crP u v then u :: raysF n (nxP u v) v else [v]
noncomputable def raysL (u v : P2) : List P2 := raysF (crP u v).toNat u v
theorem raysF_more {v : P2} : ∀ (n m : Nat) (u : P2), Two u v → (crP u v).toNat ≤ n → (crP u v).toNat ≤ m → raysF n u v = raysF m u v
  | 0, 0, _, _, _, _ => rfl
  | 0, m + 1, u, h, h1, h2 => by rw [raysF, raysF, if_neg (by omega)]
  | n + 1, 0, u, h, h1, h2 => by rw [raysF, raysF, if_neg (by omega)]
  | n + 1, m + 1, u, h, h1, h2 => by
    rw [raysF, raysF]
    by_cases hd : 0 < crP u v
    · rw [if_pos hd, if_pos hd]
      obtain ⟨k1, k2⟩ := h.next hd
      rw [raysF_more n m _ k2 (by have := k1.2.1; have := k1.2.2; omega) (by have := k1.2.1; have := k1.2.2; omega)]
    · rw [if_neg hd, if_neg hd]
theorem raysL_step {u v : P2} (h : Two u v) (hd : 0 < crP u v) : raysL u v = u :: raysL (nxP u v) v := by
  obtain ⟨k1, k2⟩ := h.next hd
  unfold raysL
  rw [show (crP u v).toNat = ((crP u v).toNat - 1) + 1 by omega, raysF, if_pos hd]
  rw [raysF_more ((crP u v).toNat - 1) (crP (nxP u v) v).toNat _ k2 (by have := k1.2.1; have := k1.2.2; omega) (Nat.le_refl _)]
theorem raysL_end {u v : P2} (hd : ¬ 0 < crP u v) : raysL u v = [v] := by
  unfold raysL
  rw [show (crP u v).toNat = 0 by omega]; rfl
theorem raysF_len {v : P2} : ∀ (n : Nat) (u : P2), (raysF n u v).length ≤ n + 1
  | 0, _ => by simp [raysF]
  | n + 1, u => by
    rw [raysF]
    split
    · have := raysF_len n (nxP u v) (v := v); simp; omega
    · simp
theorem mul_bdc {x y : Int} (h1 : -30 ≤ x) (h2 : x ≤ 30) (h3 : -30 ≤ y) (h4 : y ≤ 30) : -900 ≤ x * y ∧ x * y ≤ 900 := by
  have a1 : 0 ≤ (30 - x) * (30 - y) := Int.mul_nonneg (by omega) (by omega)
  have a2 : 0 ≤ (30 + x) * (30 + y) := Int.mul_nonneg (by omega) (by omega)
  have a3 : 0 ≤ (30 - x) * (30 + y) := Int.mul_nonneg (by omega) (by omega)
  have a4 : 0 ≤ (30 + x) * (30 - y) := Int.mul_nonneg (by omega) (by omega)
  simp only [Int.sub_mul, Int.add_mul, Int.mul_sub, Int.mul_add] at a1 a2 a3 a4
  omega
theorem cr_bd {u v : P2} (hu : Cn30 u) (hv : Cn30 v) : -1800 ≤ crP u v ∧ crP u v ≤ 1800 := by
  have h1 := mul_bdc hu.1.1 hu.1.2 hv.2.1 hv.2.2
  have h2 := mul_bdc hu.2.1 hu.2.2 hv.1.1 hv.1.2
  unfold crP
  omega
theorem raysL_len {u v : P2} (h : Two u v) : (raysL u v).length ≤ 1801 := by
  have h1 := raysF_len (crP u v).toNat u (v := v)
  have h2 := cr_bd h.1 h.2.1
  unfold raysL
  omega
theorem raysF_pos {v : P2} : ∀ (n : Nat) (u : P2), 0 < (raysF n u v).length
  | 0, _ => by simp [raysF]
  | n + 1, u => by
    rw [raysF]
    split <;> simp
/-- What holds of a list of rays: each one and the next one have the determinant 1, all are within bounds, and the determinants with v go down. -/
def Chain (v : P2) : List P2 → Prop
  | [] => True
  | [x] => x = v
  | x :: y :: r => crP x y = 1 ∧ crP y v < crP x v ∧ 0 ≤ crP y v ∧ Cn30 x ∧ Chain v (y :: r)
theorem raysF_chain {v : P2} : ∀ (n : Nat) (u : P2), Two u v → (crP u v).toNat ≤ n → Chain v (raysF n u v) ∧ ∃ r, raysF n u v = u :: r
  | 0, u, h, hn => by
    have : u = v := h.ne.2 (by omega)
    subst this
    exact ⟨rfl, [], rfl⟩
  | n + 1, u, h, hn => by
    rw [raysF]
    by_cases hd : 0 < crP u v
    · rw [if_pos hd]
      obtain ⟨k1, k2⟩ := h.next hd
      obtain ⟨c1, r, e⟩ := raysF_chain n (nxP u v) k2 (by have := k1.2.1; have := k1.2.2; omega)
      rw [e] at c1 ⊢
      exact ⟨⟨k1.1, k1.2.2, k1.2.1, h.1, c1⟩, _, rfl⟩
    · rw [if_neg hd]
      have : u = v := h.ne.2 hd
      subst this
      exact ⟨rfl, [], rfl⟩
theorem raysL_chain {u v : P2} (h : Two u v) : Chain v (raysL u v) ∧ ∃ r, raysL u v = u :: r := raysF_chain _ u h (Nat.le_refl _)
/-- A list that goes down so is the list of rays. -/
theorem chain_rays {v : P2} (hv : Cn30 v) (pv : PrP v) : ∀ (l : List P2) (u : P2), PrP u → Chain v (u :: l) → Two u v ∧ u :: l = raysL u v
  | [], u, pu, h => by
    have h : u = v := h
    subst h
    exact ⟨⟨hv, hv, pv, pv, .inr rfl⟩, by rw [raysL_end (by rw [cr_self]; omega)]⟩
  | w :: l, u, pu, h => by
    obtain ⟨h1, h2, h3, h4, h5⟩ := h
    obtain ⟨k1, k2⟩ := chain_rays hv pv l w (prim_of h1) h5
    have hT : Two u v := ⟨h4, hv, pu, pv, .inl (by omega)⟩
    have hn : nxP u v = w := nxP_eq ⟨h1, h3, h2⟩
    exact ⟨hT, by rw [raysL_step hT (by omega), hn, k2]⟩
/-- The turns. -/
def turnsP : List P2 → List Int
  | x :: y :: z :: r => crP x z :: turnsP (y :: z :: r)
  | _ => []
theorem turnsP_len : ∀ l : List P2, (turnsP l).length = l.length - 2
  | [] => rfl
  | [_] => rfl
  | [_, _] => rfl
  | x :: y :: z :: r => by
    have := turnsP_len (y :: z :: r)
    rw [turnsP, List.length_cons, this]
    simp
/-- The sum of both neighbors is as many times the vector as the turn says. -/
theorem turn_sum {x y z : P2} (h1 : crP x y = 1) (h2 : crP y z = 1) : x.1 + z.1 = crP x z * y.1 ∧ x.2 + z.2 = crP x z * y.2 := by
  obtain ⟨e1, e2⟩ := basis z h1
  have e : crP z y = -1 := by rw [← h2]; unfold crP; grind
  rw [e] at e1 e2
  constructor <;> omega
theorem turn_two {x y z v : P2} (h1 : crP x y = 1) (h2 : crP y z = 1) (h3 : crP y v < crP x v) (h4 : 0 ≤ crP z v) (h5 : crP z v < crP y v) : 2 ≤ crP x z := by
  obtain ⟨e1, e2⟩ := turn_sum h1 h2
  have e3 : crP x v + crP z v = crP x z * crP y v := by
    have f : ∀ t : Int, x.1 + z.1 = t * y.1 → x.2 + z.2 = t * y.2 → crP x v + crP z v = t * crP y v := by
      intro t g1 g2
      unfold crP
      rw [show x.1 * v.2 - x.2 * v.1 + (z.1 * v.2 - z.2 * v.1) = (x.1 + z.1) * v.2 - (x.2 + z.2) * v.1 by grind, g1, g2]
      grind
    exact f _ e1 e2
  apply Classical.byContradiction
  intro hc
  have := Int.mul_nonneg (by omega : 0 ≤ 1 - crP x z) (by omega : 0 ≤ crP y v)
  rw [Int.sub_mul] at this
  omega

/-- One turn more. -/
def stepC (s : P2 × P2) (b : Int) : P2 × P2 := (s.2, (b * s.2.1 - s.1.1, b * s.2.2 - s.1.2))
def runC (l : List Int) : P2 × P2 := l.foldl stepC ((1, 0), (0, 1))
def Gro (s : P2 × P2) : Prop := 0 ≤ s.1.2 ∧ s.1.2 < s.2.2 ∧ s.2.1 ≤ s.1.1 ∧ s.2.1 ≤ 0
theorem gro_step {s : P2 × P2} {b : Int} (h : Gro s) (hb : 2 ≤ b) : Gro (stepC s b) ∧ s.2.2 ≤ (stepC s b).2.2 ∧ (stepC s b).2.1 ≤ s.2.1 := by
  obtain ⟨⟨a, c⟩, x, y⟩ := s
  obtain ⟨h1, h2, h3, h4⟩ := h
  simp only at h1 h2 h3 h4
  have m1 := Int.mul_nonneg (by omega : 0 ≤ b - 2) (by omega : 0 ≤ y)
  have m2 := Int.mul_nonneg (by omega : 0 ≤ b - 2) (by omega : 0 ≤ -x)
  rw [Int.sub_mul] at m1
  rw [Int.sub_mul, Int.mul_neg, Int.mul_neg] at m2
  unfold Gro stepC
  simp only
  omega
theorem run_big : ∀ (l : List Int) (s : P2 × P2), Gro s → (∀ x ∈ l, (2 : Int) ≤ x) → ¬ Cn30 s.2 → ¬ Cn30 (l.foldl stepC s).2
  | [], _, _, _, h => h
  | b :: l, s, g, hl, h => by
    obtain ⟨k1, k2, k3⟩ := gro_step g (hl b (List.mem_cons_self ..))
    refine run_big l (stepC s b) k1 (fun x hx => hl x (List.mem_cons_of_mem _ hx)) ?_
    intro hc
    apply h
    obtain ⟨g1, g2, g3, g4⟩ := g
    unfold Cn30 at *
    omega
def pB : Nat → Int
  | 0 => 1
  | n + 1 => 31 * pB n
theorem pB_le : ∀ k, k < 11 → 1 ≤ pB k ∧ pB k ≤ 819628286980801 := by decide
def BdT (n : Int) (s : P2 × P2) : Prop := ((-n ≤ s.1.1 ∧ s.1.1 ≤ n) ∧ -n ≤ s.1.2 ∧ s.1.2 ≤ n) ∧ (-n ≤ s.2.1 ∧ s.2.1 ≤ n) ∧ -n ≤ s.2.2 ∧ s.2.2 ≤ n
theorem mul30 {b x n : Int} (hb : 0 ≤ b ∧ b ≤ 30) (hx : -n ≤ x ∧ x ≤ n) : -(30 * n) ≤ b * x ∧ b * x ≤ 30 * n := by
  have a1 := Int.mul_nonneg (by omega : 0 ≤ 30 - b) (by omega : 0 ≤ n + x)
  have a2 := Int.mul_nonneg (by omega : 0 ≤ 30 - b) (by omega : 0 ≤ n - x)
  have a3 := Int.mul_nonneg hb.1 (by omega : 0 ≤ n + x)
  have a4 := Int.mul_nonneg hb.1 (by omega : 0 ≤ n - x)
  simp only [Int.sub_mul, Int.mul_sub, Int.mul_add] at a1 a2 a3 a4
  omega
theorem bdT_step {n : Int} {s : P2 × P2} {b : Int} (h : BdT n s) (hb : 2 ≤ b ∧ b ≤ 30) : BdT (31 * n) (stepC s b) := by
  obtain ⟨⟨a, c⟩, x, y⟩ := s
  unfold BdT at h
  simp only at h
  obtain ⟨⟨h1, h2⟩, h3, h4⟩ := h
  have m1 := mul30 ⟨by omega, hb.2⟩ h3
  have m2 := mul30 ⟨by omega, hb.2⟩ h4
  unfold BdT stepC
  simp only
  omega
theorem runC_take {l : List Int} {k : Nat} (h : k < l.length) : runC (l.take (k + 1)) = stepC (runC (l.take k)) l[k] := by
  unfold runC
  rw [List.take_succ_eq_append_getElem h, List.foldl_append]; rfl
theorem run_bd {l : List Int} (h : ∀ x ∈ l, (2 : Int) ≤ x ∧ x ≤ 30) : ∀ k, k ≤ l.length → BdT (pB k) (runC (l.take k))
  | 0, _ => by rw [List.take_zero]; unfold BdT runC pB; simp
  | k + 1, hk => by
    rw [runC_take (by omega)]
    exact bdT_step (run_bd h k (by omega)) (h _ (List.getElem_mem _))
theorem run_gro {l : List Int} (h : ∀ x ∈ l, (2 : Int) ≤ x) : ∀ k, k ≤ l.length → Gro (runC (l.take k))
  | 0, _ => by rw [List.take_zero]; unfold Gro runC; simp
  | k + 1, hk => by
    rw [runC_take (by omega)]
    exact (gro_step (run_gro h k (by omega)) (h _ (List.getElem_mem _))).1
/-- What is too great stays so. -/
theorem run_late {l : List Int} (h : ∀ x ∈ l, (2 : Int) ≤ x) {k : Nat} (hk : k ≤ l.length) (hb : ¬ Cn30 (runC (l.take k)).2) : ¬ Cn30 (runC l).2 := by
  have e : runC l = (l.drop k).foldl stepC (runC (l.take k)) := by
    unfold runC
    rw [← List.foldl_append, List.take_append_drop]
  rw [e]
  exact run_big _ _ (run_gro h k hk) (fun x hx => h x (List.mem_of_mem_drop hx)) hb

/-- The vectors that turns lay out. -/
def layC : P2 → P2 → List Int → List P2
  | a, b, [] => [a, b]
  | a, b, t :: r => a :: layC b (t * b.1 - a.1, t * b.2 - a.2) r
theorem lay_head (a b : P2) : ∀ l : List Int, ∃ r, layC a b l = a :: b :: r
  | [] => ⟨[], rfl⟩
  | t :: r => by
    obtain ⟨q, e⟩ := lay_head b (t * b.1 - a.1, t * b.2 - a.2) r
    exact ⟨_, by rw [layC, e]⟩
theorem lay_turns : ∀ (l : List Int) (a b : P2), crP a b = 1 → turnsP (layC a b l) = l
  | [], _, _, _ => rfl
  | t :: r, a, b, h => by
    have h2 : crP b (t * b.1 - a.1, t * b.2 - a.2) = 1 := by rw [← h]; unfold crP; simp only; grind
    have ih := lay_turns r b (t * b.1 - a.1, t * b.2 - a.2) h2
    obtain ⟨q, e⟩ := lay_head b (t * b.1 - a.1, t * b.2 - a.2) r
    rw [layC, e, turnsP, ← e, ih]
    congr 1
    have : crP a (t * b.1 - a.1, t * b.2 - a.2) = t * crP a b := by unfold crP; simp only; grind
    rw [this, h, Int.mul_one]
theorem lay_chain {v : P2} : ∀ (l : List Int) (a b : P2), crP a b = 1 → Gro (a, b) → Cn30 a → (∀ x ∈ l, (2 : Int) ≤ x) → (l.foldl stepC (a, b)).2 = v → Cn30 v → Chain v (layC a b l)
  | [], a, b, h, _, ca, _, e, _ => by
    have e : b = v := e
    subst e
    exact ⟨h, by rw [cr_self, h]; omega, by rw [cr_self]; omega, ca, rfl⟩
  | t :: r, a, b, h, g, ca, hl, e, cv => by
    have ht := hl t (List.mem_cons_self ..)
    have h2 : crP b (t * b.1 - a.1, t * b.2 - a.2) = 1 := by rw [← h]; unfold crP; simp only; grind
    have cb : Cn30 b := Classical.byContradiction fun hc => by
      have := run_big (t :: r) (a, b) g hl hc
      rw [e] at this
      exact this cv
    have ih := lay_chain r b (t * b.1 - a.1, t * b.2 - a.2) h2 (gro_step g ht).1 cb (fun x hx => hl x (List.mem_cons_of_mem _ hx)) e cv
    obtain ⟨q, e2⟩ := lay_head b (t * b.1 - a.1, t * b.2 - a.2) r
    rw [layC]
    rw [e2] at ih ⊢
    obtain ⟨k1, k2, k3, k4, k5⟩ := ih
    have e3 : crP a v = t * crP b v - crP (t * b.1 - a.1, t * b.2 - a.2) v := by unfold crP; simp only; grind
    have := Int.mul_nonneg (by omega : 0 ≤ t - 2) (by omega : 0 ≤ crP b v)
    rw [Int.sub_mul] at this
    exact ⟨h, by omega, by omega, ca, k1, k2, k3, k4, k5⟩

/-- What the functions of this chapter answer. -/
abbrev Cn := List Int × List Int
def rayR (v : List Int) : Bool := decide (v.length = 2) && (small v 30 && decide (allG v = 1))
def coneR (c : Cn) : Bool := rayR c.1 && (rayR c.2 && decide (0 < crP (ptOf c.1) (ptOf c.2)))
def cindexR (c : Cn) : Int := if coneR c = true then crP (ptOf c.1) (ptOf c.2) else 0
def inconeR (c : Cn) (x : List Int) : Bool := coneR c && ((isV x && decide (x.length = 2)) && (decide (0 ≤ crP (ptOf c.1) (ptOf x)) && decide (0 ≤ crP (ptOf x) (ptOf c.2))))
noncomputable def splitR (c : Cn) : List (List Int) := if coneR c = true then (raysL (ptOf c.1) (ptOf c.2)).map rowOf else []
noncomputable def cturnsR (c : Cn) : List Int := if coneR c = true then turnsP (raysL (ptOf c.1) (ptOf c.2)) else []
def okT (l : List Int) : Bool := inR l.length 1 10 && l.all fun x => inR x 2 30
def coneTR (l : List Int) : Cn × Bool := if okT l = true ∧ coneR ([1, 0], rowOf (runC l).2) = true then (([1, 0], rowOf (runC l).2), true) else (([], []), false)
theorem gcd_two (a b : Int) : allG [a, b] = gcdI a b := by
  show gcdI (gcdI 0 a) b = gcdI a b
  unfold gcdI
  simp [Int.gcd]
theorem rayR_t {v : List Int} (h : rayR v = true) : v.length = 2 ∧ small v 30 = true ∧ Cn30 (ptOf v) ∧ PrP (ptOf v) ∧ rowOf (ptOf v) = v := by
  unfold rayR at h
  rw [Bool.and_eq_true, Bool.and_eq_true] at h
  obtain ⟨h1, h2, h3⟩ := h
  have h1 := of_decide_eq_true h1
  have h3 := of_decide_eq_true h3
  match v, h1 with
  | [a, b], _ =>
    refine ⟨rfl, h2, ⟨small_get h2 0 (by simp), small_get h2 1 (by simp)⟩, ?_, rfl⟩
    rw [gcd_two] at h3
    unfold gcdI at h3
    show Int.gcd a b = 1
    omega
theorem rayR_mk (p : P2) (h1 : Cn30 p) (h2 : PrP p) : rayR (rowOf p) = true := by
  have e : small (rowOf p) 30 = true := by
    unfold small rowOf
    simp only [List.all_cons, List.all_nil, Bool.and_true, inR_mk h1.1.1 h1.1.2, inR_mk h1.2.1 h1.2.2]
  have e2 : allG (rowOf p) = 1 := by
    unfold rowOf
    rw [gcd_two]
    unfold gcdI
    unfold PrP at h2
    rw [h2]; rfl
  unfold rayR
  rw [e, e2]; rfl
theorem coneR_t {c : Cn} (h : coneR c = true) : rayR c.1 = true ∧ rayR c.2 = true ∧ 0 < crP (ptOf c.1) (ptOf c.2) ∧ Two (ptOf c.1) (ptOf c.2) := by
  unfold coneR at h
  rw [Bool.and_eq_true, Bool.and_eq_true] at h
  obtain ⟨h1, h2, h3⟩ := h
  have h3 := of_decide_eq_true h3
  have k1 := rayR_t h1
  have k2 := rayR_t h2
  exact ⟨h1, h2, h3, k1.2.2.1, k2.2.2.1, k1.2.2.2.1, k2.2.2.2.1, .inl h3⟩
theorem okT_t {l : List Int} (h : okT l = true) : 1 ≤ l.length ∧ l.length ≤ 10 ∧ ∀ x ∈ l, (2 : Int) ≤ x ∧ x ≤ 30 := by
  unfold okT at h
  rw [Bool.and_eq_true, List.all_eq_true] at h
  have := inR_t h.1
  exact ⟨by omega, by omega, fun x hx => inR_t (h.2 x hx)⟩
theorem run_cr : ∀ (l : List Int) (s : P2 × P2), crP s.1 s.2 = 1 → crP (l.foldl stepC s).1 (l.foldl stepC s).2 = 1
  | [], _, h => h
  | b :: l, s, h => by
    refine run_cr l (stepC s b) ?_
    rw [← h]
    unfold stepC crP
    simp only
    grind
theorem run_prim (l : List Int) : PrP (runC l).2 := prim_of (run_cr l ((1, 0), (0, 1)) (by decide))
theorem one_prim : PrP (1, 0) := by unfold PrP; decide
/-- A cone of turns has just these turns. -/
theorem coneT_turns {l : List Int} (h : okT l = true) (hc : coneR ([1, 0], rowOf (runC l).2) = true) : cturnsR ([1, 0], rowOf (runC l).2) = l := by
  have hl := (okT_t h).2.2
  obtain ⟨-, h2, h3, h4⟩ := coneR_t hc
  have e : ptOf (rowOf (runC l).2) = (runC l).2 := rfl
  rw [e] at h3 h4
  unfold cturnsR
  rw [if_pos hc, e]
  have hch := lay_chain (v := (runC l).2) l (1, 0) (0, 1) (by decide) (by unfold Gro; simp) (by unfold Cn30; simp) (fun x hx => (hl x hx).1) rfl h4.2.1
  obtain ⟨q, e2⟩ := lay_head (1, 0) (0, 1) l
  rw [e2] at hch
  obtain ⟨-, k⟩ := chain_rays h4.2.1 h4.2.2.2.1 _ _ one_prim hch
  show turnsP (raysL (1, 0) (runC l).2) = l
  rw [← k, ← e2]
  exact lay_turns l (1, 0) (0, 1) (by decide)
theorem splitR_len (c : Cn) : (splitR c).length ≤ 1801 := by
  unfold splitR
  split
  · rename_i h; rw [List.length_map]; exact raysL_len (coneR_t h).2.2.2
  · simp
theorem tot_rows (l : List P2) : tot (l.map rowOf) = 2 * l.length := by
  induction l with
  | nil => rfl
  | cons x r ih =>
    have : tot (rowOf x :: r.map rowOf) = 2 + tot (r.map rowOf) := by simp [tot, rowOf]
    rw [List.map_cons, this, ih, List.length_cons]; omega
theorem splitR_tot (c : Cn) : tot (splitR c) ≤ 1048576 := by
  unfold splitR
  split
  · rename_i h; have := raysL_len (coneR_t h).2.2.2; rw [tot_rows]; omega
  · simp [tot]
theorem cturnsR_len (c : Cn) : (cturnsR c).length ≤ 1048576 := by
  unfold cturnsR
  split
  · rename_i h; have := raysL_len (coneR_t h).2.2.2; rw [turnsP_len]; omega
  · simp
theorem coneTR_len (l : List Int) : (coneTR l).1.1.length + (coneTR l).1.2.length ≤ 1048576 := by
  unfold coneTR
  split
  · simp [rowOf]
  · simp
end Go.Proofs.Ytoekgcafhcamjaa
