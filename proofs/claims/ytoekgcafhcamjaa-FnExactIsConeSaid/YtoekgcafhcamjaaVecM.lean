/- Plain facts on lists of integers: vectors. -/
import Derived.Test.YtoekgcafhcamjaaSl
namespace Go.Proofs.Ytoekgcafhcamjaa

/-- Whether x lies from lo to hi. -/
def inR (x lo hi : Int) : Bool := decide (lo ≤ x ∧ x ≤ hi)
theorem inR_t {x lo hi : Int} (h : inR x lo hi = true) : lo ≤ x ∧ x ≤ hi := by simpa [inR] using h
theorem inR_mk {x lo hi : Int} (h1 : lo ≤ x) (h2 : x ≤ hi) : inR x lo hi = true := by simp [inR, h1, h2]
theorem inR_f {x lo hi : Int} (h : ¬ (lo ≤ x ∧ x ≤ hi)) : inR x lo hi = false := by simp only [inR, decide_eq_false_iff_not]; exact h
def small (v : List Int) (n : Int) : Bool := v.all fun x => inR x (-n) n
theorem small_take {v : List Int} {n : Int} {k : Nat} (h : k < v.length) (h1 : small (v.take k) n = true) (h2 : inR v[k] (-n) n = true) : small (v.take (k + 1)) n = true := by
  rw [List.take_succ_eq_append_getElem h]
  unfold small at *
  rw [List.all_append, h1, List.all_cons, h2]; rfl
theorem small_not {v : List Int} {n : Int} {k : Nat} (h : k < v.length) (h2 : inR v[k] (-n) n = false) : small v n = false := by
  unfold small
  rw [List.all_eq_false]
  exact ⟨v[k], List.getElem_mem h, by simp [h2]⟩
theorem small_get {v : List Int} {n : Int} (h : small v n = true) (k : Nat) (hk : k < v.length) : -n ≤ v[k] ∧ v[k] ≤ n := by
  unfold small at h
  rw [List.all_eq_true] at h
  exact inR_t (h _ (List.getElem_mem hk))
def isV (v : List Int) : Bool := inR v.length 1 3 && small v 1000
theorem isV_t {v : List Int} (h : isV v = true) : 1 ≤ v.length ∧ v.length ≤ 3 ∧ small v 1000 = true := by
  unfold isV at h
  rw [Bool.and_eq_true] at h
  have := inR_t h.1
  exact ⟨by omega, by omega, h.2⟩
theorem isV_mk {v : List Int} (h1 : 1 ≤ v.length) (h2 : v.length ≤ 3) : isV v = small v 1000 := by
  unfold isV
  rw [inR_mk (by omega) (by omega)]; rfl
theorem isV_len {v : List Int} (h : ¬ (1 ≤ v.length ∧ v.length ≤ 3)) : isV v = false := by
  unfold isV
  rw [inR_f (by omega)]; rfl
/-- All numbers lie from -n to n. -/
def Bd (v : List Int) (n : Int) : Prop := ∀ (k : Nat) (h : k < v.length), -n ≤ v[k] ∧ v[k] ≤ n
theorem small_bd {v : List Int} {n : Int} (h : small v n = true) : Bd v n := fun k hk => small_get h k hk

def addL (a b : List Int) : List Int := List.zipWith (fun x y => x + y) a b
def lessL (a b : List Int) : List Int := List.zipWith (fun x y => x - y) a b
def scaleL (v : List Int) (n : Int) : List Int := v.map (fun x => x * n)
def dotL (a b : List Int) : Int := (List.zipWith (fun x y => x * y) a b).sum
theorem zip_take {f : Int → Int → Int} {a b : List Int} {k : Nat} (h : k < a.length) (h' : k < b.length) :
    List.zipWith f (a.take (k + 1)) (b.take (k + 1)) = List.zipWith f (a.take k) (b.take k) ++ [f a[k] b[k]] := by
  rw [List.take_succ_eq_append_getElem h, List.take_succ_eq_append_getElem h', List.zipWith_append (by simp; omega)]; rfl
theorem zip_take_len {f : Int → Int → Int} {a b : List Int} {k : Nat} (h : k ≤ a.length) (h' : k ≤ b.length) : (List.zipWith f (a.take k) (b.take k)).length = k := by simp; omega
theorem dot_take {a b : List Int} {k : Nat} (h : k < a.length) (h' : k < b.length) : dotL (a.take (k + 1)) (b.take (k + 1)) = dotL (a.take k) (b.take k) + a[k] * b[k] := by
  unfold dotL
  rw [zip_take h h', List.sum_append]; simp
theorem map_take {f : Int → Int} {v : List Int} {k : Nat} (h : k < v.length) : (v.take (k + 1)).map f = (v.take k).map f ++ [f v[k]] := by
  rw [List.take_succ_eq_append_getElem h, List.map_append]; rfl
theorem mul_bd {x y m n : Int} (h1 : -m ≤ x) (h2 : x ≤ m) (h3 : -n ≤ y) (h4 : y ≤ n) : -(m * n) ≤ x * y ∧ x * y ≤ m * n := by
  have hm : 0 ≤ m := by omega
  have hn : 0 ≤ n := by omega
  have a1 : 0 ≤ (m - x) * (n - y) := Int.mul_nonneg (by omega) (by omega)
  have a2 : 0 ≤ (m + x) * (n + y) := Int.mul_nonneg (by omega) (by omega)
  have a3 : 0 ≤ (m - x) * (n + y) := Int.mul_nonneg (by omega) (by omega)
  have a4 : 0 ≤ (m + x) * (n - y) := Int.mul_nonneg (by omega) (by omega)
  simp only [Int.sub_mul, Int.add_mul, Int.mul_sub, Int.mul_add] at a1 a2 a3 a4
  have c1 : m * y = y * m := Int.mul_comm _ _
  have c2 : x * n = n * x := Int.mul_comm _ _
  omega
theorem dot_bd {a b : List Int} {m n : Int} (_hm : 0 ≤ m * n) (ha : Bd a m) (hb : Bd b n) : ∀ k, k ≤ a.length → k ≤ b.length → -(k * (m * n)) ≤ dotL (a.take k) (b.take k) ∧ dotL (a.take k) (b.take k) ≤ k * (m * n) := by
  intro k
  induction k with
  | zero => intro _ _; simp [dotL]
  | succ k ih =>
    intro h1 h2
    have := ih (by omega) (by omega)
    have p := mul_bd (ha k (by omega)).1 (ha k (by omega)).2 (hb k (by omega)).1 (hb k (by omega)).2
    rw [dot_take (by omega) (by omega)]
    have e : ((k + 1 : Nat) : Int) * (m * n) = k * (m * n) + m * n := by rw [Int.natCast_add, Int.add_mul]; simp
    omega

def gcdI (a b : Int) : Int := (Int.gcd a b : Int)
theorem gcdI_nonneg (a b : Int) : 0 ≤ gcdI a b := by unfold gcdI; omega
theorem gcdI_zero (a : Int) (h : 0 ≤ a) : gcdI a 0 = a := by unfold gcdI; rw [Int.gcd_zero_right]; omega
theorem gcdI_tmod (a b : Int) : gcdI b (a.tmod b) = gcdI a b := by
  unfold gcdI
  congr 1
  show Nat.gcd b.natAbs (a.tmod b).natAbs = Nat.gcd a.natAbs b.natAbs
  rw [Int.natAbs_tmod, Nat.gcd_comm a.natAbs, Nat.gcd_rec b.natAbs a.natAbs, Nat.gcd_comm]
theorem gcdI_step (a b : Int) (h : 0 ≤ a) : gcdI b (a % b) = gcdI a b := by
  rw [← gcdI_tmod a b, Int.tmod_eq_emod_of_nonneg h]
theorem gcdI_abs (a b : Int) : gcdI (a.natAbs : Int) (b.natAbs : Int) = gcdI a b := by
  unfold gcdI; simp [Int.gcd]
def allG (v : List Int) : Int := v.foldl gcdI 0
theorem allG_take {v : List Int} {k : Nat} (h : k < v.length) : allG (v.take (k + 1)) = gcdI (allG (v.take k)) v[k] := by
  unfold allG
  rw [List.take_succ_eq_append_getElem h, List.foldl_append]; rfl
theorem allG_nonneg (v : List Int) : 0 ≤ allG v := by
  have key : ∀ (v : List Int) (g : Int), 0 ≤ g → 0 ≤ v.foldl gcdI g := by
    intro v
    induction v with
    | nil => intro g h; exact h
    | cons x r ih => intro g _; exact ih _ (gcdI_nonneg _ _)
  exact key v 0 (Int.le_refl _)
def primL (v : List Int) : List Int := v.map (fun x => x.tdiv (max (allG v) 1))
def beforeL : List Int → List Int → Bool
  | a :: as, b :: bs => if a = b then beforeL as bs else decide (a < b)
  | _, _ => false
theorem before_at {a b : List Int} {k : Nat} (h : k < a.length) (h' : k < b.length) (ht : a.take k = b.take k) (hne : a[k] ≠ b[k]) : beforeL a b = decide (a[k] < b[k]) := by
  induction k generalizing a b with
  | zero =>
    cases a with
    | nil => simp at h
    | cons x r =>
      cases b with
      | nil => simp at h'
      | cons y s => simp only [List.getElem_cons_zero] at *; simp [beforeL, hne]
  | succ k ih =>
    cases a with
    | nil => simp at h
    | cons x r =>
      cases b with
      | nil => simp at h'
      | cons y s =>
        simp only [List.take_succ_cons, List.cons.injEq] at ht
        simp only [List.getElem_cons_succ] at *
        obtain ⟨rfl, ht⟩ := ht
        rw [beforeL, if_pos rfl]
        exact ih (by simpa using h) (by simpa using h') ht hne
theorem before_end {a b : List Int} (ht : a.take (min a.length b.length) = b.take (min a.length b.length)) : beforeL a b = false := by
  induction a generalizing b with
  | nil => simp [beforeL]
  | cons x r ih =>
    cases b with
    | nil => simp [beforeL]
    | cons y s =>
      simp only [List.length_cons, Nat.add_min_add_right, List.take_succ_cons, List.cons.injEq] at ht
      rw [beforeL, if_pos ht.1]
      exact ih ht.2

/-- What the functions of this chapter answer. -/
def addR (a b : List Int) : List Int × Bool := if isV a = true ∧ isV b = true ∧ a.length = b.length ∧ isV (addL a b) = true then (addL a b, true) else ([], false)
def scaleR (v : List Int) (k : Int) : List Int × Bool := if isV v = true ∧ inR k (-1000) 1000 = true ∧ isV (scaleL v k) = true then (scaleL v k, true) else ([], false)
def dotR (a b : List Int) : Int := if isV a = true ∧ isV b = true ∧ a.length = b.length then dotL a b else 0
def gcdR (v : List Int) : Int := if isV v = true then allG v else -1
def primR (v : List Int) : List Int × Bool := if isV v = true ∧ 0 < allG v then (primL v, true) else ([], false)
def beforeR (a b : List Int) : Bool := if isV a = true ∧ isV b = true ∧ a.length = b.length then beforeL a b else false
theorem addR_len (a b : List Int) : (addR a b).1.length ≤ 3 := by
  unfold addR
  split
  · rename_i h; exact (isV_t h.2.2.2).2.1
  · simp
theorem scaleR_len (v : List Int) (k : Int) : (scaleR v k).1.length ≤ 3 := by
  unfold scaleR
  split
  · rename_i h; exact (isV_t h.2.2).2.1
  · simp
theorem primR_len (v : List Int) : (primR v).1.length ≤ 3 := by
  unfold primR
  split
  · rename_i h; have := (isV_t h.1).2.1; simpa [primL] using this
  · simp
end Go.Proofs.Ytoekgcafhcamjaa
