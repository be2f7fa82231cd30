/- Plain facts on rational points: numbers over a Den. A point is written as a half is: its numbers, then its Den. -/
import Derived.Test.YtmogncpkdkdodaaRegM
namespace Go.Proofs.Ytmogncpkdkdodaa

/-- Whether a point is within the limits. -/
def fineQ (p : Hf) : Bool := inR p.2 1 100000 && small p.1 10000000
theorem fineQ_t {p : Hf} (h : fineQ p = true) : 1 ≤ p.2 ∧ p.2 ≤ 100000 ∧ Bd p.1 10000000 := by
  unfold fineQ at h
  rw [Bool.and_eq_true] at h
  have := inR_t h.1
  exact ⟨this.1, this.2, small_bd h.2⟩
theorem fineQ_f1 {p : Hf} (h : inR p.2 1 100000 = false) : fineQ p = false := by unfold fineQ; rw [h]; rfl
theorem fineQ_e {p : Hf} (h : inR p.2 1 100000 = true) : fineQ p = small p.1 10000000 := by unfold fineQ; rw [h]; rfl
/-- Whether a point is in all halves. -/
def hasA (hs : List Hf) (p : Hf) : Bool := hs.all fun h => decide (dotL h.1 p.1 ≤ h.2 * p.2)
/-- What can be asked at all. -/
def askQ (n : Int) (hs : List Hf) (p : Hf) : Bool := regOk n hs && (fineQ p && decide ((p.1.length : Int) = n))
theorem askQ_t {n : Int} {hs : List Hf} {p : Hf} (h : askQ n hs p = true) : regOk n hs = true ∧ fineQ p = true ∧ (p.1.length : Int) = n := by
  unfold askQ at h
  simp only [Bool.and_eq_true, decide_eq_true_eq] at h
  exact h
theorem askQ_f1 {n : Int} {hs : List Hf} {p : Hf} (h : regOk n hs = false) : askQ n hs p = false := by unfold askQ; rw [h]; rfl
theorem askQ_f2 {n : Int} {hs : List Hf} {p : Hf} (h : fineQ p = false) : askQ n hs p = false := by unfold askQ; rw [h]; simp
theorem askQ_f3 {n : Int} {hs : List Hf} {p : Hf} (h : ¬ (p.1.length : Int) = n) : askQ n hs p = false := by unfold askQ; rw [decide_eq_false h]; simp
theorem askQ_mk {n : Int} {hs : List Hf} {p : Hf} (h1 : regOk n hs = true) (h2 : fineQ p = true) (h3 : (p.1.length : Int) = n) : askQ n hs p = true := by unfold askQ; rw [h1, h2, decide_eq_true h3]; rfl
/-- What HasRational answers. -/
def hasQ (n : Int) (hs : List Hf) (p : Hf) : Bool := askQ n hs p && hasA hs p
theorem hasQ_f {n : Int} {hs : List Hf} {p : Hf} (h : askQ n hs p = false) : hasQ n hs p = false := by unfold hasQ; rw [h]; rfl
theorem hasQ_t {n : Int} {hs : List Hf} {p : Hf} (h : askQ n hs p = true) : hasQ n hs p = hasA hs p := by unfold hasQ; rw [h]; rfl
theorem hasA_take {hs : List Hf} {p : Hf} {k : Nat} (h : k < hs.length) (h1 : hasA (hs.take k) p = true) (h2 : dotL hs[k].1 p.1 ≤ hs[k].2 * p.2) : hasA (hs.take (k + 1)) p = true := all_take' h h1 (decide_eq_true h2)
theorem hasA_not {hs : List Hf} {p : Hf} {k : Nat} (h : k < hs.length) (h2 : ¬ dotL hs[k].1 p.1 ≤ hs[k].2 * p.2) : hasA hs p = false := all_not' h (decide_eq_false h2)

/-- The first number, as a fraction, that differs. -/
def cmpN : List Int → Int → List Int → Int → Int
  | a :: as, d, b :: bs, e => if a * e = b * d then cmpN as d bs e else if a * e < b * d then -1 else 1
  | _, _, _, _ => 0
def cmpQ (p q : Hf) : Int := if fineQ p = true ∧ fineQ q = true ∧ p.1.length = q.1.length then cmpN p.1 p.2 q.1 q.2 else 0
theorem cmpQ_t {p q : Hf} (h1 : fineQ p = true) (h2 : fineQ q = true) (h3 : p.1.length = q.1.length) : cmpQ p q = cmpN p.1 p.2 q.1 q.2 := if_pos ⟨h1, h2, h3⟩
theorem cmpQ_f1 {p q : Hf} (h : fineQ p = false) : cmpQ p q = 0 := if_neg fun k => by rw [h] at k; cases k.1
theorem cmpQ_f2 {p q : Hf} (h : fineQ q = false) : cmpQ p q = 0 := if_neg fun k => by rw [h] at k; cases k.2.1
theorem cmpQ_f3 {p q : Hf} (h : ¬ p.1.length = q.1.length) : cmpQ p q = 0 := if_neg fun k => h k.2.2
theorem cmpN_at {a b : List Int} {d e : Int} {k : Nat} (h : k < a.length) (h' : k < b.length) :
    cmpN (a.drop k) d (b.drop k) e = if a[k] * e = b[k] * d then cmpN (a.drop (k + 1)) d (b.drop (k + 1)) e else if a[k] * e < b[k] * d then -1 else 1 := by
  rw [List.drop_eq_getElem_cons h, List.drop_eq_getElem_cons h', cmpN]
theorem cmpN_end {a b : List Int} {d e : Int} (h : a.length = b.length) : cmpN (a.drop a.length) d (b.drop a.length) e = 0 := by
  rw [List.drop_length, cmpN]
  intro a as b bs h1 h2; cases h1
theorem cmpN_eq {a b : List Int} {d e : Int} {k : Nat} (h : k < a.length) (h' : k < b.length) (he : a[k] * e = b[k] * d) : cmpN (a.drop k) d (b.drop k) e = cmpN (a.drop (k + 1)) d (b.drop (k + 1)) e := by
  rw [cmpN_at h h', if_pos he]
theorem cmpN_lt {a b : List Int} {d e : Int} {k : Nat} (h : k < a.length) (h' : k < b.length) (he : a[k] * e < b[k] * d) : cmpN (a.drop k) d (b.drop k) e = -1 := by
  rw [cmpN_at h h', if_neg (by omega), if_pos he]
theorem cmpN_gt {a b : List Int} {d e : Int} {k : Nat} (h : k < a.length) (h' : k < b.length) (he : b[k] * d < a[k] * e) : cmpN (a.drop k) d (b.drop k) e = 1 := by
  rw [cmpN_at h h', if_neg (by omega), if_neg (by omega)]
end Go.Proofs.Ytmogncpkdkdodaa
