/- A region out of its text, plain. -/
import Derived.Test.YtflkalgofkpdbaaDoorSpJ
import Derived.Test.YtflkalgofkpdbaaDoorRgT
namespace Go.Proofs.YtflkalgofkpdbaaDoor
open Go.RowKit Go.Lib

/-- A half out of its text: two sides, a vector and a bound. -/
def parsH2 : List ByteArray → Hf × Bool
  | [a, b] => if (parsV a.data.toList).2 = true ∧ (rdS b).2 = true then (((parsV a.data.toList).1, (rdS b).1), true) else (([], 0), false)
  | _ => (([], 0), false)
def parsH (x : ByteArray) : Hf × Bool := parsH2 (parts 60 x.data.toList)
def hsL (ps : List ByteArray) : List Hf := ps.map fun x => (parsH x).1
def hsOk (ps : List ByteArray) : Bool := ps.all fun x => (parsH x).2
/-- What ParseRegion answers at the parts of the text. -/
def parsRL : List ByteArray → Rgn × Bool
  | p :: qs => if (rdS p).2 = true ∧ hsOk qs = true ∧ regOk (rdS p).1 (hsL qs) = true then (((rdS p).1, hsL qs), true) else ((0, []), false)
  | [] => ((0, []), false)
def parsR (l : List UInt8) : Rgn × Bool := parsRL (parts 59 l)

theorem hsL_len (ps : List ByteArray) : (hsL ps).length = ps.length := by simp [hsL]
theorem hsL_take {ps : List ByteArray} {k : Nat} (h : k < ps.length) : hsL (ps.take (k + 1)) = hsL (ps.take k) ++ [(parsH ps[k]).1] := by
  unfold hsL
  rw [List.take_succ_eq_append_getElem h, List.map_append]; rfl
theorem hsOk_take {ps : List ByteArray} {k : Nat} (h : k < ps.length) (h1 : hsOk (ps.take k) = true) (h2 : (parsH ps[k]).2 = true) : hsOk (ps.take (k + 1)) = true := by
  rw [List.take_succ_eq_append_getElem h]
  unfold hsOk at *
  rw [List.all_append, h1, List.all_cons, h2]; rfl
theorem hsOk_not {ps : List ByteArray} {k : Nat} (h : k < ps.length) (h2 : (parsH ps[k]).2 = false) : hsOk ps = false := by
  unfold hsOk
  rw [List.all_eq_false]
  exact ⟨ps[k], List.getElem_mem h, by simp [h2]⟩
theorem parsRL_f1 {p : ByteArray} {qs : List ByteArray} (h : (rdS p).2 = false) : parsRL (p :: qs) = ((0, []), false) := if_neg (fun k => by rw [k.1] at h; cases h)
theorem parsRL_f2 {p : ByteArray} {qs : List ByteArray} (h : hsOk qs = false) : parsRL (p :: qs) = ((0, []), false) := if_neg (fun k => by rw [k.2.1] at h; cases h)
theorem parsRL_f3 {p : ByteArray} {qs : List ByteArray} (h : ¬ regOk (rdS p).1 (hsL qs) = true) : parsRL (p :: qs) = ((0, []), false) := if_neg (fun k => h k.2.2)
theorem parsRL_t {p : ByteArray} {qs : List ByteArray} (h1 : (rdS p).2 = true) (h2 : hsOk qs = true) (h3 : regOk (rdS p).1 (hsL qs) = true) : parsRL (p :: qs) = (((rdS p).1, hsL qs), true) := if_pos ⟨h1, h2, h3⟩
theorem parsH2_not {xs : List ByteArray} (h : xs.length ≠ 2) : parsH2 xs = (([], 0), false) := by
  match xs, h with
  | [], _ => rfl
  | [_], _ => rfl
  | [_, _], h => exact absurd rfl h
  | _ :: _ :: _ :: _, _ => rfl
theorem parsH2_f1 {a b : ByteArray} (h : (parsV a.data.toList).2 = false) : parsH2 [a, b] = (([], 0), false) := if_neg (fun k => by rw [k.1] at h; cases h)
theorem parsH2_f2 {a b : ByteArray} (h : (rdS b).2 = false) : parsH2 [a, b] = (([], 0), false) := if_neg (fun k => by rw [k.2] at h; cases h)
theorem parsH2_t {a b : ByteArray} (h1 : (parsV a.data.toList).2 = true) (h2 : (rdS b).2 = true) : parsH2 [a, b] = (((parsV a.data.toList).1, (rdS b).1), true) := if_pos ⟨h1, h2⟩
theorem two_of {xs : List ByteArray} (h : xs.length = 2) : ∃ a b, xs = [a, b] := by
  match xs, h with
  | [a, b], _ => exact ⟨a, b, rfl⟩
/-- The text of a half that was read is what was read. -/
theorem parsH_text {x : ByteArray} (h : (parsH x).2 = true) : halfB (parsH x).1 = x := by
  have hj := jn_parts 60 x.data.toList
  unfold parsH at h ⊢
  by_cases h2 : (parts 60 x.data.toList).length = 2
  · obtain ⟨a, b, e⟩ := two_of h2
    rw [e] at h hj ⊢
    by_cases ha : (parsV a.data.toList).2 = true
    · by_cases hb : (rdS b).2 = true
      · rw [parsH2_t ha hb]
        unfold halfB
        simp only
        rw [parsV_text ha, show itoa (rdS b).1 = b.data.toList from rdI_text hb]
        have e2 : jn [60] [a, b] = a.data.toList ++ 60 :: b.data.toList := by simp [jn, join_cons, joinTail]
        rw [← e2, hj, bytes_back]
      · rw [parsH2_f2 (by simpa using hb)] at h; cases h
    · rw [parsH2_f1 (by simpa using ha)] at h; cases h
  · rw [parsH2_not h2] at h; cases h
theorem hsL_text : ∀ {qs : List ByteArray}, hsOk qs = true → (hsL qs).map halfB = qs
  | [], _ => rfl
  | q :: qs, h => by
    unfold hsOk at h
    rw [List.all_cons, Bool.and_eq_true] at h
    have ih := hsL_text (qs := qs) h.2
    have e : (hsL (q :: qs)).map halfB = halfB (parsH q).1 :: (hsL qs).map halfB := rfl
    rw [e, ih, parsH_text h.1]
/-- The text of a region that was read is what was read. -/
theorem parsR_text {l : List UInt8} {p : ByteArray} {qs : List ByteArray} (e : parts 59 l = p :: qs) (h1 : (rdS p).2 = true) (h2 : hsOk qs = true) : regTx (rdS p).1 (hsL qs) = l := by
  rw [← regB_join]
  unfold regB
  rw [rdS_text h1, hsL_text h2, ← e, jn_parts]
theorem parsR_back {s p : ByteArray} {qs : List ByteArray} (e : parts 59 s.data.toList = p :: qs) (h1 : (rdS p).2 = true) (h2 : hsOk qs = true) (h3 : regOk (rdS p).1 (hsL qs) = true) : (⟨(regT (rdS p).1 (hsL qs)).toArray⟩ : ByteArray) = s := by
  unfold regT
  rw [if_pos h3, parsR_text e h1 h2, bytes_back]
theorem regOk_tot32 {n : Int} {hs : List Hf} (h : regOk n hs = true) : totH hs ≤ 32 := by
  have h1 := regOk_t h
  have key : ∀ ks : List Hf, (∀ k ∈ ks, k.1.length ≤ 3) → totH ks ≤ 4 * ks.length := by
    intro ks
    induction ks with
    | nil => intro _; simp [totH]
    | cons k ks ih =>
      intro hk
      have := ih (fun x hx => hk x (List.mem_cons_of_mem _ hx))
      have h0 := hk k (List.mem_cons_self ..)
      unfold totH at this ⊢
      simp only [List.map_cons, List.sum_cons, List.length_cons]
      omega
  have := key hs (fun k hk => by
    obtain ⟨i, hi, rfl⟩ := List.mem_iff_getElem.1 hk
    have := halfOk_t (h1.2.2.2 i hi)
    omega)
  have := h1.2.2.1
  omega
theorem parsRL_tot (ps : List ByteArray) : totH (parsRL ps).1.2 ≤ 32 := by
  match ps with
  | [] => exact Nat.zero_le _
  | p :: qs =>
    by_cases h : (rdS p).2 = true ∧ hsOk qs = true ∧ regOk (rdS p).1 (hsL qs) = true
    · rw [parsRL_t h.1 h.2.1 h.2.2]; exact regOk_tot32 h.2.2
    · rw [show parsRL (p :: qs) = ((0, []), false) from if_neg h]; exact Nat.zero_le _
theorem parsR_tot (l : List UInt8) : totH (parsR l).1.2 ≤ 32 := parsRL_tot _
/-- The number that the program reads for the dimension; where it reads none, no region is read. -/
theorem pn_reg {l : List UInt8} {n : Int} (h : Rd 6 l n) : rdI l = (n, true) := rdI_yes ⟨h.1, by have := h.2; have : (10 : Nat) ^ 6 ≤ 10 ^ 12 := Nat.pow_le_pow_right (by omega) (by omega); omega⟩
theorem pn_none {p : ByteArray} {qs : List ByteArray} (h : ∀ n, ¬ (Rd 6 p.data.toList n ∧ 0 ≤ n)) : parsRL (p :: qs) = ((0, []), false) := by
  refine if_neg fun k => ?_
  have h1 := (regOk_t k.2.2)
  have h2 : itoa (rdS p).1 = p.data.toList := rdI_text k.1
  have h3 : (3 : Nat) < 10 ^ 6 := by decide
  have h4 : (rdS p).1.natAbs < 10 ^ 6 := by omega
  have h5 : 0 ≤ (rdS p).1 := by omega
  exact h (rdS p).1 ⟨⟨h2.symm, h4⟩, h5⟩
end Go.Proofs.YtflkalgofkpdbaaDoor
