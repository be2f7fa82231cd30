/- Plain facts on regions: a half is its normal and its bound, a region its dimension and its halves. -/
import Derived.Test.YtoekgcafhcamjaaVecM
namespace Go.Proofs.Ytoekgcafhcamjaa

/-- A half: its normal and its bound. -/
abbrev Hf := List Int × Int
def halfOk (n : Int) (h : Hf) : Bool := inR n 1 3 && (decide ((h.1.length : Int) = n) && (small h.1 20 && (decide (0 < allG h.1) && inR h.2 (-200) 200)))
def regOk (n : Int) (hs : List Hf) : Bool := hs.all (halfOk n) && (inR n 1 3 && decide (hs.length ≤ 8))
def hasL (hs : List Hf) (x : List Int) : Bool := hs.all fun h => decide (dotL h.1 x ≤ h.2)
def hasP (n : Int) (hs : List Hf) (x : List Int) : Bool := regOk n hs && (isV x && (decide ((x.length : Int) = n) && hasL hs x))
def moveH (v : List Int) (h : Hf) : Hf := (h.1, h.2 + dotL h.1 v)
def moveL (hs : List Hf) (v : List Int) : List Hf := hs.map (moveH v)
/-- The halves of the second that are not among the first's. -/
def newL (hs ks : List Hf) : List Hf := ks.filter fun h => decide (h ∉ hs)
def meetL (hs ks : List Hf) : List Hf := hs ++ newL hs ks
def moveR (n : Int) (hs : List Hf) (v : List Int) : (Int × List Hf) × Bool :=
  if regOk n hs = true ∧ isV v = true ∧ (v.length : Int) = n ∧ regOk n (moveL hs v) = true then ((n, moveL hs v), true) else ((0, []), false)
def meetR (n : Int) (hs : List Hf) (m : Int) (ks : List Hf) : (Int × List Hf) × Bool :=
  if regOk n hs = true ∧ regOk m ks = true ∧ n = m ∧ regOk n (meetL hs ks) = true then ((n, meetL hs ks), true) else ((0, []), false)
def eqR (n : Int) (hs : List Hf) (m : Int) (ks : List Hf) : Bool := decide (n = m ∧ hs = ks)

theorem halfOk_t {n : Int} {h : Hf} (hh : halfOk n h = true) : 1 ≤ n ∧ n ≤ 3 ∧ (h.1.length : Int) = n ∧ Bd h.1 20 ∧ 0 < allG h.1 ∧ -200 ≤ h.2 ∧ h.2 ≤ 200 := by
  unfold halfOk at hh
  simp only [Bool.and_eq_true, decide_eq_true_eq] at hh
  obtain ⟨h1, h2, h3, h4, h5⟩ := hh
  have a := inR_t h1
  have b := inR_t h5
  exact ⟨a.1, a.2, h2, small_bd h3, h4, by omega, by omega⟩
theorem all_take' {α : Type} {f : α → Bool} {m : List α} {k : Nat} (h : k < m.length) (h1 : (m.take k).all f = true) (h2 : f m[k] = true) : (m.take (k + 1)).all f = true := by
  rw [List.take_succ_eq_append_getElem h, List.all_append, h1, List.all_cons, h2]; rfl
theorem all_not' {α : Type} {f : α → Bool} {m : List α} {k : Nat} (h : k < m.length) (h2 : f m[k] = false) : m.all f = false := by
  rw [List.all_eq_false]
  exact ⟨m[k], List.getElem_mem h, by simp [h2]⟩
theorem regOk_t {n : Int} {hs : List Hf} (h : regOk n hs = true) : 1 ≤ n ∧ n ≤ 3 ∧ hs.length ≤ 8 ∧ ∀ (i : Nat) (hi : i < hs.length), halfOk n hs[i] = true := by
  unfold regOk at h
  simp only [Bool.and_eq_true, decide_eq_true_eq, List.all_eq_true] at h
  have a := inR_t h.2.1
  exact ⟨a.1, a.2, h.2.2, fun i hi => h.1 _ (List.getElem_mem hi)⟩
theorem regOk_half {n : Int} {hs : List Hf} {k : Nat} (hk : k < hs.length) (h : halfOk n hs[k] = false) : regOk n hs = false := by
  unfold regOk
  rw [all_not' hk h]; rfl
theorem regOk_mk {n : Int} {hs : List Hf} (h : hs.all (halfOk n) = true) : regOk n hs = (inR n 1 3 && decide (hs.length ≤ 8)) := by
  unfold regOk
  rw [h]; rfl
theorem move_take {hs : List Hf} {v : List Int} {k : Nat} (h : k < hs.length) : moveL (hs.take (k + 1)) v = moveL (hs.take k) v ++ [moveH v hs[k]] := by
  unfold moveL
  rw [List.take_succ_eq_append_getElem h, List.map_append]; rfl
theorem move_len (hs : List Hf) (v : List Int) : (moveL hs v).length = hs.length := by simp [moveL]
theorem new_take {hs ks : List Hf} {k : Nat} (h : k < ks.length) : newL hs (ks.take (k + 1)) = newL hs (ks.take k) ++ (if ks[k] ∈ hs then [] else [ks[k]]) := by
  unfold newL
  rw [List.take_succ_eq_append_getElem h, List.filter_append]
  by_cases hm : ks[k] ∈ hs <;> simp [hm]
theorem new_len_le (hs ks : List Hf) : (newL hs ks).length ≤ ks.length := List.length_filter_le ..
/-- Among the first i. -/
def seenL (hs : List Hf) (h : Hf) : Bool := decide (h ∈ hs)
theorem seen_take {hs : List Hf} {h : Hf} {k : Nat} (hk : k < hs.length) : seenL (hs.take (k + 1)) h = (seenL (hs.take k) h || decide (hs[k] = h)) := by
  unfold seenL
  have e : h ∈ hs.take (k + 1) ↔ (h ∈ hs.take k ∨ hs[k] = h) := by
    rw [List.take_succ_eq_append_getElem hk, List.mem_append, List.mem_singleton]
    exact or_congr Iff.rfl ⟨Eq.symm, Eq.symm⟩
  rw [← Bool.decide_or]
  exact decide_eq_decide.2 e
theorem eq_by_get {α : Type} {a b : List α} (hl : a.length = b.length) (h : ∀ (k : Nat) (h1 : k < a.length) (h2 : k < b.length), a[k] = b[k]) : a = b := List.ext_getElem hl h

/-- A region's text: semicolon 59, less-than 60, comma 44. -/
def halfL (tx : List Int → List UInt8) (nu : Int → List UInt8) (h : Hf) : List UInt8 := 59 :: (tx h.1 ++ 60 :: nu h.2)
def regL (tx : List Int → List UInt8) (nu : Int → List UInt8) (n : Int) (hs : List Hf) : List UInt8 := nu n ++ hs.flatMap (halfL tx nu)
theorem reg_take {tx : List Int → List UInt8} {nu : Int → List UInt8} {n : Int} {hs : List Hf} {k : Nat} (h : k < hs.length) :
    regL tx nu n (hs.take (k + 1)) = regL tx nu n (hs.take k) ++ halfL tx nu hs[k] := by
  unfold regL
  rw [List.take_succ_eq_append_getElem h, List.flatMap_append, List.append_assoc]
  simp
end Go.Proofs.Ytoekgcafhcamjaa
