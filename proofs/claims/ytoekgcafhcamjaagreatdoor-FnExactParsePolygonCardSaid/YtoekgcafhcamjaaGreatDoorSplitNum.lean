/- Plain facts: a text cut at every occurrence of a byte. -/
import Derived.Lib.SplitLaws
import Derived.Lib.Split
namespace Go.Proofs.YtoekgcafhcamjaaGreatDoor
open Go.Lib

/-- The pieces between the occurrences of c. -/
def sp (c : UInt8) : List UInt8 → List (List UInt8)
  | [] => [[]]
  | b :: r => if b = c then [] :: sp c r else (match sp c r with | h :: t => (b :: h) :: t | [] => [[b]])
theorem sp_ne (c : UInt8) (l : List UInt8) : sp c l ≠ [] := by
  cases l with
  | nil => simp [sp]
  | cons b r => unfold sp; split <;> simp; split <;> simp
theorem sp_none (c : UInt8) : ∀ a : List UInt8, (∀ x ∈ a, x ≠ c) → sp c a = [a]
  | [], _ => rfl
  | b :: r, h => by
    unfold sp
    rw [if_neg (h b (by simp)), sp_none c r (fun x hx => h x (by simp [hx]))]
theorem sp_first (c : UInt8) (r : List UInt8) : ∀ a : List UInt8, (∀ x ∈ a, x ≠ c) → sp c (a ++ c :: r) = a :: sp c r
  | [], _ => by simp [sp]
  | b :: a, h => by
    have e := sp_first c r a (fun x hx => h x (by simp [hx]))
    show (if b = c then [] :: sp c (a ++ c :: r) else (match sp c (a ++ c :: r) with | h :: t => (b :: h) :: t | [] => [[b]])) = _
    rw [if_neg (h b (by simp)), e]
theorem sp_len_le (c : UInt8) : ∀ l : List UInt8, (sp c l).length ≤ l.length + 1
  | [] => by simp [sp]
  | b :: r => by
    have := sp_len_le c r
    unfold sp
    split
    · simp; omega
    · split
      · rename_i h t e; rw [e] at this; simp at this ⊢; omega
      · simp

theorem indexByte_spec (c : UInt8) : ∀ l : List UInt8, (indexByte l c = -1 ∧ ∀ x ∈ l, x ≠ c) ∨ ∃ i : Nat, indexByte l c = i ∧ i < l.length ∧ (∀ x ∈ l.take i, x ≠ c) ∧ l = l.take i ++ c :: l.drop (i + 1)
  | [] => .inl ⟨rfl, by simp⟩
  | b :: r => by
    by_cases hb : b = c
    · subst hb
      exact .inr ⟨0, by simp [indexByte], by simp, by simp, by simp⟩
    · have hbe : (b == c) = false := by simpa using hb
      rcases indexByte_spec c r with ⟨h1, h2⟩ | ⟨i, h1, h2, h3, h4⟩
      · refine .inl ⟨by simp [indexByte, hbe, h1], ?_⟩
        intro x hx
        rcases List.mem_cons.1 hx with rfl | hx
        · exact hb
        · exact h2 x hx
      · refine .inr ⟨i + 1, ?_, by simpa using h2, ?_, ?_⟩
        · have : (indexByte r c == -1) = false := by rw [beq_eq_false_iff_ne]; omega
          simp only [indexByte, hbe, this]
          simp; omega
        · intro x hx
          rw [List.take_succ_cons] at hx
          rcases List.mem_cons.1 hx with rfl | hx
          · exact hb
          · exact h3 x hx
        · rw [List.take_succ_cons, List.drop_succ_cons, List.cons_append, ← h4]

theorem splitK_sp (c : UInt8) : ∀ (k : Nat) (l : List UInt8), count l [c] = k → splitK [c] 0 k l = sp c l := by
  intro k
  induction k with
  | zero =>
    intro l hc
    rcases indexByte_spec c l with ⟨_, h2⟩ | ⟨i, h1, _, _, _⟩
    · rw [sp_none c l h2]; rfl
    · have := count_hit (s := l) (sub := [c]) (by simp) ((index_one l c).trans h1)
      omega
  | succ k ih =>
    intro l hc
    rcases indexByte_spec c l with ⟨h1, _⟩ | ⟨i, h1, h2, h3, h4⟩
    · have := count_miss (s := l) (sub := [c]) ((index_one l c).trans h1)
      omega
    · have hi := (index_one l c).trans h1
      have hh := count_hit (s := l) (sub := [c]) (by simp) hi
      have hne : ¬ (index l [c] == -1) = true := by rw [hi]; simp
      have hh2 : count (l.drop (i + 1)) [c] = k := by rw [List.length_singleton] at hh; omega
      have e2 := ih (l.drop (i + 1)) hh2
      conv => rhs; rw [h4]
      rw [sp_first c _ _ h3, splitK, if_neg hne, hi]
      simp only [Int.toNat_natCast, Nat.add_zero, List.length_singleton]
      rw [e2]

/-- The pieces as strings. -/
def parts (c : UInt8) (l : List UInt8) : List ByteArray := (sp c l).map fun x => ⟨x.toArray⟩
theorem ba_eq {a : ByteArray} {l : List UInt8} (h : a.data.toList = l) : a = ⟨l.toArray⟩ := by
  subst h; cases a; simp
theorem splitB_parts (c : UInt8) (s : ByteArray) : splitB ⟨#[c]⟩ 0 (countB s ⟨#[c]⟩) s = parts c s.data.toList := by
  have h1 := splitB_data ⟨#[c]⟩ 0 (countB s ⟨#[c]⟩) s
  have h2 : splitK [c] 0 (countB s ⟨#[c]⟩) s.data.toList = sp c s.data.toList := splitK_sp c _ _ rfl
  rw [show (⟨#[c]⟩ : ByteArray).data.toList = [c] from rfl, h2] at h1
  unfold parts
  rw [← h1, List.map_map]
  conv => lhs; rw [← List.map_id (splitB _ _ _ _)]
  apply List.map_congr_left
  intro a _
  exact ba_eq rfl
theorem parts_len (c : UInt8) (l : List UInt8) : (parts c l).length = (sp c l).length := by simp [parts]
theorem countB_parts (c : UInt8) (s : ByteArray) : countB s ⟨#[c]⟩ + 1 = (parts c s.data.toList).length := by
  rw [← splitB_parts, splitB_all ⟨#[c]⟩ (Nat.le_refl 1) 0 _ s rfl]

/-- How far the loop has come: D is done, the rest begins at f, i is next. -/
def SpInv (c : UInt8) (l : List UInt8) (D : List ByteArray) (f i : Nat) : Prop :=
  (f ≤ i ∧ i ≤ l.length ∧ sp c l = D.map (·.data.toList) ++ sp c (l.drop f) ∧ ∀ x ∈ (l.drop f).take (i - f), x ≠ c) ∨ (i = l.length + 1 ∧ sp c l = D.map (·.data.toList))
theorem spInv_start (c : UInt8) (l : List UInt8) : SpInv c l [] 0 0 := .inl ⟨Nat.le_refl _, Nat.zero_le _, by simp, by simp⟩
theorem spInv_skip {c : UInt8} {l : List UInt8} {D : List ByteArray} {f i : Nat} (h : SpInv c l D f i) (hi : i < l.length) (hc : l[i] ≠ c) : SpInv c l D f (i + 1) := by
  rcases h with ⟨h1, h2, h3, h4⟩ | ⟨h1, _⟩
  · refine .inl ⟨by omega, by omega, h3, ?_⟩
    rw [show i + 1 - f = (i - f) + 1 from by omega, List.take_add_one, List.getElem?_drop, show f + (i - f) = i from by omega, List.getElem?_eq_getElem hi]
    intro x hx
    rw [List.mem_append] at hx
    rcases hx with hx | hx
    · exact h4 x hx
    · simp at hx; subst hx; exact hc
  · omega
theorem spInv_cut {c : UInt8} {l : List UInt8} {D : List ByteArray} {f i : Nat} (h : SpInv c l D f i) (hi : i < l.length) (hc : l[i] = c) (p : ByteArray) (hp : p.data.toList = (l.drop f).take (i - f)) : SpInv c l (D ++ [p]) (i + 1) (i + 1) := by
  rcases h with ⟨h1, h2, h3, h4⟩ | ⟨h1, _⟩
  · refine .inl ⟨Nat.le_refl _, by omega, ?_, by simp⟩
    have e : l.drop f = (l.drop f).take (i - f) ++ c :: l.drop (i + 1) := by
      conv => lhs; rw [← List.take_append_drop (i - f) (l.drop f)]
      rw [List.drop_drop, show f + (i - f) = i from by omega, List.drop_eq_getElem_cons hi, hc]
    rw [h3, List.map_append, List.append_assoc]
    congr 1
    conv => lhs; rw [e]
    rw [sp_first c _ _ h4, List.map_cons, List.map_nil, hp]; rfl
  · omega
theorem spInv_last {c : UInt8} {l : List UInt8} {D : List ByteArray} {f : Nat} (h : SpInv c l D f l.length) (p : ByteArray) (hp : p.data.toList = (l.drop f).take (l.length - f)) : SpInv c l (D ++ [p]) (l.length + 1) (l.length + 1) := by
  rcases h with ⟨h1, h2, h3, h4⟩ | ⟨h1, _⟩
  · refine .inr ⟨rfl, ?_⟩
    have e : (l.drop f).take (l.length - f) = l.drop f := List.take_of_length_le (by rw [List.length_drop]; omega)
    rw [e] at h4 hp
    rw [h3, sp_none c _ h4, List.map_append, List.map_cons, List.map_nil, hp]
  · omega
theorem spInv_end {c : UInt8} {l : List UInt8} {D : List ByteArray} {f i : Nat} (h : SpInv c l D f i) (hi : l.length < i) : D = parts c l := by
  rcases h with ⟨_, h2, _⟩ | ⟨_, h2⟩
  · omega
  · unfold parts
    rw [h2, List.map_map]
    conv => lhs; rw [← List.map_id D]
    apply List.map_congr_left
    intro a _
    exact ba_eq rfl
theorem spInv_le {c : UInt8} {l : List UInt8} {D : List ByteArray} {f i : Nat} (h : SpInv c l D f i) : D.length ≤ l.length + 1 ∧ (i ≤ l.length → f ≤ i) := by
  have hl := sp_len_le c l
  rcases h with ⟨h1, h2, h3, _⟩ | ⟨h1, h2⟩
  · rw [h3, List.length_append, List.length_map] at hl
    exact ⟨by omega, fun _ => h1⟩
  · rw [h2, List.length_map] at hl
    exact ⟨hl, fun h => by omega⟩
end Go.Proofs.YtoekgcafhcamjaaGreatDoor
