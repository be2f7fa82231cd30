/- Plain facts: when is a text the decimal numeral of an integer with at most so many digits. -/
import Derived.Test.YtoekgcafhcamjaaGreatDoorNum
import Derived.Lib.AtoiAllCases
namespace Go.Proofs.YtoekgcafhcamjaaGreatDoor
open Go.Lib

/-- A decimal digit's byte. -/
def isDig (c : UInt8) : Prop := 48 ≤ c.toNat ∧ c.toNat ≤ 57
instance (c : UInt8) : Decidable (isDig c) := by unfold isDig; infer_instance
/-- What digits spell. -/
def val (l : List UInt8) : Nat := l.foldl (fun a c => a * 10 + (c.toNat - 48)) 0
theorem val_nil : val [] = 0 := rfl
theorem val_snoc (l : List UInt8) (c : UInt8) : val (l ++ [c]) = val l * 10 + (c.toNat - 48) := by simp [val]
theorem dig_ofNat {d : Nat} (h : d < 10) : (UInt8.ofNat (48 + d)).toNat = 48 + d := by
  rw [UInt8.toNat_ofNat']; omega

theorem dec_facts (u : Nat) : val (decDigits u) = u ∧ (∀ c ∈ decDigits u, isDig c) := by
  induction u using Nat.strongRecOn with
  | _ u ih =>
    by_cases h : u < 10
    · rw [decDigits_one h]
      refine ⟨?_, ?_⟩
      · simp only [val, List.foldl_cons, List.foldl_nil, dig_ofNat h]; omega
      · intro c hc
        rw [List.mem_singleton] at hc; subst hc
        unfold isDig; rw [dig_ofNat h]; omega
    · rw [decDigits, dif_neg h]
      obtain ⟨h1, h2⟩ := ih (u / 10) (by omega)
      have hm : u % 10 < 10 := by omega
      refine ⟨?_, ?_⟩
      · rw [val_snoc, h1, dig_ofNat hm]; omega
      · intro c hc
        rw [List.mem_append, List.mem_singleton] at hc
        rcases hc with hc | hc
        · exact h2 c hc
        · subst hc; unfold isDig; rw [dig_ofNat hm]; omega
theorem val_dec (u : Nat) : val (decDigits u) = u := (dec_facts u).1
theorem dig_dec (u : Nat) : ∀ c ∈ decDigits u, isDig c := (dec_facts u).2
theorem dec_ne_nil (u : Nat) : decDigits u ≠ [] := by
  intro h
  have := decDigits_length u
  rw [h] at this
  have := nDigits_pos u
  simp at *
  omega

theorem val_lt : ∀ (k : Nat) (l : List UInt8), l.length = k → (∀ c ∈ l, isDig c) → val l < 10 ^ k := by
  intro k
  induction k with
  | zero => intro l h _; rw [List.length_eq_zero_iff] at h; subst h; simp [val]
  | succ k ih =>
    intro l h hd
    obtain ⟨t, c, rfl⟩ : ∃ t c, l = t ++ [c] := by
      have hne : l ≠ [] := by intro e; subst e; simp at h
      exact ⟨l.dropLast, l.getLast hne, (List.dropLast_concat_getLast hne).symm⟩
    have h1 := ih t (by simpa using h) (fun c hc => hd c (by simp [hc]))
    have h2 := hd c (by simp)
    unfold isDig at h2
    rw [val_snoc, Nat.pow_succ]
    omega

/-- l is T behind its sign. -/
def Parts (l T : List UInt8) (neg : Bool) : Prop := (neg = true ∧ l = 45 :: T) ∨ (neg = false ∧ l = T ∧ ∀ c r, T = c :: r → c ≠ 45)
def sg (neg : Bool) (v : Nat) : Int := if neg then -(v : Int) else v

theorem parts_itoa {l T : List UInt8} {neg : Bool} (h : Parts l T neg) (n : Int) (hl : l = itoa n) : T = decDigits n.natAbs ∧ n = sg neg n.natAbs := by
  unfold itoa at hl
  rcases h with ⟨rfl, rfl⟩ | ⟨rfl, rfl, hh⟩
  · by_cases hn : n < 0
    · rw [if_pos hn] at hl
      simp only [List.cons.injEq, true_and] at hl
      exact ⟨hl, by simp [sg]; omega⟩
    · rw [if_neg hn] at hl
      have := dig_dec n.toNat 45 (by rw [← hl]; simp)
      unfold isDig at this
      exact absurd this.1 (by decide)
  · by_cases hn : n < 0
    · rw [if_pos hn] at hl
      exact absurd rfl (hh _ _ hl)
    · rw [if_neg hn] at hl
      have e : n.toNat = n.natAbs := by omega
      exact ⟨by rw [← e]; exact hl, by simp [sg]; omega⟩

/-- What is read: the integer of at most 'most' digits whose numeral l is. -/
def Rd (most : Nat) (l : List UInt8) (n : Int) : Prop := l = itoa n ∧ n.natAbs < 10 ^ most

theorem rd_parts {l T : List UInt8} {neg : Bool} {most : Nat} (hp : Parts l T neg) {n : Int} (h : Rd most l n) (hm : 1 ≤ most) :
    (∀ c ∈ T, isDig c) ∧ 1 ≤ T.length ∧ T.length ≤ most ∧ n = sg neg (val T) := by
  obtain ⟨h1, h2⟩ := parts_itoa hp n h.1
  rw [h1]
  refine ⟨dig_dec _, ?_, ?_, ?_⟩
  · rw [decDigits_length]; exact nDigits_pos _
  · rw [decDigits_length]
    obtain ⟨k, rfl⟩ : ∃ k, most = k + 1 := ⟨most - 1, by omega⟩
    exact nDigits_le_of_lt k _ h.2
  · rw [val_dec]; exact h2
theorem rd_none_len {l T : List UInt8} {neg : Bool} {most : Nat} (hp : Parts l T neg) (hm : 1 ≤ most) (h : T.length = 0 ∨ most < T.length) : ∀ n, ¬ Rd most l n :=
  fun _ hn => by have := rd_parts hp hn hm; omega
theorem rd_none_dig {l T : List UInt8} {neg : Bool} {most : Nat} (hp : Parts l T neg) (hm : 1 ≤ most) {c : UInt8} (hc : c ∈ T) (h : ¬ isDig c) : ∀ n, ¬ Rd most l n :=
  fun _ hn => h ((rd_parts hp hn hm).1 c hc)
theorem rd_none_ne {l T : List UInt8} {neg : Bool} {most : Nat} (hp : Parts l T neg) (hm : 1 ≤ most) (h : ¬ l = itoa (sg neg (val T))) : ∀ n, ¬ Rd most l n :=
  fun n hn => h (by rw [← (rd_parts hp hn hm).2.2.2]; exact hn.1)
theorem rd_some {l T : List UInt8} {neg : Bool} {most : Nat} (_hp : Parts l T neg) (hd : ∀ c ∈ T, isDig c) (hl : T.length ≤ most) (h : l = itoa (sg neg (val T))) : Rd most l (sg neg (val T)) := by
  refine ⟨h, ?_⟩
  have h1 := val_lt _ T rfl hd
  have h2 : 10 ^ T.length ≤ 10 ^ most := Nat.pow_le_pow_right (by omega) hl
  have e : (sg neg (val T)).natAbs = val T := by unfold sg; split <;> omega
  omega
theorem rd_unique {most : Nat} {l : List UInt8} {n m : Int} (h : Rd most l n) (h' : l = itoa m) : n = m := by
  have e : itoa n = itoa m := h.1.symm.trans h'
  have key : ∀ n : Int, Parts (itoa n) (decDigits n.natAbs) (decide (n < 0)) := by
    intro n
    by_cases hn : n < 0
    · exact .inl ⟨by simpa using hn, by unfold itoa; rw [if_pos hn]⟩
    · refine .inr ⟨by simpa using hn, ?_, ?_⟩
      · unfold itoa; rw [if_neg hn, show n.toNat = n.natAbs from by omega]
      · intro c r hcr hc
        have := dig_dec n.natAbs c (by rw [hcr]; simp)
        subst hc; unfold isDig at this; exact absurd this.1 (by decide)
  have a := parts_itoa (key n) n rfl
  have b := parts_itoa (key n) m e
  have hv : n.natAbs = m.natAbs := by have := congrArg val b.1; rwa [val_dec, val_dec] at this
  rw [a.2, b.2, hv]

/-! ### Atoi -/
theorem pu10 : ∀ (l : List UInt8) (acc : Nat), (∀ c ∈ l, isDig c) → l.foldl (fun a c => a * 10 + (c.toNat - 48)) acc < 10 ^ 18 →
    parseUint10 acc l = .ok (l.foldl (fun a c => a * 10 + (c.toNat - 48)) acc)
  | [], acc, _, _ => rfl
  | c :: r, acc, hd, hlt => by
    have hc := hd c (by simp)
    have mono : ∀ (r : List UInt8) (a : Nat), a ≤ r.foldl (fun a c => a * 10 + (c.toNat - 48)) a := by
      intro r
      induction r with
      | nil => intro a; exact Nat.le_refl _
      | cons d r ih =>
        intro a
        refine Nat.le_trans ?_ (ih _)
        show a ≤ a * 10 + (d.toNat - 48)
        omega
    simp only [List.foldl_cons] at hlt ⊢
    have := mono r (acc * 10 + (c.toNat - 48))
    unfold isDig at hc
    simp only [parseUint10]
    rw [if_pos hc, if_neg (by omega), if_neg (by omega)]
    exact pu10 r _ (fun d hd' => hd d (by simp [hd'])) hlt

theorem atoiAll_itoa (n : Int) (h : n.natAbs < 10 ^ 12) : atoiAll (itoa n) = .ok n := by
  have pm : ∀ u : Nat, u < 10 ^ 12 → parseMag (decDigits u) = .ok u := by
    intro u hu
    unfold parseMag
    rw [if_neg (dec_ne_nil u)]
    have h1 := val_dec u
    unfold val at h1
    have := pu10 (decDigits u) 0 (dig_dec u) (by rw [h1]; omega)
    rw [this, h1]
  unfold itoa
  by_cases hn : n < 0
  · rw [if_pos hn]
    unfold atoiAll
    simp only [show (45 : UInt8).toNat = 45 from rfl, or_true, if_true, pm _ h]
    rw [if_neg (by omega), if_neg (by omega)]
    congr 1; omega
  · rw [if_neg hn]
    have hu : n.toNat < 10 ^ 12 := by omega
    have hp := pm _ hu
    cases hdd : decDigits n.toNat with
    | nil => exact absurd hdd (dec_ne_nil _)
    | cons c r =>
      have hc := dig_dec n.toNat c (by rw [hdd]; simp)
      unfold isDig at hc
      rw [hdd] at hp
      rw [atoiAll_plain c r (by omega) (by omega), hp]
      unfold signless
      simp only []
      rw [if_neg (by omega)]
      congr 1; omega
end Go.Proofs.YtoekgcafhcamjaaGreatDoor
