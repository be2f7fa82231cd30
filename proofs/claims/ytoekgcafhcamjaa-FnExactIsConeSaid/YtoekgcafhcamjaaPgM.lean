/- Plain facts on polygons: rows in order, turns, the corners of a hull. -/
import Derived.Test.YtoekgcafhcamjaaVecM
namespace Go.Proofs.Ytoekgcafhcamjaa

/-! Rows of one length in order. -/
theorem before_irrefl : ∀ a : List Int, beforeL a a = false
  | [] => rfl
  | x :: a => by rw [beforeL, if_pos rfl]; exact before_irrefl a
theorem before_trans : ∀ {a b c : List Int}, beforeL a b = true → beforeL b c = true → beforeL a c = true
  | [], _, _, h, _ => by simp [beforeL] at h
  | _ :: _, [], _, h, _ => by simp [beforeL] at h
  | _ :: _, _ :: _, [], _, h => by simp [beforeL] at h
  | x :: a, y :: b, z :: c, h1, h2 => by
    rw [beforeL] at h1 h2 ⊢
    by_cases e1 : x = y
    · rw [if_pos e1] at h1
      subst e1
      by_cases e2 : x = z
      · rw [if_pos e2] at h2 ⊢
        exact before_trans h1 h2
      · rw [if_neg e2] at h2 ⊢; exact h2
    · rw [if_neg e1] at h1
      have l1 : x < y := of_decide_eq_true h1
      by_cases e2 : y = z
      · rw [if_pos e2] at h2
        subst e2
        rw [if_neg e1]; exact h1
      · rw [if_neg e2] at h2
        have l2 : y < z := of_decide_eq_true h2
        rw [if_neg (by omega)]
        exact decide_eq_true (by omega)
theorem before_asymm {a b : List Int} (h1 : beforeL a b = true) (h2 : beforeL b a = true) : False := by
  have := before_trans h1 h2
  rw [before_irrefl] at this
  cases this
theorem before_tri : ∀ {a b : List Int}, a.length = b.length → beforeL a b = false → beforeL b a = false → a = b
  | [], [], _, _, _ => rfl
  | x :: a, y :: b, hl, h1, h2 => by
    rw [beforeL] at h1 h2
    by_cases e : x = y
    · subst e
      rw [if_pos rfl] at h1 h2
      rw [before_tri (by simpa using hl) h1 h2]
    · rw [if_neg e] at h1
      rw [if_neg (fun k => e k.symm)] at h2
      have := of_decide_eq_false h1
      have := of_decide_eq_false h2
      omega

/-- Strictly sorted lists with the same members are one. -/
theorem strict_ext {α : Type} {r : α → α → Prop} (as : ∀ a b, r a b → r b a → False) : ∀ (l m : List α), l.Pairwise r → m.Pairwise r → (∀ x, x ∈ l ↔ x ∈ m) → l = m
  | [], [], _, _, _ => rfl
  | [], y :: m, _, _, h => absurd ((h y).2 (List.mem_cons_self ..)) (by simp)
  | x :: l, [], _, _, h => absurd ((h x).1 (List.mem_cons_self ..)) (by simp)
  | x :: l, y :: m, hl, hm, h => by
    rw [List.pairwise_cons] at hl hm
    have hxy : x = y := by
      rcases List.mem_cons.1 ((h x).1 (List.mem_cons_self ..)) with e | hx
      · exact e
      · rcases List.mem_cons.1 ((h y).2 (List.mem_cons_self ..)) with e | hy
        · exact e.symm
        · exact (as _ _ (hm.1 x hx) (hl.1 y hy)).elim
    subst hxy
    congr 1
    refine strict_ext as l m hl.2 hm.2 fun p => ?_
    have hne : ∀ q, q ∈ l ∨ q ∈ m → q ≠ x := by
      rintro q (hq | hq) rfl
      · exact as _ _ (hl.1 _ hq) (hl.1 _ hq)
      · exact as _ _ (hm.1 _ hq) (hm.1 _ hq)
    constructor
    · intro hp
      rcases List.mem_cons.1 ((h p).1 (List.mem_cons_of_mem _ hp)) with e | k
      · exact absurd e (hne p (.inl hp))
      · exact k
    · intro hp
      rcases List.mem_cons.1 ((h p).2 (List.mem_cons_of_mem _ hp)) with e | k
      · exact absurd e (hne p (.inr hp))
      · exact k

/-- Where a row goes: behind those that it is not before. -/
def downL (l : List (List Int)) (p : List Int) : Nat → Nat
  | 0 => 0
  | k + 1 => if beforeL p (l.getD k []) = true then downL l p k else k + 1
def putL (l : List (List Int)) (p : List Int) : List (List Int) :=
  if 0 < downL l p l.length ∧ l.getD (downL l p l.length - 1) [] = p then l else l.take (downL l p l.length) ++ p :: l.drop (downL l p l.length)
theorem downL_le (l : List (List Int)) (p : List Int) : ∀ k, downL l p k ≤ k
  | 0 => Nat.le_refl _
  | k + 1 => by
    unfold downL
    split
    · exact Nat.le_succ_of_le (downL_le l p k)
    · exact Nat.le_refl _
theorem downL_hi (l : List (List Int)) (p : List Int) : ∀ k i, downL l p k ≤ i → i < k → beforeL p (l.getD i []) = true
  | 0, i, _, h => absurd h (Nat.not_lt_zero _)
  | k + 1, i, h1, h2 => by
    unfold downL at h1
    split at h1
    · rename_i h
      by_cases e : i = k
      · subst e; exact h
      · exact downL_hi l p k i h1 (by omega)
    · omega
theorem downL_lo (l : List (List Int)) (p : List Int) : ∀ k, 0 < downL l p k → ¬ beforeL p (l.getD (downL l p k - 1) []) = true
  | 0, h => absurd h (Nat.lt_irrefl _)
  | k + 1, h => by
    unfold downL at h ⊢
    split at h
    · rename_i hc
      rw [if_pos hc]
      exact downL_lo l p k h
    · rename_i hc
      rw [if_neg hc]
      exact hc
theorem getD_row {l : List (List Int)} {i : Nat} (h : i < l.length) : l.getD i [] = l[i] := by
  rw [List.getD_eq_getElem?_getD, List.getElem?_eq_getElem h]; rfl
/-- Strictly in order. -/
def LessL (l : List (List Int)) : Prop := l.Pairwise fun p q => beforeL p q = true
theorem putL_spec {n : Nat} {l : List (List Int)} {p : List Int} (gl : ∀ q ∈ l, q.length = n) (gp : p.length = n) (hl : LessL l) : LessL (putL l p) ∧ (∀ q, q ∈ putL l p ↔ q ∈ l ∨ q = p) := by
  have hle := downL_le l p l.length
  unfold putL
  by_cases hc : 0 < downL l p l.length ∧ l.getD (downL l p l.length - 1) [] = p
  · rw [if_pos hc]
    refine ⟨hl, fun q => ⟨.inl, fun h => h.elim id fun e => ?_⟩⟩
    have hi : downL l p l.length - 1 < l.length := by omega
    rw [getD_row hi] at hc
    rw [e, ← hc.2]; exact List.getElem_mem hi
  · rw [if_neg hc]
    obtain ⟨a, ha⟩ : ∃ a, downL l p l.length = a := ⟨_, rfl⟩
    rw [ha] at hc hle ⊢
    have hi : ∀ q ∈ l.drop a, beforeL p q = true := by
      intro q hq
      obtain ⟨i, hi, rfl⟩ := List.mem_iff_getElem.1 hq
      rw [List.length_drop] at hi
      rw [List.getElem_drop]
      have := downL_hi l p l.length (a + i) (by omega) (by omega)
      rwa [getD_row (by omega)] at this
    have lo : ∀ q ∈ l.take a, beforeL q p = true := by
      intro q hq
      obtain ⟨i, hi, rfl⟩ := List.mem_iff_getElem.1 hq
      rw [List.length_take] at hi
      rw [List.getElem_take]
      have h0 : 0 < a := by omega
      have hb := downL_lo l p l.length (by rw [ha]; exact h0)
      rw [ha, getD_row (by omega)] at hb
      have hne : ¬ l[a - 1] = p := fun e => hc ⟨h0, by rw [getD_row (by omega)]; exact e⟩
      have ga := gl l[a - 1] (List.getElem_mem _)
      have h1 : beforeL l[a - 1] p = true := by
        cases hq : beforeL l[a - 1] p with
        | true => rfl
        | false => exact absurd (before_tri (by rw [ga, gp]) hq (by simpa using hb)) hne
      by_cases e : i = a - 1
      · subst e; exact h1
      · exact before_trans ((List.pairwise_iff_getElem.1 hl) i (a - 1) (by omega) (by omega) (by omega)) h1
    constructor
    · unfold LessL at hl ⊢
      have hs : l = l.take a ++ l.drop a := (List.take_append_drop a l).symm
      rw [hs, List.pairwise_append] at hl
      rw [List.pairwise_append, List.pairwise_cons]
      refine ⟨hl.1, ⟨hi, hl.2.1⟩, fun x hx y hy => ?_⟩
      rcases List.mem_cons.1 hy with e | hy
      · rw [e]; exact lo x hx
      · exact hl.2.2 x hx y hy
    · intro q
      rw [List.mem_append, List.mem_cons]
      have hs : q ∈ l ↔ q ∈ l.take a ∨ q ∈ l.drop a := by
        conv => lhs; rw [← List.take_append_drop a l]
        exact List.mem_append
      rw [hs]
      constructor
      · rintro (h | h | h)
        · exact .inl (.inl h)
        · exact .inr h
        · exact .inl (.inr h)
      · rintro ((h | h) | h)
        · exact .inl h
        · exact .inr (.inr h)
        · exact .inr (.inl h)
theorem foldL_put {n : Nat} : ∀ (ps l : List (List Int)), (∀ q ∈ ps, q.length = n) → (∀ q ∈ l, q.length = n) → LessL l → LessL (ps.foldl putL l) ∧ (∀ q, q ∈ ps.foldl putL l ↔ q ∈ l ∨ q ∈ ps)
  | [], l, _, _, hl => ⟨hl, fun q => by simp⟩
  | p :: ps, l, gps, gl, hl => by
    obtain ⟨h1, h2⟩ := putL_spec gl (gps p (List.mem_cons_self ..)) hl
    obtain ⟨h3, h4⟩ := foldL_put ps (putL l p) (fun q hq => gps q (List.mem_cons_of_mem _ hq)) (fun q hq => by
      rcases (h2 q).1 hq with h | h
      · exact gl q h
      · rw [h]; exact gps p (List.mem_cons_self ..)) h1
    refine ⟨h3, fun q => ?_⟩
    rw [List.foldl_cons, h4, h2, List.mem_cons]
    constructor
    · rintro ((h | h) | h)
      · exact .inl h
      · exact .inr (.inl h)
      · exact .inr (.inr h)
    · rintro (h | h | h)
      · exact .inl (.inl h)
      · exact .inl (.inr h)
      · exact .inr h
theorem putL_len (l : List (List Int)) (p : List Int) : (putL l p).length ≤ l.length + 1 := by
  unfold putL
  have := downL_le l p l.length
  split
  · omega
  · simp only [List.length_append, List.length_take, List.length_cons, List.length_drop]; omega
theorem foldL_len : ∀ (ps l : List (List Int)), (ps.foldl putL l).length ≤ l.length + ps.length
  | [], l => by simp
  | p :: ps, l => by
    have h1 := foldL_len ps (putL l p)
    have h2 := putL_len l p
    rw [List.foldl_cons, List.length_cons]; omega

/-! Points of the plane, turns, the corners of a hull. -/
abbrev P2 := Int × Int
def turnP (a b c : P2) : Int := (b.1 - a.1) * (c.2 - a.2) - (b.2 - a.2) * (c.1 - a.1)
/-- The points that stay, the last one first, where x comes up. -/
def popR : List P2 → P2 → List P2
  | b :: a :: r, x => if turnP a b x ≤ 0 then popR (a :: r) x else b :: a :: r
  | l, _ => l
def stepR (way : List P2) (x : P2) : List P2 := x :: popR way x
def bendR (l : List P2) : List P2 := l.foldl stepR []
def bendL (l : List P2) : List P2 := (bendR l).tail.reverse
def cornL (l : List P2) : List P2 := bendL l ++ bendL l.reverse
theorem turn_twice (a b : P2) : turnP a b b = 0 := by unfold turnP; rw [Int.mul_comm]; omega
theorem turn_same (a b : P2) : turnP a a b = 0 := by unfold turnP; simp
theorem popR_len : ∀ (l : List P2) (x : P2), (popR l x).length ≤ l.length
  | [], _ => Nat.le_refl _
  | [_], _ => Nat.le_refl _
  | b :: a :: r, x => by
    unfold popR
    split
    · have := popR_len (a :: r) x
      simp only [List.length_cons] at this ⊢; omega
    · exact Nat.le_refl _
theorem popR_mem : ∀ (l : List P2) (x : P2), ∀ p ∈ popR l x, p ∈ l
  | [], _, p, h => by simp [popR] at h
  | [_], _, p, h => by simpa [popR] using h
  | b :: a :: r, x, p, h => by
    unfold popR at h
    split at h
    · exact List.mem_cons_of_mem _ (popR_mem (a :: r) x p h)
    · exact h
theorem popR_ne : ∀ (l : List P2) (x : P2), l ≠ [] → popR l x ≠ []
  | [], _, h => h
  | [_], _, _ => by simp [popR]
  | b :: a :: r, x, _ => by
    unfold popR
    split
    · exact popR_ne (a :: r) x (by simp)
    · simp
theorem popR_idem : ∀ (l : List P2) (x : P2), popR (popR l x) x = popR l x
  | [], _ => rfl
  | [_], _ => rfl
  | b :: a :: r, x => by
    rw [popR]
    split
    · exact popR_idem (a :: r) x
    · rename_i h
      rw [popR, if_neg h]
theorem popR_app : ∀ (l : List P2) (x : P2), ∃ k, popR l x = l.drop k
  | [], _ => ⟨0, rfl⟩
  | [_], _ => ⟨0, rfl⟩
  | b :: a :: r, x => by
    rw [popR]
    split
    · obtain ⟨k, hk⟩ := popR_app (a :: r) x
      exact ⟨k + 1, by rw [hk]; rfl⟩
    · exact ⟨0, rfl⟩
theorem step_twice {w : List P2} (x : P2) (h : w ≠ []) : stepR (stepR w x) x = stepR w x := by
  unfold stepR
  congr 1
  have h1 := popR_ne w x h
  match hp : popR w x, h1 with
  | a :: r, _ =>
    rw [popR, if_pos (by rw [turn_twice]; exact Int.le_refl _)]
    rw [← hp, popR_idem]
theorem bendR_len : ∀ (l : List P2) (acc : List P2), (l.foldl stepR acc).length ≤ acc.length + l.length
  | [], acc => by simp
  | x :: l, acc => by
    have h1 := bendR_len l (stepR acc x)
    have h2 := popR_len acc x
    rw [List.foldl_cons]
    unfold stepR at h1 ⊢
    simp only [List.length_cons] at h1 ⊢; omega
theorem bendR_mem : ∀ (l : List P2) (acc : List P2), ∀ p ∈ l.foldl stepR acc, p ∈ acc ∨ p ∈ l
  | [], acc, p, h => .inl h
  | x :: l, acc, p, h => by
    rw [List.foldl_cons] at h
    rcases bendR_mem l (stepR acc x) p h with h | h
    · unfold stepR at h
      rcases List.mem_cons.1 h with h | h
      · exact .inr (h ▸ List.mem_cons_self ..)
      · exact .inl (popR_mem acc x p h)
    · exact .inr (List.mem_cons_of_mem _ h)
theorem bendL_len (l : List P2) : (bendL l).length ≤ l.length := by
  have := bendR_len l []
  unfold bendL bendR
  simp only [List.length_reverse, List.length_tail, List.length_nil] at *; omega
theorem bendL_mem {l : List P2} {p : P2} (h : p ∈ bendL l) : p ∈ l := by
  unfold bendL at h
  rw [List.mem_reverse] at h
  rcases bendR_mem l [] p (List.mem_of_mem_tail h) with h | h
  · cases h
  · exact h
theorem cornL_mem {l : List P2} {p : P2} (h : p ∈ cornL l) : p ∈ l := by
  unfold cornL at h
  rcases List.mem_append.1 h with h | h
  · exact bendL_mem h
  · exact List.mem_reverse.1 (bendL_mem h)
theorem cornL_len (l : List P2) : (cornL l).length ≤ 2 * l.length := by
  have h1 := bendL_len l
  have h2 := bendL_len l.reverse
  unfold cornL
  rw [List.length_reverse] at h2
  rw [List.length_append]; omega

/-- Of neighbours that are the same one. -/
def packP : List P2 → List P2
  | x :: y :: l => if x = y then packP (y :: l) else x :: packP (y :: l)
  | l => l
theorem packP_head : ∀ (l : List P2) (x : P2), ∃ t, packP (x :: l) = x :: t
  | [], x => ⟨[], rfl⟩
  | y :: l, x => by
    rw [packP]
    split
    · rename_i e
      subst e
      exact packP_head l x
    · exact ⟨_, rfl⟩
theorem bend_pack_from : ∀ (l acc : List P2), acc ≠ [] → l.foldl stepR acc = (packP l).foldl stepR acc
  | [], _, _ => rfl
  | [_], _, _ => rfl
  | x :: y :: l, acc, h => by
    rw [packP]
    split
    · rename_i e
      subst e
      rw [← bend_pack_from (x :: l) acc h]
      show l.foldl stepR (stepR (stepR acc x) x) = l.foldl stepR (stepR acc x)
      rw [step_twice x h]
    · show (y :: l).foldl stepR (stepR acc x) = (packP (y :: l)).foldl stepR (stepR acc x)
      exact bend_pack_from (y :: l) _ (by simp [stepR])
theorem bend_pack (l : List P2) : bendR l = bendR (packP l) ∨ ∃ s, packP l = [s] ∧ bendR l = [s, s] := by
  match l with
  | [] => exact .inl rfl
  | [_] => exact .inl rfl
  | x :: y :: l =>
    rw [packP]
    by_cases e : x = y
    · rw [if_pos e]
      subst e
      obtain ⟨t, ht⟩ := packP_head l x
      have h1 : bendR (x :: x :: l) = (packP (x :: l)).foldl stepR [x] := bend_pack_from (x :: l) [x] (by simp)
      rw [h1, ht]
      match t with
      | [] => exact .inr ⟨x, rfl, rfl⟩
      | z :: t =>
        left
        show t.foldl stepR (stepR [x, x] z) = t.foldl stepR (stepR [x] z)
        congr 1
        unfold stepR
        rw [popR, if_pos (by rw [turn_same]; exact Int.le_refl _)]
    · rw [if_neg e]
      exact .inl (bend_pack_from (y :: l) [x] (by simp))
theorem bendL_pack {l : List P2} (h : (packP l).length ≠ 1) : bendL l = bendL (packP l) := by
  unfold bendL
  rcases bend_pack l with e | ⟨s, e, _⟩
  · rw [e]
  · rw [e] at h; simp at h
theorem bendL_one {l : List P2} (h : (packP l).length ≤ 1) : (bendL l).length ≤ 1 := by
  unfold bendL
  rcases bend_pack l with e | ⟨s, _, e⟩
  · rw [e]
    have := bendR_len (packP l) []
    unfold bendR
    simp only [List.length_reverse, List.length_tail, List.length_nil] at *; omega
  · rw [e]; simp
theorem cornL_two {l : List P2} (h : l.length ≤ 2) : (cornL l).length < 3 := by
  have := cornL_len l
  match l with
  | [] => simp [cornL, bendL, bendR]
  | [a] => simp at this; omega
  | [a, b] => simp [cornL, bendL, bendR, stepR, popR]
  | _ :: _ :: _ :: _ => simp at h
/-- The corners, if they are a polygon's. -/
def cornR (l : List P2) : List P2 × Bool := if (cornL l).length < 3 ∨ 12 < (cornL l).length then ([], false) else (cornL l, true)
theorem corn_pack {d s : List P2} (h1 : packP d = s) (h2 : packP d.reverse = s.reverse) : cornR d = if s.length < 3 then ([], false) else cornR s := by
  by_cases h : s.length ≤ 1
  · rw [if_pos (by omega)]
    have a := bendL_one (l := d) (by rw [h1]; exact h)
    have b := bendL_one (l := d.reverse) (by rw [h2, List.length_reverse]; exact h)
    unfold cornR
    rw [if_pos]
    left
    unfold cornL
    rw [List.length_append]; omega
  · have e : cornL d = cornL s := by
      unfold cornL
      rw [bendL_pack (l := d) (by rw [h1]; omega), bendL_pack (l := d.reverse) (by rw [h2, List.length_reverse]; omega), h1, h2]
    have e2 : cornR d = cornR s := by unfold cornR; rw [e]
    rw [e2]
    by_cases h3 : s.length < 3
    · rw [if_pos h3]
      have := cornL_two (l := s) (by omega)
      unfold cornR
      rw [if_pos (.inl this)]
    · rw [if_neg h3]

/-- Points in order. -/
def ltP (a b : P2) : Prop := a.1 < b.1 ∨ (a.1 = b.1 ∧ a.2 < b.2)
instance (a b : P2) : Decidable (ltP a b) := inferInstanceAs (Decidable (_ ∨ _))
theorem ltP_asymm (a b : P2) (h1 : ltP a b) (h2 : ltP b a) : False := by unfold ltP at *; omega
theorem ltP_tri {a b : P2} (h1 : ¬ ltP a b) (h2 : ¬ ltP b a) : a = b := by
  unfold ltP at *
  exact Prod.ext (by omega) (by omega)
theorem pack_mem : ∀ (l : List P2) (p : P2), p ∈ packP l ↔ p ∈ l
  | [], _ => Iff.rfl
  | [_], _ => Iff.rfl
  | x :: y :: l, p => by
    rw [packP]
    split
    · rename_i e
      subst e
      rw [pack_mem (x :: l)]
      simp
    · rw [List.mem_cons, pack_mem (y :: l), List.mem_cons (b := x)]
theorem pack_strict {r : P2 → P2 → Prop} : ∀ (l : List P2), (∀ a b, ¬ r b a → a ≠ b → r a b) → (∀ a b c, r a b → ¬ r c b → r a c) → l.Pairwise (fun a b => ¬ r b a) → (packP l).Pairwise r
  | [], _, _, _ => List.Pairwise.nil
  | [_], _, _, _ => List.pairwise_singleton ..
  | x :: y :: l, ht, hc, h => by
    rw [packP]
    rw [List.pairwise_cons] at h
    split
    · exact pack_strict (y :: l) ht hc h.2
    · rename_i e
      rw [List.pairwise_cons]
      refine ⟨fun q hq => ?_, pack_strict (y :: l) ht hc h.2⟩
      have hxy := ht x y (h.1 y (List.mem_cons_self ..)) e
      rcases List.mem_cons.1 ((pack_mem (y :: l) q).1 hq) with e | k
      · rw [e]; exact hxy
      · exact hc x y q hxy ((List.pairwise_cons.1 h.2).1 q k)
/-- Sorted points, packed, are the strictly sorted ones. -/
theorem pack_eq {d s : List P2} (hd : d.Pairwise (fun a b => ¬ ltP b a)) (hs : s.Pairwise ltP) (hm : ∀ p, p ∈ d ↔ p ∈ s) : packP d = s ∧ packP d.reverse = s.reverse := by
  constructor
  · refine strict_ext ltP_asymm _ _ (pack_strict d (fun a b h1 h2 => ?_) (fun a b c h1 h2 => ?_) hd) hs fun p => by rw [pack_mem, hm]
    · by_cases h : ltP a b
      · exact h
      · exact absurd (ltP_tri h h1) h2
    · unfold ltP at *; omega
  · refine strict_ext (r := fun a b => ltP b a) (fun a b h1 h2 => ltP_asymm _ _ h2 h1) _ _ (pack_strict (r := fun a b => ltP b a) d.reverse (fun a b h1 h2 => ?_) (fun a b c h1 h2 => ?_) (List.pairwise_reverse.2 hd)) (List.pairwise_reverse.2 hs) fun p => by rw [pack_mem, List.mem_reverse, List.mem_reverse, hm]
    · by_cases h : ltP b a
      · exact h
      · exact absurd (ltP_tri h1 h) h2
    · unfold ltP at *; omega

/-- A row of two numbers as a point; a point as a row. -/
def ptOf (v : List Int) : P2 := (v.getD 0 0, v.getD 1 0)
def rowOf (p : P2) : List Int := [p.1, p.2]
theorem row_pt {v : List Int} (h : v.length = 2) : rowOf (ptOf v) = v := by
  match v, h with
  | [a, b], _ => rfl
theorem pt_row (p : P2) : ptOf (rowOf p) = p := rfl
theorem before_pt {a b : List Int} (ha : a.length = 2) (hb : b.length = 2) : beforeL a b = true ↔ ltP (ptOf a) (ptOf b) := by
  match a, b, ha, hb with
  | [a0, a1], [b0, b1], _, _ =>
    unfold ltP ptOf
    simp only [beforeL, List.getD_cons_zero, List.getD_cons_succ]
    by_cases e : a0 = b0
    · rw [if_pos e]
      by_cases e2 : a1 = b1
      · rw [if_pos e2]; simp; omega
      · rw [if_neg e2]; simp; omega
    · rw [if_neg e]; simp; omega

/-! What the functions of this chapter answer. -/
def flatR (l : List (List Int)) : Bool := l.all fun v => decide (v.length = 2) && small v 50
theorem flatR_t {l : List (List Int)} (h : flatR l = true) : ∀ v ∈ l, v.length = 2 ∧ small v 50 = true := by
  intro v hv
  unfold flatR at h
  rw [List.all_eq_true] at h
  have := h v hv
  rw [Bool.and_eq_true] at this
  exact ⟨of_decide_eq_true this.1, this.2⟩
def sortL (l : List (List Int)) : List P2 := (l.foldl putL []).map ptOf
def hullP (l : List (List Int)) : List P2 × Bool :=
  if 200 < l.length ∨ ¬ flatR l = true then ([], false) else if (sortL l).length < 3 then ([], false) else cornR (sortL l)
def hullR (l : List (List Int)) : List (List Int) × Bool := ((hullP l).1.map rowOf, (hullP l).2)
theorem sortL_rows {l : List (List Int)} (h : flatR l = true) : (sortL l).map rowOf = l.foldl putL [] := by
  have hm := (foldL_put (n := 2) l [] (fun q hq => (flatR_t h q hq).1) (fun q hq => by cases hq) List.Pairwise.nil).2
  unfold sortL
  rw [List.map_map]
  refine (List.map_congr_left fun v hv => ?_).trans (List.map_id _)
  rcases (hm v).1 hv with k | k
  · cases k
  · exact row_pt (flatR_t h v k).1
theorem sortL_strict {l : List (List Int)} (h : flatR l = true) : (sortL l).Pairwise ltP ∧ ∀ p, p ∈ sortL l ↔ p ∈ l.map ptOf := by
  obtain ⟨h1, hm⟩ := foldL_put (n := 2) l [] (fun q hq => (flatR_t h q hq).1) (fun q hq => by cases hq) List.Pairwise.nil
  have hl : ∀ v ∈ l.foldl putL [], v.length = 2 := fun v hv => by
    rcases (hm v).1 hv with k | k
    · cases k
    · exact (flatR_t h v k).1
  refine ⟨?_, fun p => ?_⟩
  · unfold sortL
    rw [List.pairwise_map]
    exact h1.imp_of_mem fun {a b} ha hb hab => (before_pt (hl a ha) (hl b hb)).1 hab
  · unfold sortL
    simp only [List.mem_map]
    constructor
    · rintro ⟨v, hv, rfl⟩
      rcases (hm v).1 hv with k | k
      · cases k
      · exact ⟨v, k, rfl⟩
    · rintro ⟨v, hv, rfl⟩
      exact ⟨v, (hm v).2 (.inr hv), rfl⟩
/-- As the program finds the corners: of the points sorted in whatever way. -/
theorem hull_prog {l : List (List Int)} {d : List P2} (h0 : l.length ≤ 200) (h : flatR l = true) (hd : d.Pairwise (fun a b => ¬ ltP b a)) (hm : ∀ p, p ∈ d ↔ p ∈ l.map ptOf) : hullP l = cornR d := by
  obtain ⟨h1, h2⟩ := sortL_strict h
  obtain ⟨k1, k2⟩ := pack_eq hd h1 (fun p => by rw [hm, h2])
  unfold hullP
  rw [if_neg (by rintro (c | c); omega; exact c h), corn_pack k1 k2]
end Go.Proofs.Ytoekgcafhcamjaa
