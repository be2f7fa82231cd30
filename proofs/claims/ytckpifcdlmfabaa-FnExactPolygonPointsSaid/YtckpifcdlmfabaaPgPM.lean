/- Plain facts on the whole points of a polygon. -/
import Derived.Test.YtckpifcdlmfabaaPgY
import Derived.Test.YtckpifcdlmfabaaPgL0
namespace Go.Proofs.Ytckpifcdlmfabaa

theorem last_step (acc : List P2) (x : P2) (h : acc ≠ []) : (stepR acc x).getLast? = acc.getLast? := by
  unfold stepR
  obtain ⟨k, hk⟩ := popR_app acc x
  have hn := popR_ne acc x h
  rw [List.getLast?_cons]
  rw [hk] at hn ⊢
  have hl : ¬ acc.length ≤ k := fun c => hn (List.drop_eq_nil_iff.2 c)
  rw [List.getLast?_drop, if_neg hl]
  cases hq : acc.getLast? with
  | none => rw [List.getLast?_eq_none_iff] at hq; exact absurd hq h
  | some y => rfl
theorem last_fold : ∀ (l acc : List P2), acc ≠ [] → (l.foldl stepR acc).getLast? = acc.getLast?
  | [], _, _ => rfl
  | x :: l, acc, h => by
    rw [List.foldl_cons, last_fold l (stepR acc x) (by simp [stepR]), last_step acc x h]
theorem bend_long : ∀ (l acc : List P2), 2 ≤ acc.length → 2 ≤ (l.foldl stepR acc).length
  | [], _, h => h
  | x :: l, acc, h => by
    rw [List.foldl_cons]
    refine bend_long l _ ?_
    have hn := popR_ne acc x (by intro e; rw [e] at h; simp at h)
    unfold stepR
    match hp : popR acc x, hn with
    | a :: r, _ => simp
theorem bendL_head (s t : P2) (l : List P2) : (bendL (s :: t :: l)).head? = some s := by
  have h1 : bendR (s :: t :: l) = l.foldl stepR [t, s] := rfl
  have h2 := last_fold l [t, s] (by simp)
  have h3 := bend_long l [t, s] (by simp)
  unfold bendL
  rw [h1, List.head?_reverse]
  match hq : l.foldl stepR [t, s], h3 with
  | a :: b :: r, _ =>
    rw [hq] at h2
    simpa using h2
theorem cornL_head (s t : P2) (l : List P2) : (cornL (s :: t :: l)).head? = some s := by
  have h := bendL_head s t l
  unfold cornL
  rw [List.head?_append, h]; rfl
/-- The first corner is the least one. -/
theorem poly_first {p : List (List Int)} (h : polyR p = true) : ∀ q ∈ p.map ptOf, ((p.map ptOf).getD 0 (0, 0)).1 ≤ q.1 := by
  have e := polyR_t h
  have hs := polyR_shape h
  have e1 : hullP p = (p.map ptOf, true) := by
    unfold hullR at e
    have a := congrArg Prod.fst e
    have b := congrArg Prod.snd e
    simp only at a b
    refine Prod.ext ?_ b
    simp only
    rw [← a, List.map_map, show ptOf ∘ rowOf = id from rfl, List.map_id, a]
  unfold hullP at e1
  split at e1
  · cases (congrArg Prod.snd e1)
  · split at e1
    · cases (congrArg Prod.snd e1)
    · rename_i h3
      have hc : cornL (sortL p) = p.map ptOf := by
        unfold cornR at e1
        split at e1
        · cases (congrArg Prod.snd e1)
        · exact congrArg Prod.fst e1
      have hst := (sortL_strict hs.2.2).1
      match hS : sortL p, h3 with
      | [], h3 => simp at h3
      | [_], h3 => simp at h3
      | s :: t :: l, _ =>
        rw [hS] at hc hst
        have hh := cornL_head s t l
        rw [hc] at hh
        have h0 : (p.map ptOf).getD 0 (0, 0) = s := by
          rw [List.getD_eq_getElem?_getD, ← List.head?_eq_getElem?, hh]; rfl
        rw [h0]
        intro q hq
        rw [← hc] at hq
        have hm := cornL_mem hq
        rcases List.mem_cons.1 hm with e | k
        · rw [e]; exact Int.le_refl _
        · have := (List.pairwise_cons.1 hst).1 q k
          unfold ltP at this
          omega

/-- The least and the greatest number. -/
def loM (f : P2 → Int) (ps : List P2) : Int := ps.foldl (fun m p => min m (f p)) (f (ps.getD 0 (0, 0)))
def hiM (f : P2 → Int) (ps : List P2) : Int := ps.foldl (fun m p => max m (f p)) (f (ps.getD 0 (0, 0)))
def loT (f : P2 → Int) (ps : List P2) (k : Nat) : Int := (ps.take k).foldl (fun m p => min m (f p)) (f (ps.getD 0 (0, 0)))
def hiT (f : P2 → Int) (ps : List P2) (k : Nat) : Int := (ps.take k).foldl (fun m p => max m (f p)) (f (ps.getD 0 (0, 0)))
theorem loT_step {f : P2 → Int} {ps : List P2} {k : Nat} (h : k < ps.length) : loT f ps (k + 1) = min (loT f ps k) (f ps[k]) := by
  unfold loT
  rw [List.take_succ_eq_append_getElem h, List.foldl_append]; rfl
theorem hiT_step {f : P2 → Int} {ps : List P2} {k : Nat} (h : k < ps.length) : hiT f ps (k + 1) = max (hiT f ps k) (f ps[k]) := by
  unfold hiT
  rw [List.take_succ_eq_append_getElem h, List.foldl_append]; rfl
theorem loT_all (f : P2 → Int) (ps : List P2) : loT f ps ps.length = loM f ps := by unfold loT loM; rw [List.take_length]
theorem hiT_all (f : P2 → Int) (ps : List P2) : hiT f ps ps.length = hiM f ps := by unfold hiT hiM; rw [List.take_length]
theorem loM_bd {f : P2 → Int} {n : Int} : ∀ (l : List P2) (m : Int), (-n ≤ m ∧ m ≤ n) → (∀ p ∈ l, -n ≤ f p ∧ f p ≤ n) → -n ≤ l.foldl (fun m p => min m (f p)) m ∧ l.foldl (fun m p => min m (f p)) m ≤ n
  | [], _, h, _ => h
  | p :: l, m, h, k => by
    rw [List.foldl_cons]
    have := k p (List.mem_cons_self ..)
    exact loM_bd l _ (by omega) (fun q hq => k q (List.mem_cons_of_mem _ hq))
theorem hiM_bd {f : P2 → Int} {n : Int} : ∀ (l : List P2) (m : Int), (-n ≤ m ∧ m ≤ n) → (∀ p ∈ l, -n ≤ f p ∧ f p ≤ n) → -n ≤ l.foldl (fun m p => max m (f p)) m ∧ l.foldl (fun m p => max m (f p)) m ≤ n
  | [], _, h, _ => h
  | p :: l, m, h, k => by
    rw [List.foldl_cons]
    have := k p (List.mem_cons_self ..)
    exact hiM_bd l _ (by omega) (fun q hq => k q (List.mem_cons_of_mem _ hq))
theorem lo_first {f : P2 → Int} : ∀ (l : List P2) (m : Int), (∀ p ∈ l, m ≤ f p) → l.foldl (fun m p => min m (f p)) m = m
  | [], _, _ => rfl
  | p :: l, m, k => by
    rw [List.foldl_cons]
    have h := k p (List.mem_cons_self ..)
    rw [show min m (f p) = m by omega]
    exact lo_first l m (fun q hq => k q (List.mem_cons_of_mem _ hq))
theorem lo_poly {p : List (List Int)} (h : polyR p = true) : loM (·.1) (p.map ptOf) = ((p.map ptOf).getD 0 (0, 0)).1 := lo_first _ _ (poly_first h)
theorem getD_bd {ps : List P2} {n : Int} (h0 : 0 < ps.length) (h : ∀ p ∈ ps, BdP n p) : BdP n (ps.getD 0 (0, 0)) := by
  rw [List.getD_eq_getElem?_getD, List.getElem?_eq_getElem h0]
  exact h _ (List.getElem_mem _)

/-- The points of a column below m, of the columns below n. -/
def colP (L : List S2) (x lo : Int) (m : Nat) : List P2 := ((List.range m).map fun (j : Nat) => ((x, lo + (j : Int)) : P2)).filter fun q => decide (0 ≤ placeL L q)
theorem colP_step (L : List S2) (x lo : Int) (m : Nat) : colP L x lo (m + 1) = colP L x lo m ++ (if 0 ≤ placeL L (x, lo + (m : Int)) then [(x, lo + (m : Int))] else []) := by
  unfold colP
  rw [List.range_succ, List.map_append, List.filter_append]
  congr 1
  by_cases h : 0 ≤ placeL L (x, lo + (m : Int))
  · simp [h]
  · simp [h]
theorem colP_len (L : List S2) (x lo : Int) (m : Nat) : (colP L x lo m).length ≤ m := by
  unfold colP
  have := List.length_filter_le (fun q => decide (0 ≤ placeL L q)) ((List.range m).map fun (j : Nat) => ((x, lo + (j : Int)) : P2))
  simpa using this
def colsP (L : List S2) (l lo : Int) (h n : Nat) : List P2 := (List.range n).flatMap fun (i : Nat) => colP L (l + (i : Int)) lo h
theorem colsP_step (L : List S2) (l lo : Int) (h n : Nat) : colsP L l lo h (n + 1) = colsP L l lo h n ++ colP L (l + (n : Int)) lo h := by
  unfold colsP
  rw [List.range_succ, List.flatMap_append]; simp
theorem colsP_len (L : List S2) (l lo : Int) (h : Nat) (hh : h ≤ 101) : ∀ n, (colsP L l lo h n).length ≤ 101 * n
  | 0 => by simp [colsP]
  | n + 1 => by
    rw [colsP_step, List.length_append]
    have h1 := colsP_len L l lo h hh n
    have h2 := colP_len L (l + (n : Int)) lo h
    omega
def wideN (a b : Int) : Nat := (b - a + 1).toNat
def ptsP (ps : List P2) : List P2 := colsP (sidesP ps) (loM (·.1) ps) (loM (·.2) ps) (wideN (loM (·.2) ps) (hiM (·.2) ps)) (wideN (loM (·.1) ps) (hiM (·.1) ps))
def pointsR (p : List (List Int)) : List (List Int) := if polyR p = true ∧ areaL (sidesR p) ≤ 2000 then (ptsP (p.map ptOf)).map rowOf else []
/-- The numbers of a polygon. -/
theorem poly_box {p : List (List Int)} (h : polyR p = true) : (-50 ≤ loM (·.1) (p.map ptOf) ∧ loM (·.1) (p.map ptOf) ≤ 50) ∧ (-50 ≤ loM (·.2) (p.map ptOf) ∧ loM (·.2) (p.map ptOf) ≤ 50) ∧ (-50 ≤ hiM (·.1) (p.map ptOf) ∧ hiM (·.1) (p.map ptOf) ≤ 50) ∧ (-50 ≤ hiM (·.2) (p.map ptOf) ∧ hiM (·.2) (p.map ptOf) ≤ 50) := by
  have hb := poly_bd h
  have h0 := getD_bd (by have := poly_len h; omega) hb
  exact ⟨loM_bd _ _ h0.1 fun q hq => (hb q hq).1, loM_bd _ _ h0.2 fun q hq => (hb q hq).2, hiM_bd _ _ h0.1 fun q hq => (hb q hq).1, hiM_bd _ _ h0.2 fun q hq => (hb q hq).2⟩
theorem ptsP_len {p : List (List Int)} (h : polyR p = true) : (ptsP (p.map ptOf)).length ≤ 10201 := by
  have hb := poly_box h
  unfold ptsP
  have h1 := colsP_len (sidesP (p.map ptOf)) (loM (·.1) (p.map ptOf)) (loM (·.2) (p.map ptOf)) (wideN (loM (·.2) (p.map ptOf)) (hiM (·.2) (p.map ptOf))) (by unfold wideN; omega) (wideN (loM (·.1) (p.map ptOf)) (hiM (·.1) (p.map ptOf)))
  have h2 : wideN (loM (·.1) (p.map ptOf)) (hiM (·.1) (p.map ptOf)) ≤ 101 := by unfold wideN; omega
  omega
theorem pointsR_len (p : List (List Int)) : tot (pointsR p) ≤ 20402 := by
  unfold pointsR
  split
  · rename_i h
    rw [tot_rows]
    have := ptsP_len h.1
    omega
  · simp [tot]
end Go.Proofs.Ytckpifcdlmfabaa
