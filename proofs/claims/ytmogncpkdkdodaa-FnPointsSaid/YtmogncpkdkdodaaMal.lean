/- The program's vectors: PrimitiveOf, BeforeVector. -/
import Derived.Test.YtmogncpkdkdodaaVecJ
import Derived.Laws.StructEq
import Derived.Laws.Cover2
import Derived.Test.YtmogncpkdkdodaaMab
namespace Go.Proofs.Ytmogncpkdkdodaa
open Go.RowKit Go.Lib

theorem allG_zero {x y z : Int} (n : Nat) (h : x = 0 ∧ y = 0 ∧ z = 0) : allG ([x, y, z].take n) = 0 := by
  obtain ⟨rfl, rfl, rfl⟩ := h
  match n with
  | 0 => rfl
  | 1 => rfl
  | 2 => rfl
  | n + 3 => simp [allG, gcdI]
theorem allG_dvd (v : List Int) : ∀ x ∈ v, allG v ∣ x := by
  have key : ∀ (v : List Int) (g : Int), (v.foldl gcdI g ∣ g) ∧ ∀ x ∈ v, v.foldl gcdI g ∣ x := by
    intro v
    induction v with
    | nil => intro g; exact ⟨Int.dvd_refl _, by simp⟩
    | cons y r ih =>
      intro g
      obtain ⟨h1, h2⟩ := ih (gcdI g y)
      refine ⟨Int.dvd_trans h1 (Int.gcd_dvd_left ..), fun x hx => ?_⟩
      rcases List.mem_cons.1 hx with rfl | hx
      · exact Int.dvd_trans h1 (Int.gcd_dvd_right ..)
      · exact h2 x hx
  exact (key v 0).2
theorem allG_pos {v : List Int} (h : ¬ ∀ x ∈ v, x = 0) : 0 < allG v := by
  have h0 := allG_nonneg v
  by_cases hz : allG v = 0
  · exfalso; apply h
    intro x hx
    have := allG_dvd v x hx
    rw [hz] at this
    exact Int.zero_dvd.1 this
  · omega
theorem pad_zero {v : List Int} {x y z : Int} (e : v = [x, y, z].take v.length) (h3 : v.length < 3 → z = 0) (h2 : v.length < 2 → y = 0) (h1 : 1 ≤ v.length) (h : ∀ u ∈ v, u = 0) : x = 0 ∧ y = 0 ∧ z = 0 := by
  have hx : x ∈ v := by
    rw [e]
    obtain ⟨n, hn⟩ : ∃ n, v.length = n + 1 := ⟨v.length - 1, by omega⟩
    rw [hn]; simp
  refine ⟨h x hx, ?_, ?_⟩
  · by_cases hl : v.length < 2
    · exact h2 hl
    · refine h y ?_
      rw [e]
      obtain ⟨n, hn⟩ : ∃ n, v.length = n + 2 := ⟨v.length - 2, by omega⟩
      rw [hn]; simp
  · by_cases hl : v.length < 3
    · exact h3 hl
    · refine h z ?_
      rw [e]
      obtain ⟨n, hn⟩ : ∃ n, v.length = n + 3 := ⟨v.length - 3, by omega⟩
      rw [hn]; simp
theorem take_prim {x y z g : Int} (n : Nat) : ([x, y, z].take n).map (fun u => u.tdiv g) = [x.tdiv g, y.tdiv g, z.tdiv g].take n := by
  match n with
  | 0 => rfl
  | 1 => rfl
  | 2 => rfl
  | n + 3 => simp
theorem tdiv_bd {x g M : Int} (h1 : -M ≤ x) (h2 : x ≤ M) : -M ≤ x.tdiv g ∧ x.tdiv g ≤ M := by
  have h := Int.natAbs_tdiv_le_natAbs x g
  generalize x.tdiv g = q at *
  omega
theorem small_mk {v : List Int} {n : Int} (h : Bd v n) : small v n = true := by
  unfold small
  rw [List.all_eq_true]
  intro x hx
  obtain ⟨k, hk, rfl⟩ := List.getElem_of_mem hx
  exact inR_mk (h k hk).1 (h k hk).2
theorem isV_prim {v : List Int} (h : isV v = true) : isV (primL v) = true := by
  obtain ⟨h1, h2, h3⟩ := isV_t h
  have hl : (primL v).length = v.length := by simp [primL]
  rw [isV_mk (by omega) (by omega)]
  refine small_mk ?_
  intro k hk
  have hb := small_bd h3 k (by omega)
  simp only [primL, List.getElem_map]
  exact tdiv_bd hb.1 hb.2
theorem primR_vec {u : List Int} (h : isV u = true) (h0 : 0 < allG u) : primR u = vecR (primL u) := by
  unfold primR vecR
  rw [if_pos ⟨h, h0⟩, if_pos (isV_prim h)]
theorem padz {x y z x' y' z' : Int} {u v : List Int} (hl : u.length = v.length) (e : u = [x, y, z].take u.length) (e' : v = [x', y', z'].take v.length) (h : x = x' ∧ y = y' ∧ z = z') : u = v := by
  obtain ⟨rfl, rfl, rfl⟩ := h
  rw [e, e', hl]
theorem pad_same {x y z x' y' z' : Int} {u : List Int} (h : splice [Value.int .i64 0, .int .i64 0, .int .i64 0] 0 (intVals u) = [.int .i64 x, .int .i64 y, .int .i64 z]) (h' : splice [Value.int .i64 0, .int .i64 0, .int .i64 0] 0 (intVals u) = [.int .i64 x', .int .i64 y', .int .i64 z']) : x = x' ∧ y = y' ∧ z = z' := by
  rw [h] at h'
  simpa using h'

theorem eq_arr (x y z x' y' z' : Int) (w : World) : (Op.equalIn 10000 77 (.agg #[.int .i64 x, .int .i64 y, .int .i64 z]) (.agg #[.int .i64 x', .int .i64 y', .int .i64 z'])).run Try.prog w = .ok (decide (x = x' ∧ y = y' ∧ z = z')) w := by
  have u3 := Try.underlying3
  have a3 := Try.isAgg3
  have z3 := Try.sizeOf3
  rw [show (10000 : Nat) = 9999 + 1 from rfl, Op.equalIn]
  simp only [Sem.run_bind, run_underlying Try.underlying77, Result.andThen_ok]
  simp only [Std.Legacy.Range.forIn_eq_forIn_range', Std.Legacy.Range.size, Nat.sub_zero, Nat.add_sub_cancel, Nat.div_one, List.range'_succ, List.range'_zero, List.forIn_cons, List.forIn_nil]
  go_simp
  by_cases h1 : x = x' <;> by_cases h2 : y = y' <;> by_cases h3 : z = z' <;> simp [h1, h2, h3]
theorem eq_arr_t {x y z x' y' z' : Int} (h : x = x' ∧ y = y' ∧ z = z') (w : World) : (Op.equalIn 10000 77 (.agg #[.int .i64 x, .int .i64 y, .int .i64 z]) (.agg #[.int .i64 x', .int .i64 y', .int .i64 z'])).run Try.prog w = .ok true w := by
  rw [eq_arr, decide_eq_true h]
theorem eq_arr_f {x y z x' y' z' : Int} (h : ¬ (x = x' ∧ y = y' ∧ z = z')) (w : World) : (Op.equalIn 10000 77 (.agg #[.int .i64 x, .int .i64 y, .int .i64 z]) (.agg #[.int .i64 x', .int .i64 y', .int .i64 z'])).run Try.prog w = .ok false w := by
  rw [eq_arr, decide_eq_false h]

end Go.Proofs.Ytmogncpkdkdodaa
/- Plain facts: a region's points are told by its slices at the first number. -/
namespace Go.Proofs.Ytmogncpkdkdodaa

theorem halfOk_mk {n : Int} {h : Hf} (h1 : 1 ≤ n) (h2 : n ≤ 3) (h3 : (h.1.length : Int) = n) (h4 : Bd h.1 20) (h5 : 0 < allG h.1) (h6 : -200 ≤ h.2) (h7 : h.2 ≤ 200) : halfOk n h = true := by
  unfold halfOk
  rw [inR_mk h1 h2, decide_eq_true h3, small_mk h4, decide_eq_true h5, inR_mk h6 h7]
  rfl
theorem boxP_front (R : List Int) : ∀ n : Nat, boxP R (n + 1) = R.flatMap fun x => (boxP R n).map fun p => x :: p
  | 0 => by
    simp only [boxP, List.flatMap_cons, List.flatMap_nil, List.append_nil, List.nil_append, List.map_cons, List.map_nil]
    induction R with
    | nil => rfl
    | cons x R ih => rw [List.map_cons, List.flatMap_cons, ih]; rfl
  | n + 1 => by
    rw [show boxP R (n + 1 + 1) = (boxP R (n + 1)).flatMap fun p => R.map fun x => p ++ [x] from rfl]
    conv => lhs; rw [boxP_front R n]
    rw [List.flatMap_assoc]
    refine flatMap_cg fun x _ => ?_
    rw [show boxP R (n + 1) = (boxP R n).flatMap fun p => R.map fun x => p ++ [x] from rfl, List.flatMap_map, List.map_flatMap]
    refine flatMap_cg fun p _ => ?_
    rw [List.map_map]
    rfl
/-- How many points have the first number x. -/
def cntAt (n : Nat) (hs : List Hf) (x : Int) : Nat := ((boxP (axis 6) n).filter fun p => hasL hs (x :: p)).length
theorem pts_sum (n : Nat) (hs : List Hf) : (ptsL (n + 1 : Nat) hs).length = ((axis 6).map (cntAt n hs)).sum := by
  unfold ptsL
  rw [show (((n + 1 : Nat) : Int)).toNat = n + 1 by omega, boxP_front]
  generalize hA : boxP (axis 6) n = B
  have e : ∀ x, cntAt n hs x = ((B.map fun p => x :: p).filter (hasL hs)).length := fun x => by
    unfold cntAt
    rw [hA, List.filter_map, List.length_map]
    rfl
  generalize axis 6 = R
  induction R with
  | nil => rfl
  | cons x R ih => rw [List.flatMap_cons, List.filter_append, List.length_append, ih, List.map_cons, List.sum_cons, e]
theorem dot_cons {a : List Int} {x : Int} {p : List Int} (h : 1 ≤ a.length) : dotL a (x :: p) = a.getD 0 0 * x + dotL (cutN 0 a) p := by
  match a, h with
  | y :: a, _ => simp [dotL, cutN]
theorem dot_zero {a p : List Int} (h : ∀ x, x ∈ a → x = 0) : dotL a p = 0 := by
  unfold dotL
  induction a generalizing p with
  | nil => simp
  | cons y a ih =>
    cases p with
    | nil => simp
    | cons z p =>
      rw [List.zipWith_cons_cons, List.sum_cons, ih fun x hx => h x (List.mem_cons_of_mem _ hx), h y (List.mem_cons_self ..)]
      simp
theorem has_cons {hs : List Hf} {x : Int} {p : List Int} (hl : ∀ h, h ∈ hs → 1 ≤ h.1.length) : hasL hs (x :: p) = hasL (hs.map (slH 0 x)) p := by
  unfold hasL
  rw [List.all_map]
  induction hs with
  | nil => rfl
  | cons h hs ih =>
    rw [List.all_cons, List.all_cons, ih fun h hh => hl h (List.mem_cons_of_mem _ hh)]
    congr 1
    rw [dot_cons (hl h (List.mem_cons_self ..))]
    show decide (_ ≤ h.2) = decide (dotL (cutN 0 h.1) p ≤ h.2 - h.1.getD 0 0 * x)
    exact decide_eq_decide.2 ⟨fun _ => by omega, fun _ => by omega⟩
theorem allG_none {a : List Int} (h : ¬ 0 < allG a) : ∀ x, x ∈ a → x = 0 := by
  intro x hx
  refine Classical.byContradiction fun hn => h (allG_pos fun hall => hn (hall x hx))
theorem has_slice {hs : List Hf} {x : Int} {p : List Int} (hl : ∀ h, h ∈ hs → 1 ≤ h.1.length) : hasL hs (x :: p) = (hs.all (slOk 0 x) && hasL (slL 0 x hs) p) := by
  rw [has_cons hl]
  unfold slL
  clear hl
  induction hs with
  | nil => rfl
  | cons h hs ih =>
    rw [List.map_cons, List.all_cons]
    by_cases hg : 0 < allG (slH 0 x h).1
    · rw [List.filter_cons_of_pos (by simpa using hg)]
      have e1 : slOk 0 x h = true := by unfold slOk; rw [decide_eq_true hg]; rfl
      have e2 : ∀ (h : Hf) (l : List Hf), hasL (h :: l) p = (decide (dotL h.1 p ≤ h.2) && hasL l p) := fun h l => List.all_cons
      rw [e2, e2, ih, e1, Bool.true_and]
      cases decide (dotL (slH 0 x h).1 p ≤ (slH 0 x h).2) <;> cases hs.all (slOk 0 x) <;> rfl
    · rw [List.filter_cons_of_neg (by simpa using hg)]
      have e2 : ∀ (h : Hf) (l : List Hf), hasL (h :: l) p = (decide (dotL h.1 p ≤ h.2) && hasL l p) := fun h l => List.all_cons
      have e1 : slOk 0 x h = decide (0 ≤ (slH 0 x h).2) := by unfold slOk; rw [decide_eq_false hg]; rfl
      rw [e2, ih, e1, dot_zero (allG_none hg), Bool.and_assoc]
theorem cnt_ok {n : Nat} {hs : List Hf} {x : Int} (hr : regOk (n + 1 : Nat) hs = true) (h : (sliceR (n + 1 : Nat) hs 0 x).2 = true) :
    (sliceR (n + 1 : Nat) hs 0 x).1 = ((n : Int), slL 0 x hs) ∧ countR (n : Int) (slL 0 x hs) = cntAt n hs x := by
  have hl : ∀ h, h ∈ hs → 1 ≤ h.1.length := fun h hh => by
    obtain ⟨i, hi, e⟩ := List.getElem_of_mem hh
    have := halfOk_t ((regOk_t hr).2.2.2 i hi)
    rw [e] at this
    have := this.2.2.1
    omega
  unfold sliceR at h ⊢
  split at h
  · rename_i c
    rw [if_pos c]
    have hn : ((n + 1 : Nat) : Int) - 1 = n := by omega
    rw [hn] at c ⊢
    refine ⟨rfl, ?_⟩
    unfold countR ptsL cntAt
    have c6 : regOk (n : Int) (slL 0 x hs) = true := c.2.2.2.2.2
    show (if regOk (n : Int) (slL 0 x hs) = true then _ else (-1 : Int)) = _
    rw [if_pos c6, show (n : Int).toNat = n by omega]
    congr 3
    funext p
    rw [has_slice hl, show hs.all (slOk 0 x) = true from c.2.2.2.2.1, Bool.true_and]
  · cases h
theorem cnt_none {n : Nat} {hs : List Hf} {x : Int} (hr : regOk (n + 1 : Nat) hs = true) (hn1 : 1 ≤ n) (hx : -6 ≤ x ∧ x ≤ 6) (hb : ∀ (i : Nat) (hi : i < hs.length), -60 ≤ hs[i].2 ∧ hs[i].2 ≤ 60) (h : (sliceR (n + 1 : Nat) hs 0 x).2 = false) : cntAt n hs x = 0 := by
  have R := regOk_t hr
  have hl : ∀ h, h ∈ hs → 1 ≤ h.1.length := fun h hh => by
    obtain ⟨i, hi, e⟩ := List.getElem_of_mem hh
    have := halfOk_t (R.2.2.2 i hi)
    rw [e] at this
    have := this.2.2.1
    omega
  by_cases ha : hs.all (slOk 0 x) = true
  · exfalso
    have hn : ((n + 1 : Nat) : Int) - 1 = n := by omega
    have hn3 : n + 1 ≤ 3 := by have := R.2.1; omega
    have hok : regOk (n : Int) (slL 0 x hs) = true := by
      have hall : (slL 0 x hs).all (halfOk (n : Int)) = true := by
        rw [List.all_eq_true]
        intro g hg
        obtain ⟨hg1, hg2⟩ := List.mem_filter.1 hg
        obtain ⟨q, hq, rfl⟩ := List.mem_map.1 hg1
        obtain ⟨i, hi, rfl⟩ := List.getElem_of_mem hq
        have H := halfOk_t (R.2.2.2 i hi)
        have h0 := hb i hi
        have hlen : (cutN 0 hs[i].1).length = n := by rw [cutN_len (by have := H.2.2.1; omega)]; have := H.2.2.1; omega
        have hnum : -20 ≤ hs[i].1.getD 0 0 ∧ hs[i].1.getD 0 0 ≤ 20 := by
          rw [List.getD_eq_getElem?_getD, List.getElem?_eq_getElem (by have := H.2.2.1; omega)]
          exact H.2.2.2.1 0 (by have := H.2.2.1; omega)
        have hm := mul_bd hnum.1 hnum.2 hx.1 hx.2
        refine halfOk_mk (by omega) (by omega) ?_ (cutN_bdd H.2.2.2.1) (by simpa using hg2) ?_ ?_
        · show ((cutN 0 hs[i].1).length : Int) = n
          rw [hlen]
        · show -200 ≤ hs[i].2 - hs[i].1.getD 0 0 * x
          omega
        · show hs[i].2 - hs[i].1.getD 0 0 * x ≤ 200
          omega
      unfold regOk
      rw [hall, inR_mk (by omega) (by omega), decide_eq_true (by have := slL_len 0 x hs; have := R.2.2.1; omega)]
      rfl
    unfold sliceR at h
    rw [if_pos ⟨hr, by omega, inR_mk (by omega) (by omega), inR_mk hx.1 hx.2, ha, by rw [hn]; exact hok⟩] at h
    cases h
  · unfold cntAt
    rw [List.length_eq_zero_iff, List.filter_eq_nil_iff]
    intro p _
    rw [has_slice hl, show hs.all (slOk 0 x) = false by simpa using ha]
    simp
end Go.Proofs.Ytmogncpkdkdodaa
