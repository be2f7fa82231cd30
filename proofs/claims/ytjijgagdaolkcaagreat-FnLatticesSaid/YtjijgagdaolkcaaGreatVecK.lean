/- The program's vectors: PrimitiveOf, BeforeVector. -/
import Derived.Test.YtjijgagdaolkcaaGreatVecJ
import Derived.Laws.StructEq
import Derived.Laws.Cover2
namespace Go.Proofs.YtjijgagdaolkcaaGreat
open Go.RowKit Go.Lib

theorem allG_zero {x y z : Int} (n : Nat) (h : x = 0 ∧ y = 0 ∧ z = 0) : allG ([x, y, z].take n) = 0 := by
  obtain ⟨rfl, rfl, rfl⟩ := h
  match n with
  | 0 => rfl
  | 1 => rfl
  | 2 => rfl
  | n + 3 => simp [allG, gcdI]
theorem allG_dvd (v : List Int) : ∀ x ∈ v, allG v ∣ x := by
  have key : ∀ (v : List Int) (g : Int), (v.foldl gcdI g ∣ g) ∧ ∀ x ∈ v, v.foldl gcdI g ∣ x := by
    intro v
    induction v with
    | nil => intro g; exact ⟨Int.dvd_refl _, by simp⟩
    | cons y r ih =>
      intro g
      obtain ⟨h1, h2⟩ := ih (gcdI g y)
      refine ⟨Int.dvd_trans h1 (Int.gcd_dvd_left ..), fun x hx => ?_⟩
      rcases List.mem_cons.1 hx with rfl | hx
      · exact Int.dvd_trans h1 (Int.gcd_dvd_right ..)
      · exact h2 x hx
  exact (key v 0).2
theorem allG_pos {v : List Int} (h : ¬ ∀ x ∈ v, x = 0) : 0 < allG v := by
  have h0 := allG_nonneg v
  by_cases hz : allG v = 0
  · exfalso; apply h
    intro x hx
    have := allG_dvd v x hx
    rw [hz] at this
    exact Int.zero_dvd.1 this
  · omega
theorem pad_zero {v : List Int} {x y z : Int} (e : v = [x, y, z].take v.length) (h3 : v.length < 3 → z = 0) (h2 : v.length < 2 → y = 0) (h1 : 1 ≤ v.length) (h : ∀ u ∈ v, u = 0) : x = 0 ∧ y = 0 ∧ z = 0 := by
  have hx : x ∈ v := by
    rw [e]
    obtain ⟨n, hn⟩ : ∃ n, v.length = n + 1 := ⟨v.length - 1, by omega⟩
    rw [hn]; simp
  refine ⟨h x hx, ?_, ?_⟩
  · by_cases hl : v.length < 2
    · exact h2 hl
    · refine h y ?_
      rw [e]
      obtain ⟨n, hn⟩ : ∃ n, v.length = n + 2 := ⟨v.length - 2, by omega⟩
      rw [hn]; simp
  · by_cases hl : v.length < 3
    · exact h3 hl
    · refine h z ?_
      rw [e]
      obtain ⟨n, hn⟩ : ∃ n, v.length = n + 3 := ⟨v.length - 3, by omega⟩
      rw [hn]; simp
theorem take_prim {x y z g : Int} (n : Nat) : ([x, y, z].take n).map (fun u => u.tdiv g) = [x.tdiv g, y.tdiv g, z.tdiv g].take n := by
  match n with
  | 0 => rfl
  | 1 => rfl
  | 2 => rfl
  | n + 3 => simp
theorem tdiv_bd {x g M : Int} (h1 : -M ≤ x) (h2 : x ≤ M) : -M ≤ x.tdiv g ∧ x.tdiv g ≤ M := by
  have h := Int.natAbs_tdiv_le_natAbs x g
  generalize x.tdiv g = q at *
  omega
theorem small_mk {v : List Int} {n : Int} (h : Bd v n) : small v n = true := by
  unfold small
  rw [List.all_eq_true]
  intro x hx
  obtain ⟨k, hk, rfl⟩ := List.getElem_of_mem hx
  exact inR_mk (h k hk).1 (h k hk).2
theorem isV_prim {v : List Int} (h : isV v = true) : isV (primL v) = true := by
  obtain ⟨h1, h2, h3⟩ := isV_t h
  have hl : (primL v).length = v.length := by simp [primL]
  rw [isV_mk (by omega) (by omega)]
  refine small_mk ?_
  intro k hk
  have hb := small_bd h3 k (by omega)
  simp only [primL, List.getElem_map]
  exact tdiv_bd hb.1 hb.2
theorem primR_vec {u : List Int} (h : isV u = true) (h0 : 0 < allG u) : primR u = vecR (primL u) := by
  unfold primR vecR
  rw [if_pos ⟨h, h0⟩, if_pos (isV_prim h)]
theorem padz {x y z x' y' z' : Int} {u v : List Int} (hl : u.length = v.length) (e : u = [x, y, z].take u.length) (e' : v = [x', y', z'].take v.length) (h : x = x' ∧ y = y' ∧ z = z') : u = v := by
  obtain ⟨rfl, rfl, rfl⟩ := h
  rw [e, e', hl]
theorem pad_same {x y z x' y' z' : Int} {u : List Int} (h : splice [Value.int .i64 0, .int .i64 0, .int .i64 0] 0 (intVals u) = [.int .i64 x, .int .i64 y, .int .i64 z]) (h' : splice [Value.int .i64 0, .int .i64 0, .int .i64 0] 0 (intVals u) = [.int .i64 x', .int .i64 y', .int .i64 z']) : x = x' ∧ y = y' ∧ z = z' := by
  rw [h] at h'
  simpa using h'

theorem eq_arr (x y z x' y' z' : Int) (w : World) : (Op.equalIn 10000 43 (.agg #[.int .i64 x, .int .i64 y, .int .i64 z]) (.agg #[.int .i64 x', .int .i64 y', .int .i64 z'])).run Tryz.prog w = .ok (decide (x = x' ∧ y = y' ∧ z = z')) w := by
  have u3 := Tryz.underlying3
  have a3 := Tryz.isAgg3
  have z3 := Tryz.sizeOf3
  rw [show (10000 : Nat) = 9999 + 1 from rfl, Op.equalIn]
  simp only [Sem.run_bind, run_underlying Tryz.underlying43, Result.andThen_ok]
  simp only [Std.Legacy.Range.forIn_eq_forIn_range', Std.Legacy.Range.size, Nat.sub_zero, Nat.add_sub_cancel, Nat.div_one, List.range'_succ, List.range'_zero, List.forIn_cons, List.forIn_nil]
  go_simp
  by_cases h1 : x = x' <;> by_cases h2 : y = y' <;> by_cases h3 : z = z' <;> simp [h1, h2, h3]
theorem eq_arr_t {x y z x' y' z' : Int} (h : x = x' ∧ y = y' ∧ z = z') (w : World) : (Op.equalIn 10000 43 (.agg #[.int .i64 x, .int .i64 y, .int .i64 z]) (.agg #[.int .i64 x', .int .i64 y', .int .i64 z'])).run Tryz.prog w = .ok true w := by
  rw [eq_arr, decide_eq_true h]
theorem eq_arr_f {x y z x' y' z' : Int} (h : ¬ (x = x' ∧ y = y' ∧ z = z')) (w : World) : (Op.equalIn 10000 43 (.agg #[.int .i64 x, .int .i64 y, .int .i64 z]) (.agg #[.int .i64 x', .int .i64 y', .int .i64 z'])).run Tryz.prog w = .ok false w := by
  rw [eq_arr, decide_eq_false h]

end Go.Proofs.YtjijgagdaolkcaaGreat
