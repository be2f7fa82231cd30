/- The model's matrices: minors. -/
import Derived.Test.YteenheidomfpkaaMatX
namespace Go.Proofs.Yteenheidomfpkaa
open Go.RowKit Go.Lib

/-- append(out, ys...) at a step of a region that draws its order; ys: any slice that is not nil. -/
theorem step_app_sl {ops : Array Oper} {o : Oper} {a : Act} {w : World} {K : Act → World → Prop} {Q : Exit → Act → World → Prop} {E : Prop} (hgd : o.guard = none) (s x : Operand)
    (ho : o.op = .call { callee := .builtin .append, args := #[s, x], argTypes := #[31, 31] })
    (base : Nat) (v : Value) (n : Nat) (xs ys : List Int) (hs : a.eval s = v) (hown : w.ownsRow base 3 1 v n (intVals xs))
    (ad : Addr) (m c : Nat) (hx : a.eval x = .slice (some ad) m c) (hm : ys.length = m) (hc : ∀ (j : Nat) u, (intVals ys)[j]? = some u → w.cell? (ad.add j) = some u)
    (hn : n + m ≤ 1099511627776) (hbase : base ≤ w.heap.size)
    (h : ∀ v' w', w'.ownsRow base 3 1 v' (n + m) (intVals (xs ++ ys)) → Below base w w' → K (a.put o.dst v') w') :
    if Region.wanted o (yielded ops a.tmps) = true then Oper.wp Try.prog o a w K Q else E := by
  obtain ⟨i0, hi, hz0, hz1, hz2⟩ := info_parts info_int'
  have hw : Region.wanted o (yielded ops a.tmps) = true := by simp [Region.wanted, hgd]
  rw [if_pos hw]
  obtain ⟨v', w', hr, h2, h3, _, _⟩ := run_append_own_at (P := Try.prog) w base 31 o.type 3 i0 _ 1 8 Try.underlying31 hi hz0 hz1 hz2 rfl (by omega) v n _ hown ad m c (intVals ys) (by rw [intVals_len, hm, Nat.mul_one]) hc (by intro q hq; obtain ⟨z, _, rfl⟩ := List.mem_map.1 hq; rfl) (by unfold maxLen; omega) (by omega) hbase
  unfold Oper.wp execOp
  simp only [ho, resolve, invoke, builtin, Sem.run_bind, Sem.run_pure, Result.andThen_ok, List.map_toArray, List.map_cons, List.map_nil, hs, hx, hr]
  refine h v' w' (by rw [show intVals (xs ++ ys) = intVals xs ++ intVals ys by simp [intVals]]; exact h2) ((Below.refl base w).grown h3 hbase ?_)
  intro k hk
  exact (hown.lt k hk).1

/-- append(out, ys...) at a plain list of operations; ys: any slice that is not nil. -/
theorem list_app_sl {ops : Array Oper} {rest : List Oper} {o : Oper} {a : Act} {w : World} {Q : Exit → Act → World → Prop} (hgd : o.guard = none) (s x : Operand)
    (ho : o.op = .call { callee := .builtin .append, args := #[s, x], argTypes := #[31, 31] })
    (base : Nat) (v : Value) (n : Nat) (xs ys : List Int) (hs : a.eval s = v) (hown : w.ownsRow base 3 1 v n (intVals xs))
    (ad : Addr) (m c : Nat) (hx : a.eval x = .slice (some ad) m c) (hm : ys.length = m) (hc : ∀ (j : Nat) u, (intVals ys)[j]? = some u → w.cell? (ad.add j) = some u)
    (hn : n + m ≤ 1099511627776) (hbase : base ≤ w.heap.size)
    (h : ∀ v' w', w'.ownsRow base 3 1 v' (n + m) (intVals (xs ++ ys)) → Below base w w' → wpList Try.prog ops Q rest (a.put o.dst v') w') :
    wpList Try.prog ops Q (o :: rest) a w := by
  obtain ⟨i0, hi, hz0, hz1, hz2⟩ := info_parts info_int'
  refine wpList_append_own w hgd s x 31 ho base 3 i0 _ 1 8 Try.underlying31 hi hz0 hz1 hz2 rfl (by omega) v n _ hs hown ad m c (intVals ys) hx (by rw [intVals_len, hm, Nat.mul_one]) hc (by intro q hq; obtain ⟨z, _, rfl⟩ := List.mem_map.1 hq; rfl) (by unfold maxLen; omega) (by omega) hbase ?_
  intro v' w' h1 h2 _
  refine h v' w' (by rw [show intVals (xs ++ ys) = intVals xs ++ intVals ys by simp [intVals]]; exact h1) ((Below.refl base w).grown h2 hbase ?_)
  intro k hk
  exact (hown.lt k hk).1
theorem cells_below {w0 w1 : World} {B : Nat} (hb : Below B w0 w1) {b o : Nat} (hlt : b < B) {l : List Value} (h : ∀ (j : Nat) u, l[j]? = some u → w0.cell? ⟨b, o + j, none⟩ = some u) : ∀ (j : Nat) u, l[j]? = some u → w1.cell? ((⟨b, o, none⟩ : Addr).add j) = some u := by
  intro j u hj
  have hadd : (⟨b, o, none⟩ : Addr).add j = ⟨b, o + j, none⟩ := by unfold Addr.add; split <;> simp_all
  rw [hadd]
  exact (hb.cell hlt).trans (h j u hj)
/-- A row without its number c. -/
def cutL (c : Nat) (r : List Int) : List Int := r.take c ++ r.drop (c + 1)
def partL (m : List (List Int)) (ro c : Nat) : List (List Int) := (m.eraseIdx ro).map (cutL c)
def minorD (m : List (List Int)) (ro c : Nat) : Int := if (partL m ro c).length = 0 then 1 else detL (partL m ro c)
theorem part_ne {m : List (List Int)} {ro c k : Nat} (h : k < m.length) (hne : k ≠ ro) : partL (m.take (k + 1)) ro c = partL (m.take k) ro c ++ [cutL c m[k]] := by
  have hl : (m.take k).length = k := by rw [List.length_take]; omega
  unfold partL
  rw [List.take_succ_eq_append_getElem h]
  by_cases hlt : ro < k
  · rw [List.eraseIdx_append_of_lt_length (by omega), List.map_append]; rfl
  · rw [List.eraseIdx_of_length_le (by rw [List.length_append, hl, List.length_singleton]; omega), List.eraseIdx_of_length_le (by omega), List.map_append]; rfl
theorem part_eq {m : List (List Int)} {c k : Nat} (h : k < m.length) : partL (m.take (k + 1)) k c = partL (m.take k) k c := by
  have hl : (m.take k).length = k := by rw [List.length_take]; omega
  unfold partL
  rw [List.take_succ_eq_append_getElem h, List.eraseIdx_append_of_length_le (by omega), List.eraseIdx_of_length_le (l := m.take k) (by omega), hl, Nat.sub_self]
  simp
theorem cutL_len {c : Nat} {r : List Int} (h : c < r.length) : (cutL c r).length = r.length - 1 := by
  unfold cutL
  rw [List.length_append, List.length_take, List.length_drop]; omega
theorem part_sq {n : Nat} {b : Int} {m : List (List Int)} {ro c : Nat} (h : Sq n b m) (hr : ro < n) (hc : c < n) : Sq (n - 1) b (partL m ro c) := by
  obtain ⟨h1, h2⟩ := h
  have hl : (partL m ro c).length = n - 1 := by unfold partL; rw [List.length_map, List.length_eraseIdx]; split <;> omega
  refine ⟨hl, fun i hi => ?_⟩
  have hi' : i < (m.eraseIdx ro).length := by simpa [partL] using hi
  have e : (partL m ro c)[i] = cutL c (m.eraseIdx ro)[i] := by simp [partL]
  have hmem := List.mem_of_mem_eraseIdx (List.getElem_mem hi')
  obtain ⟨j, hj, e2⟩ := List.getElem_of_mem hmem
  obtain ⟨h3, h4⟩ := h2 j hj
  rw [e, ← e2]
  refine ⟨by rw [cutL_len (by omega), h3], fun k hk => ?_⟩
  have hm2 : (cutL c m[j])[k] ∈ m[j] := by
    have := List.getElem_mem hk
    unfold cutL at this
    rw [List.mem_append] at this
    rcases this with h | h
    · exact List.mem_of_mem_take h
    · exact List.mem_of_mem_drop h
  obtain ⟨q, hq, e3⟩ := List.getElem_of_mem hm2
  rw [← e3]
  exact h4 q hq

end Go.Proofs.Yteenheidomfpkaa
