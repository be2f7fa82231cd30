/- The model's matrices: columns, products. -/
import Derived.Test.YtckpifcdlmfabaaMaj
import Derived.Test.YtckpifcdlmfabaaRowApp
import Derived.Test.YtckpifcdlmfabaaMac
namespace Go.Proofs.Ytckpifcdlmfabaa
open Go.RowKit Go.Lib

end Go.Proofs.Ytckpifcdlmfabaa
/- The model's matrices: products. -/
namespace Go.Proofs.Ytckpifcdlmfabaa
open Go.RowKit Go.Lib

end Go.Proofs.Ytckpifcdlmfabaa
/- The model's TimesMatrix. -/
namespace Go.Proofs.Ytckpifcdlmfabaa
open Go.RowKit Go.Lib

end Go.Proofs.Ytckpifcdlmfabaa
/- The model's matrices: minors. -/
namespace Go.Proofs.Ytckpifcdlmfabaa
open Go.RowKit Go.Lib

/-- append(out, ys...) at a step of a region that draws its order; ys: any slice that is not nil. -/
theorem step_app_sl {ops : Array Oper} {o : Oper} {a : Act} {w : World} {K : Act → World → Prop} {Q : Exit → Act → World → Prop} {E : Prop} (hgd : o.guard = none) (s x : Operand)
    (ho : o.op = .call { callee := .builtin .append, args := #[s, x], argTypes := #[46, 46] })
    (base : Nat) (v : Value) (n : Nat) (xs ys : List Int) (hs : a.eval s = v) (hown : w.ownsRow base 3 1 v n (intVals xs))
    (ad : Addr) (m c : Nat) (hx : a.eval x = .slice (some ad) m c) (hm : ys.length = m) (hc : ∀ (j : Nat) u, (intVals ys)[j]? = some u → w.cell? (ad.add j) = some u)
    (hn : n + m ≤ 1099511627776) (hbase : base ≤ w.heap.size)
    (h : ∀ v' w', w'.ownsRow base 3 1 v' (n + m) (intVals (xs ++ ys)) → Below base w w' → K (a.put o.dst v') w') :
    if Region.wanted o (yielded ops a.tmps) = true then Oper.wp Try.prog o a w K Q else E := by
  obtain ⟨i0, hi, hz0, hz1, hz2⟩ := info_parts info_int'
  have hw : Region.wanted o (yielded ops a.tmps) = true := by simp [Region.wanted, hgd]
  rw [if_pos hw]
  obtain ⟨v', w', hr, h2, h3, _, _⟩ := run_append_own_at (P := Try.prog) w base 46 o.type 3 i0 _ 1 8 Try.underlying46 hi hz0 hz1 hz2 rfl (by omega) v n _ hown ad m c (intVals ys) (by rw [intVals_len, hm, Nat.mul_one]) hc (by intro q hq; obtain ⟨z, _, rfl⟩ := List.mem_map.1 hq; rfl) (by unfold maxLen; omega) (by omega) hbase
  unfold Oper.wp execOp
  simp only [ho, resolve, invoke, builtin, Sem.run_bind, Sem.run_pure, Result.andThen_ok, List.map_toArray, List.map_cons, List.map_nil, hs, hx, hr]
  refine h v' w' (by rw [show intVals (xs ++ ys) = intVals xs ++ intVals ys by simp [intVals]]; exact h2) ((Below.refl base w).grown h3 hbase ?_)
  intro k hk
  exact (hown.lt k hk).1

/-- append(out, ys...) at a plain list of operations; ys: any slice that is not nil. -/
theorem list_app_sl {ops : Array Oper} {rest : List Oper} {o : Oper} {a : Act} {w : World} {Q : Exit → Act → World → Prop} (hgd : o.guard = none) (s x : Operand)
    (ho : o.op = .call { callee := .builtin .append, args := #[s, x], argTypes := #[46, 46] })
    (base : Nat) (v : Value) (n : Nat) (xs ys : List Int) (hs : a.eval s = v) (hown : w.ownsRow base 3 1 v n (intVals xs))
    (ad : Addr) (m c : Nat) (hx : a.eval x = .slice (some ad) m c) (hm : ys.length = m) (hc : ∀ (j : Nat) u, (intVals ys)[j]? = some u → w.cell? (ad.add j) = some u)
    (hn : n + m ≤ 1099511627776) (hbase : base ≤ w.heap.size)
    (h : ∀ v' w', w'.ownsRow base 3 1 v' (n + m) (intVals (xs ++ ys)) → Below base w w' → wpList Try.prog ops Q rest (a.put o.dst v') w') :
    wpList Try.prog ops Q (o :: rest) a w := by
  obtain ⟨i0, hi, hz0, hz1, hz2⟩ := info_parts info_int'
  refine wpList_append_own w hgd s x 46 ho base 3 i0 _ 1 8 Try.underlying46 hi hz0 hz1 hz2 rfl (by omega) v n _ hs hown ad m c (intVals ys) hx (by rw [intVals_len, hm, Nat.mul_one]) hc (by intro q hq; obtain ⟨z, _, rfl⟩ := List.mem_map.1 hq; rfl) (by unfold maxLen; omega) (by omega) hbase ?_
  intro v' w' h1 h2 _
  refine h v' w' (by rw [show intVals (xs ++ ys) = intVals xs ++ intVals ys by simp [intVals]]; exact h1) ((Below.refl base w).grown h2 hbase ?_)
  intro k hk
  exact (hown.lt k hk).1
theorem cells_below {w0 w1 : World} {B : Nat} (hb : Below B w0 w1) {b o : Nat} (hlt : b < B) {l : List Value} (h : ∀ (j : Nat) u, l[j]? = some u → w0.cell? ⟨b, o + j, none⟩ = some u) : ∀ (j : Nat) u, l[j]? = some u → w1.cell? ((⟨b, o, none⟩ : Addr).add j) = some u := by
  intro j u hj
  have hadd : (⟨b, o, none⟩ : Addr).add j = ⟨b, o + j, none⟩ := by unfold Addr.add; split <;> simp_all
  rw [hadd]
  exact (hb.cell hlt).trans (h j u hj)
/-- A row without its number c. -/
def cutL (c : Nat) (r : List Int) : List Int := r.take c ++ r.drop (c + 1)
def partL (m : List (List Int)) (ro c : Nat) : List (List Int) := (m.eraseIdx ro).map (cutL c)
def minorD (m : List (List Int)) (ro c : Nat) : Int := if (partL m ro c).length = 0 then 1 else detL (partL m ro c)
theorem part_ne {m : List (List Int)} {ro c k : Nat} (h : k < m.length) (hne : k ≠ ro) : partL (m.take (k + 1)) ro c = partL (m.take k) ro c ++ [cutL c m[k]] := by
  have hl : (m.take k).length = k := by rw [List.length_take]; omega
  unfold partL
  rw [List.take_succ_eq_append_getElem h]
  by_cases hlt : ro < k
  · rw [List.eraseIdx_append_of_lt_length (by omega), List.map_append]; rfl
  · rw [List.eraseIdx_of_length_le (by rw [List.length_append, hl, List.length_singleton]; omega), List.eraseIdx_of_length_le (by omega), List.map_append]; rfl
theorem part_eq {m : List (List Int)} {c k : Nat} (h : k < m.length) : partL (m.take (k + 1)) k c = partL (m.take k) k c := by
  have hl : (m.take k).length = k := by rw [List.length_take]; omega
  unfold partL
  rw [List.take_succ_eq_append_getElem h, List.eraseIdx_append_of_length_le (by omega), List.eraseIdx_of_length_le (l := m.take k) (by omega), hl, Nat.sub_self]
  simp
theorem cutL_len {c : Nat} {r : List Int} (h : c < r.length) : (cutL c r).length = r.length - 1 := by
  unfold cutL
  rw [List.length_append, List.length_take, List.length_drop]; omega
theorem part_sq {n : Nat} {b : Int} {m : List (List Int)} {ro c : Nat} (h : Sq n b m) (hr : ro < n) (hc : c < n) : Sq (n - 1) b (partL m ro c) := by
  obtain ⟨h1, h2⟩ := h
  have hl : (partL m ro c).length = n - 1 := by unfold partL; rw [List.length_map, List.length_eraseIdx]; split <;> omega
  refine ⟨hl, fun i hi => ?_⟩
  have hi' : i < (m.eraseIdx ro).length := by simpa [partL] using hi
  have e : (partL m ro c)[i] = cutL c (m.eraseIdx ro)[i] := by simp [partL]
  have hmem := List.mem_of_mem_eraseIdx (List.getElem_mem hi')
  obtain ⟨j, hj, e2⟩ := List.getElem_of_mem hmem
  obtain ⟨h3, h4⟩ := h2 j hj
  rw [e, ← e2]
  refine ⟨by rw [cutL_len (by omega), h3], fun k hk => ?_⟩
  have hm2 : (cutL c m[j])[k] ∈ m[j] := by
    have := List.getElem_mem hk
    unfold cutL at this
    rw [List.mem_append] at this
    rcases this with h | h
    · exact List.mem_of_mem_take h
    · exact List.mem_of_mem_drop h
  obtain ⟨q, hq, e3⟩ := List.getElem_of_mem hm2
  rw [← e3]
  exact h4 q hq

end Go.Proofs.Ytckpifcdlmfabaa
/- The model's InverseMatrix. -/
namespace Go.Proofs.Ytckpifcdlmfabaa
open Go.RowKit Go.Lib

def signI (r c : Nat) : Int := 1 - 2 * (((r : Int) + (c : Int)) % 2)
def entI (m : List (List Int)) (r c : Nat) : Int := detL m * signI r c * minorD m c r
def rowI (m : List (List Int)) (r : Nat) : List Int := (List.range m.length).map (entI m r)
def invL (m : List (List Int)) : List (List Int) := (List.range m.length).map (rowI m)
def invR (m : List (List Int)) : List (List Int) × Bool := if uniR m = true ∧ isM (invL m) = true then (invL m, true) else ([], false)
theorem rng_take {α : Type} (f : Nat → α) {n k : Nat} (h : k < n) : ((List.range n).map f).take (k + 1) = ((List.range n).map f).take k ++ [f k] := by
  have hl : k < ((List.range n).map f).length := by simp [h]
  rw [List.take_succ_eq_append_getElem hl]
  simp
theorem sign_two (r c : Nat) : signI r c = 1 ∨ signI r c = -1 := by
  unfold signI
  have : ((r : Int) + (c : Int)) % 2 = 0 ∨ ((r : Int) + (c : Int)) % 2 = 1 := by omega
  rcases this with h | h <;> rw [h] <;> simp
theorem uniR_t {m : List (List Int)} (h : uniR m = true) : isM m = true ∧ (detL m = 1 ∨ detL m = -1) := by
  unfold uniR detR at h
  rw [decide_eq_true_eq] at h
  by_cases hm : isM m = true
  · rw [if_pos hm] at h; exact ⟨hm, by omega⟩
  · rw [if_neg hm] at h; simp at h
theorem minor_bd {n : Nat} {m : List (List Int)} {r c : Nat} (h3 : n ≤ 3) (hm : Sq n 100 m) (hr : r < n) (hc : c < n) : -6000000000000000 ≤ minorD m r c ∧ minorD m r c ≤ 6000000000000000 := by
  unfold minorD
  split
  · omega
  · have hs := part_sq (ro := r) (c := c) hm hr hc
    have := hs.1
    exact det_bd (n := n - 1) (by omega) (by omega) (hs.mono (by omega))
theorem pm_mul {d s : Int} (hd : d = 1 ∨ d = -1) (hs : s = 1 ∨ s = -1) : d * s = 1 ∨ d * s = -1 := by
  rcases hd with rfl | rfl <;> rcases hs with rfl | rfl <;> simp
theorem pm_bd {d x : Int} (hd : d = 1 ∨ d = -1) (h1 : -6000000000000000 ≤ x) (h2 : x ≤ 6000000000000000) : -6000000000000000 ≤ d * x ∧ d * x ≤ 6000000000000000 := by
  rcases hd with rfl | rfl <;> omega
theorem rowI_len (m : List (List Int)) (r : Nat) : (rowI m r).length = m.length := by simp [rowI]
theorem invL_len (m : List (List Int)) : (invL m).length = m.length := by simp [invL]
theorem isM_tot {m : List (List Int)} (h : isM m = true) : tot m ≤ 9 := by
  have ht := isM_t h
  have key : ∀ (l : List (List Int)) (n : Nat), (∀ r ∈ l, r.length = n) → tot l = l.length * n := by
    intro l n
    induction l with
    | nil => intro _; simp [tot]
    | cons r rs ih =>
      intro hh
      have := ih (fun x hx => hh x (by simp [hx]))
      simp only [tot, List.map_cons, List.sum_cons, List.length_cons] at this ⊢
      rw [this, hh r (by simp), Nat.succ_mul]; omega
  rw [key m m.length (fun r hr => by obtain ⟨i, hi, rfl⟩ := List.getElem_of_mem hr; exact (ht.2.2 i hi).1)]
  exact Nat.mul_le_mul ht.2.1 ht.2.1
theorem invR_len (m : List (List Int)) : tot (invR m).1 ≤ 9 := by
  unfold invR
  split
  · rename_i h; exact isM_tot h.2
  · simp [tot]

end Go.Proofs.Ytckpifcdlmfabaa
/- A matrix laid into three rows of three numbers: determinants, products, inverses, Hermite's form. -/
namespace Go.Proofs.Ytckpifcdlmfabaa

/-- The places beyond the size are those of the unit matrix. -/
def padM : List (List Int) → List (List Int)
  | [[a]] => [[a, 0, 0], [0, 1, 0], [0, 0, 1]]
  | [[a, b], [c, d]] => [[a, b, 0], [c, d, 0], [0, 0, 1]]
  | m => m
def cutM (n : Nat) (x : List (List Int)) : List (List Int) := (x.take n).map (·.take n)
theorem sq_cases {n : Nat} {b : Int} {m : List (List Int)} (h1 : 1 ≤ n) (h3 : n ≤ 3) (h : Sq n b m) :
    (n = 1 ∧ ∃ x, m = [[x]]) ∨ (n = 2 ∧ ∃ x y z u, m = [[x, y], [z, u]]) ∨ (n = 3 ∧ ∃ x y z x' y' z' x'' y'' z'', m = [[x, y, z], [x', y', z'], [x'', y'', z'']]) := by
  by_cases e1 : n = 1
  · subst e1; obtain ⟨x, rfl, _⟩ := sq1 h; exact .inl ⟨rfl, x, rfl⟩
  · by_cases e2 : n = 2
    · subst e2; obtain ⟨x, y, z, u, rfl, _⟩ := sq2 h; exact .inr (.inl ⟨rfl, x, y, z, u, rfl⟩)
    · obtain rfl : n = 3 := by omega
      obtain ⟨x, y, z, x', y', z', x'', y'', z'', rfl, _⟩ := sq3 h
      exact .inr (.inr ⟨rfl, x, y, z, x', y', z', x'', y'', z'', rfl⟩)
theorem pad_det {n : Nat} {b : Int} {m : List (List Int)} (h1 : 1 ≤ n) (h3 : n ≤ 3) (h : Sq n b m) : detL (padM m) = detL m := by
  rcases sq_cases h1 h3 h with ⟨_, x, rfl⟩ | ⟨_, x, y, z, u, rfl⟩ | ⟨_, x, y, z, x', y', z', x'', y'', z'', rfl⟩
  · simp [padM, detL]
  · simp [padM, detL]; grind
  · rfl
theorem cut_pad {n : Nat} {b : Int} {m : List (List Int)} (h1 : 1 ≤ n) (h3 : n ≤ 3) (h : Sq n b m) : cutM n (padM m) = m := by
  rcases sq_cases h1 h3 h with ⟨rfl, x, rfl⟩ | ⟨rfl, x, y, z, u, rfl⟩ | ⟨rfl, x, y, z, x', y', z', x'', y'', z'', rfl⟩ <;> rfl
theorem bd3 {x y z b : Int} (hx : -b ≤ x ∧ x ≤ b) (hy : -b ≤ y ∧ y ≤ b) (hz : -b ≤ z ∧ z ≤ b) : Bd [x, y, z] b := by
  intro k hk
  match k, hk with
  | 0, _ => exact hx
  | 1, _ => exact hy
  | 2, _ => exact hz
theorem sq3_mk {b x y z x' y' z' x'' y'' z'' : Int} (h1 : Bd [x, y, z] b) (h2 : Bd [x', y', z'] b) (h3 : Bd [x'', y'', z''] b) : Sq 3 b [[x, y, z], [x', y', z'], [x'', y'', z'']] := by
  refine ⟨rfl, fun i hi => ?_⟩
  match i, hi with
  | 0, _ => exact ⟨rfl, h1⟩
  | 1, _ => exact ⟨rfl, h2⟩
  | 2, _ => exact ⟨rfl, h3⟩
theorem pad_sq {n : Nat} {b : Int} {m : List (List Int)} (hb : 1 ≤ b) (h1 : 1 ≤ n) (h3 : n ≤ 3) (h : Sq n b m) : Sq 3 b (padM m) := by
  by_cases e1 : n = 1
  · subst e1; obtain ⟨x, rfl, hx⟩ := sq1 h
    exact sq3_mk (bd3 hx (by omega) (by omega)) (bd3 (by omega) (by omega) (by omega)) (bd3 (by omega) (by omega) (by omega))
  · by_cases e2 : n = 2
    · subst e2; obtain ⟨x, y, z, u, rfl, hx, hy, hz, hu⟩ := sq2 h
      exact sq3_mk (bd3 hx hy (by omega)) (bd3 hz hu (by omega)) (bd3 (by omega) (by omega) (by omega))
    · obtain rfl : n = 3 := by omega
      obtain ⟨x, y, z, x', y', z', x'', y'', z'', rfl, _⟩ := sq3 h
      exact h

/-- The product, as the program reckons it. -/
def mulG : List (List Int) → List (List Int) → List (List Int)
  | [[a, b, c], [d, e, f], [g, h, i]], [[a', b', c'], [d', e', f'], [g', h', i']] =>
    [[a * a' + b * d' + c * g', a * b' + b * e' + c * h', a * c' + b * f' + c * i'],
     [d * a' + e * d' + f * g', d * b' + e * e' + f * h', d * c' + e * f' + f * i'],
     [g * a' + h * d' + i * g', g * b' + h * e' + i * h', g * c' + h * f' + i * i']]
  | _, _ => []
theorem mul_cut {n : Nat} {b : Int} {m k : List (List Int)} (h1 : 1 ≤ n) (h3 : n ≤ 3) (h : Sq n b m) (h' : Sq n b k) : cutM n (mulG (padM m) (padM k)) = timesL m k := by
  by_cases e1 : n = 1
  · subst e1; obtain ⟨x, rfl, hx⟩ := sq1 h; obtain ⟨y, rfl, hy⟩ := sq1 h'
    simp [mulG, padM, cutM, timesL, turnL, applyL, colL, dotL, List.range, List.range.loop]
    grind
  · by_cases e2 : n = 2
    · subst e2; obtain ⟨x, y, z, u, rfl, _⟩ := sq2 h; obtain ⟨x', y', z', u', rfl, _⟩ := sq2 h'
      simp [mulG, padM, cutM, timesL, turnL, applyL, colL, dotL, List.range, List.range.loop]
      grind
    · obtain rfl : n = 3 := by omega
      obtain ⟨a, b, c, d, e, f, g, h, i, rfl, _⟩ := sq3 h
      obtain ⟨a', b', c', d', e', f', g', h', i', rfl, _⟩ := sq3 h'
      simp [mulG, padM, cutM, timesL, turnL, applyL, colL, dotL, List.range, List.range.loop]
      grind
end Go.Proofs.Ytckpifcdlmfabaa
