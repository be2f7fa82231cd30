/- The model's matrices: columns, products. -/
import Derived.Test.YtjijgagdaolkcaaGreatMai
import Derived.Test.YtjijgagdaolkcaaGreatMal
import Derived.Test.YtjijgagdaolkcaaGreatMac
namespace Go.Proofs.YtjijgagdaolkcaaGreat
open Go.RowKit Go.Lib

end Go.Proofs.YtjijgagdaolkcaaGreat
/- The model's matrices: products. -/
namespace Go.Proofs.YtjijgagdaolkcaaGreat
open Go.RowKit Go.Lib

end Go.Proofs.YtjijgagdaolkcaaGreat
/- The model's TimesMatrix. -/
namespace Go.Proofs.YtjijgagdaolkcaaGreat
open Go.RowKit Go.Lib

end Go.Proofs.YtjijgagdaolkcaaGreat
/- The model's matrices: minors. -/
namespace Go.Proofs.YtjijgagdaolkcaaGreat
open Go.RowKit Go.Lib

/-- append(out, ys...) at a step of a region that draws its order; ys: any slice that is not nil. -/
theorem step_app_sl {ops : Array Oper} {o : Oper} {a : Act} {w : World} {K : Act → World → Prop} {Q : Exit → Act → World → Prop} {E : Prop} (hgd : o.guard = none) (s x : Operand)
    (ho : o.op = .call { callee := .builtin .append, args := #[s, x], argTypes := #[27, 27] })
    (base : Nat) (v : Value) (n : Nat) (xs ys : List Int) (hs : a.eval s = v) (hown : w.ownsRow base 3 1 v n (intVals xs))
    (ad : Addr) (m c : Nat) (hx : a.eval x = .slice (some ad) m c) (hm : ys.length = m) (hc : ∀ (j : Nat) u, (intVals ys)[j]? = some u → w.cell? (ad.add j) = some u)
    (hn : n + m ≤ 1099511627776) (hbase : base ≤ w.heap.size)
    (h : ∀ v' w', w'.ownsRow base 3 1 v' (n + m) (intVals (xs ++ ys)) → Below base w w' → K (a.put o.dst v') w') :
    if Region.wanted o (yielded ops a.tmps) = true then Oper.wp Tryz.prog o a w K Q else E := by
  obtain ⟨i0, hi, hz0, hz1, hz2⟩ := info_parts info_int'
  have hw : Region.wanted o (yielded ops a.tmps) = true := by simp [Region.wanted, hgd]
  rw [if_pos hw]
  obtain ⟨v', w', hr, h2, h3, _, _⟩ := run_append_own_at (P := Tryz.prog) w base 27 o.type 3 i0 _ 1 8 Tryz.underlying27 hi hz0 hz1 hz2 rfl (by omega) v n _ hown ad m c (intVals ys) (by rw [intVals_len, hm, Nat.mul_one]) hc (by intro q hq; obtain ⟨z, _, rfl⟩ := List.mem_map.1 hq; rfl) (by unfold maxLen; omega) (by omega) hbase
  unfold Oper.wp execOp
  simp only [ho, resolve, invoke, builtin, Sem.run_bind, Sem.run_pure, Result.andThen_ok, List.map_toArray, List.map_cons, List.map_nil, hs, hx, hr]
  refine h v' w' (by rw [show intVals (xs ++ ys) = intVals xs ++ intVals ys by simp [intVals]]; exact h2) ((Below.refl base w).grown h3 hbase ?_)
  intro k hk
  exact (hown.lt k hk).1

/-- append(out, ys...) at a plain list of operations; ys: any slice that is not nil. -/
theorem list_app_sl {ops : Array Oper} {rest : List Oper} {o : Oper} {a : Act} {w : World} {Q : Exit → Act → World → Prop} (hgd : o.guard = none) (s x : Operand)
    (ho : o.op = .call { callee := .builtin .append, args := #[s, x], argTypes := #[27, 27] })
    (base : Nat) (v : Value) (n : Nat) (xs ys : List Int) (hs : a.eval s = v) (hown : w.ownsRow base 3 1 v n (intVals xs))
    (ad : Addr) (m c : Nat) (hx : a.eval x = .slice (some ad) m c) (hm : ys.length = m) (hc : ∀ (j : Nat) u, (intVals ys)[j]? = some u → w.cell? (ad.add j) = some u)
    (hn : n + m ≤ 1099511627776) (hbase : base ≤ w.heap.size)
    (h : ∀ v' w', w'.ownsRow base 3 1 v' (n + m) (intVals (xs ++ ys)) → Below base w w' → wpList Tryz.prog ops Q rest (a.put o.dst v') w') :
    wpList Tryz.prog ops Q (o :: rest) a w := by
  obtain ⟨i0, hi, hz0, hz1, hz2⟩ := info_parts info_int'
  refine wpList_append_own w hgd s x 27 ho base 3 i0 _ 1 8 Tryz.underlying27 hi hz0 hz1 hz2 rfl (by omega) v n _ hs hown ad m c (intVals ys) hx (by rw [intVals_len, hm, Nat.mul_one]) hc (by intro q hq; obtain ⟨z, _, rfl⟩ := List.mem_map.1 hq; rfl) (by unfold maxLen; omega) (by omega) hbase ?_
  intro v' w' h1 h2 _
  refine h v' w' (by rw [show intVals (xs ++ ys) = intVals xs ++ intVals ys by simp [intVals]]; exact h1) ((Below.refl base w).grown h2 hbase ?_)
  intro k hk
  exact (hown.lt k hk).1
theorem cells_below {w0 w1 : World} {B : Nat} (hb : Below B w0 w1) {b o : Nat} (hlt : b < B) {l : List Value} (h : ∀ (j : Nat) u, l[j]? = some u → w0.cell? ⟨b, o + j, none⟩ = some u) : ∀ (j : Nat) u, l[j]? = some u → w1.cell? ((⟨b, o, none⟩ : Addr).add j) = some u := by
  intro j u hj
  have hadd : (⟨b, o, none⟩ : Addr).add j = ⟨b, o + j, none⟩ := by unfold Addr.add; split <;> simp_all
  rw [hadd]
  exact (hb.cell hlt).trans (h j u hj)
/-- A row without its number c. -/
def cutL (c : Nat) (r : List Int) : List Int := r.take c ++ r.drop (c + 1)
def partL (m : List (List Int)) (ro c : Nat) : List (List Int) := (m.eraseIdx ro).map (cutL c)
def minorD (m : List (List Int)) (ro c : Nat) : Int := if (partL m ro c).length = 0 then 1 else detL (partL m ro c)
theorem part_ne {m : List (List Int)} {ro c k : Nat} (h : k < m.length) (hne : k ≠ ro) : partL (m.take (k + 1)) ro c = partL (m.take k) ro c ++ [cutL c m[k]] := by
  have hl : (m.take k).length = k := by rw [List.length_take]; omega
  unfold partL
  rw [List.take_succ_eq_append_getElem h]
  by_cases hlt : ro < k
  · rw [List.eraseIdx_append_of_lt_length (by omega), List.map_append]; rfl
  · rw [List.eraseIdx_of_length_le (by rw [List.length_append, hl, List.length_singleton]; omega), List.eraseIdx_of_length_le (by omega), List.map_append]; rfl
theorem part_eq {m : List (List Int)} {c k : Nat} (h : k < m.length) : partL (m.take (k + 1)) k c = partL (m.take k) k c := by
  have hl : (m.take k).length = k := by rw [List.length_take]; omega
  unfold partL
  rw [List.take_succ_eq_append_getElem h, List.eraseIdx_append_of_length_le (by omega), List.eraseIdx_of_length_le (l := m.take k) (by omega), hl, Nat.sub_self]
  simp
theorem cutL_len {c : Nat} {r : List Int} (h : c < r.length) : (cutL c r).length = r.length - 1 := by
  unfold cutL
  rw [List.length_append, List.length_take, List.length_drop]; omega
theorem part_sq {n : Nat} {b : Int} {m : List (List Int)} {ro c : Nat} (h : Sq n b m) (hr : ro < n) (hc : c < n) : Sq (n - 1) b (partL m ro c) := by
  obtain ⟨h1, h2⟩ := h
  have hl : (partL m ro c).length = n - 1 := by unfold partL; rw [List.length_map, List.length_eraseIdx]; split <;> omega
  refine ⟨hl, fun i hi => ?_⟩
  have hi' : i < (m.eraseIdx ro).length := by simpa [partL] using hi
  have e : (partL m ro c)[i] = cutL c (m.eraseIdx ro)[i] := by simp [partL]
  have hmem := List.mem_of_mem_eraseIdx (List.getElem_mem hi')
  obtain ⟨j, hj, e2⟩ := List.getElem_of_mem hmem
  obtain ⟨h3, h4⟩ := h2 j hj
  rw [e, ← e2]
  refine ⟨by rw [cutL_len (by omega), h3], fun k hk => ?_⟩
  have hm2 : (cutL c m[j])[k] ∈ m[j] := by
    have := List.getElem_mem hk
    unfold cutL at this
    rw [List.mem_append] at this
    rcases this with h | h
    · exact List.mem_of_mem_take h
    · exact List.mem_of_mem_drop h
  obtain ⟨q, hq, e3⟩ := List.getElem_of_mem hm2
  rw [← e3]
  exact h4 q hq

end Go.Proofs.YtjijgagdaolkcaaGreat
/- The model's InverseMatrix. -/
namespace Go.Proofs.YtjijgagdaolkcaaGreat
open Go.RowKit Go.Lib

def signI (r c : Nat) : Int := 1 - 2 * (((r : Int) + (c : Int)) % 2)
def entI (m : List (List Int)) (r c : Nat) : Int := detL m * signI r c * minorD m c r
def rowI (m : List (List Int)) (r : Nat) : List Int := (List.range m.length).map (entI m r)
def invL (m : List (List Int)) : List (List Int) := (List.range m.length).map (rowI m)
def invR (m : List (List Int)) : List (List Int) × Bool := if uniR m = true ∧ isM (invL m) = true then (invL m, true) else ([], false)
theorem rng_take {α : Type} (f : Nat → α) {n k : Nat} (h : k < n) : ((List.range n).map f).take (k + 1) = ((List.range n).map f).take k ++ [f k] := by
  have hl : k < ((List.range n).map f).length := by simp [h]
  rw [List.take_succ_eq_append_getElem hl]
  simp
theorem sign_two (r c : Nat) : signI r c = 1 ∨ signI r c = -1 := by
  unfold signI
  have : ((r : Int) + (c : Int)) % 2 = 0 ∨ ((r : Int) + (c : Int)) % 2 = 1 := by omega
  rcases this with h | h <;> rw [h] <;> simp
theorem uniR_t {m : List (List Int)} (h : uniR m = true) : isM m = true ∧ (detL m = 1 ∨ detL m = -1) := by
  unfold uniR detR at h
  rw [decide_eq_true_eq] at h
  by_cases hm : isM m = true
  · rw [if_pos hm] at h; exact ⟨hm, by omega⟩
  · rw [if_neg hm] at h; simp at h
theorem minor_bd {n : Nat} {m : List (List Int)} {r c : Nat} (h3 : n ≤ 3) (hm : Sq n 100 m) (hr : r < n) (hc : c < n) : -6000000000000000 ≤ minorD m r c ∧ minorD m r c ≤ 6000000000000000 := by
  unfold minorD
  split
  · omega
  · have hs := part_sq (ro := r) (c := c) hm hr hc
    have := hs.1
    exact det_bd (n := n - 1) (by omega) (by omega) (hs.mono (by omega))
theorem pm_mul {d s : Int} (hd : d = 1 ∨ d = -1) (hs : s = 1 ∨ s = -1) : d * s = 1 ∨ d * s = -1 := by
  rcases hd with rfl | rfl <;> rcases hs with rfl | rfl <;> simp
theorem pm_bd {d x : Int} (hd : d = 1 ∨ d = -1) (h1 : -6000000000000000 ≤ x) (h2 : x ≤ 6000000000000000) : -6000000000000000 ≤ d * x ∧ d * x ≤ 6000000000000000 := by
  rcases hd with rfl | rfl <;> omega
theorem rowI_len (m : List (List Int)) (r : Nat) : (rowI m r).length = m.length := by simp [rowI]
theorem invL_len (m : List (List Int)) : (invL m).length = m.length := by simp [invL]
theorem isM_tot {m : List (List Int)} (h : isM m = true) : tot m ≤ 9 := by
  have ht := isM_t h
  have key : ∀ (l : List (List Int)) (n : Nat), (∀ r ∈ l, r.length = n) → tot l = l.length * n := by
    intro l n
    induction l with
    | nil => intro _; simp [tot]
    | cons r rs ih =>
      intro hh
      have := ih (fun x hx => hh x (by simp [hx]))
      simp only [tot, List.map_cons, List.sum_cons, List.length_cons] at this ⊢
      rw [this, hh r (by simp), Nat.succ_mul]; omega
  rw [key m m.length (fun r hr => by obtain ⟨i, hi, rfl⟩ := List.getElem_of_mem hr; exact (ht.2.2 i hi).1)]
  exact Nat.mul_le_mul ht.2.1 ht.2.1
theorem invR_len (m : List (List Int)) : tot (invR m).1 ≤ 9 := by
  unfold invR
  split
  · rename_i h; exact isM_tot h.2
  · simp [tot]

end Go.Proofs.YtjijgagdaolkcaaGreat
/- A matrix laid into three rows of three numbers: determinants, products, inverses, Hermite's form. -/
namespace Go.Proofs.YtjijgagdaolkcaaGreat

/-- The places beyond the size are those of the unit matrix. -/
def padM : List (List Int) → List (List Int)
  | [[a]] => [[a, 0, 0], [0, 1, 0], [0, 0, 1]]
  | [[a, b], [c, d]] => [[a, b, 0], [c, d, 0], [0, 0, 1]]
  | m => m
def cutM (n : Nat) (x : List (List Int)) : List (List Int) := (x.take n).map (·.take n)
theorem sq_cases {n : Nat} {b : Int} {m : List (List Int)} (h1 : 1 ≤ n) (h3 : n ≤ 3) (h : Sq n b m) :
    (n = 1 ∧ ∃ x, m = [[x]]) ∨ (n = 2 ∧ ∃ x y z u, m = [[x, y], [z, u]]) ∨ (n = 3 ∧ ∃ x y z x' y' z' x'' y'' z'', m = [[x, y, z], [x', y', z'], [x'', y'', z'']]) := by
  by_cases e1 : n = 1
  · subst e1; obtain ⟨x, rfl, _⟩ := sq1 h; exact .inl ⟨rfl, x, rfl⟩
  · by_cases e2 : n = 2
    · subst e2; obtain ⟨x, y, z, u, rfl, _⟩ := sq2 h; exact .inr (.inl ⟨rfl, x, y, z, u, rfl⟩)
    · obtain rfl : n = 3 := by omega
      obtain ⟨x, y, z, x', y', z', x'', y'', z'', rfl, _⟩ := sq3 h
      exact .inr (.inr ⟨rfl, x, y, z, x', y', z', x'', y'', z'', rfl⟩)
theorem pad_det {n : Nat} {b : Int} {m : List (List Int)} (h1 : 1 ≤ n) (h3 : n ≤ 3) (h : Sq n b m) : detL (padM m) = detL m := by
  rcases sq_cases h1 h3 h with ⟨_, x, rfl⟩ | ⟨_, x, y, z, u, rfl⟩ | ⟨_, x, y, z, x', y', z', x'', y'', z'', rfl⟩
  · simp [padM, detL]
  · simp [padM, detL]; grind
  · rfl
theorem cut_pad {n : Nat} {b : Int} {m : List (List Int)} (h1 : 1 ≤ n) (h3 : n ≤ 3) (h : Sq n b m) : cutM n (padM m) = m := by
  rcases sq_cases h1 h3 h with ⟨rfl, x, rfl⟩ | ⟨rfl, x, y, z, u, rfl⟩ | ⟨rfl, x, y, z, x', y', z', x'', y'', z'', rfl⟩ <;> rfl
theorem bd3 {x y z b : Int} (hx : -b ≤ x ∧ x ≤ b) (hy : -b ≤ y ∧ y ≤ b) (hz : -b ≤ z ∧ z ≤ b) : Bd [x, y, z] b := by
  intro k hk
  match k, hk with
  | 0, _ => exact hx
  | 1, _ => exact hy
  | 2, _ => exact hz
theorem sq3_mk {b x y z x' y' z' x'' y'' z'' : Int} (h1 : Bd [x, y, z] b) (h2 : Bd [x', y', z'] b) (h3 : Bd [x'', y'', z''] b) : Sq 3 b [[x, y, z], [x', y', z'], [x'', y'', z'']] := by
  refine ⟨rfl, fun i hi => ?_⟩
  match i, hi with
  | 0, _ => exact ⟨rfl, h1⟩
  | 1, _ => exact ⟨rfl, h2⟩
  | 2, _ => exact ⟨rfl, h3⟩
theorem pad_sq {n : Nat} {b : Int} {m : List (List Int)} (hb : 1 ≤ b) (h1 : 1 ≤ n) (h3 : n ≤ 3) (h : Sq n b m) : Sq 3 b (padM m) := by
  by_cases e1 : n = 1
  · subst e1; obtain ⟨x, rfl, hx⟩ := sq1 h
    exact sq3_mk (bd3 hx (by omega) (by omega)) (bd3 (by omega) (by omega) (by omega)) (bd3 (by omega) (by omega) (by omega))
  · by_cases e2 : n = 2
    · subst e2; obtain ⟨x, y, z, u, rfl, hx, hy, hz, hu⟩ := sq2 h
      exact sq3_mk (bd3 hx hy (by omega)) (bd3 hz hu (by omega)) (bd3 (by omega) (by omega) (by omega))
    · obtain rfl : n = 3 := by omega
      obtain ⟨x, y, z, x', y', z', x'', y'', z'', rfl, _⟩ := sq3 h
      exact h

/-- The product, as the program reckons it. -/
def mulG : List (List Int) → List (List Int) → List (List Int)
  | [[a, b, c], [d, e, f], [g, h, i]], [[a', b', c'], [d', e', f'], [g', h', i']] =>
    [[a * a' + b * d' + c * g', a * b' + b * e' + c * h', a * c' + b * f' + c * i'],
     [d * a' + e * d' + f * g', d * b' + e * e' + f * h', d * c' + e * f' + f * i'],
     [g * a' + h * d' + i * g', g * b' + h * e' + i * h', g * c' + h * f' + i * i']]
  | _, _ => []
theorem mul_cut {n : Nat} {b : Int} {m k : List (List Int)} (h1 : 1 ≤ n) (h3 : n ≤ 3) (h : Sq n b m) (h' : Sq n b k) : cutM n (mulG (padM m) (padM k)) = timesL m k := by
  by_cases e1 : n = 1
  · subst e1; obtain ⟨x, rfl, hx⟩ := sq1 h; obtain ⟨y, rfl, hy⟩ := sq1 h'
    simp [mulG, padM, cutM, timesL, turnL, applyL, colL, dotL, List.range, List.range.loop]
    grind
  · by_cases e2 : n = 2
    · subst e2; obtain ⟨x, y, z, u, rfl, _⟩ := sq2 h; obtain ⟨x', y', z', u', rfl, _⟩ := sq2 h'
      simp [mulG, padM, cutM, timesL, turnL, applyL, colL, dotL, List.range, List.range.loop]
      grind
    · obtain rfl : n = 3 := by omega
      obtain ⟨a, b, c, d, e, f, g, h, i, rfl, _⟩ := sq3 h
      obtain ⟨a', b', c', d', e', f', g', h', i', rfl, _⟩ := sq3 h'
      simp [mulG, padM, cutM, timesL, turnL, applyL, colL, dotL, List.range, List.range.loop]
      grind
end Go.Proofs.YtjijgagdaolkcaaGreat
/- The Hermite form of a matrix that is laid into three rows of three numbers. -/
namespace Go.Proofs.YtjijgagdaolkcaaGreat

theorem pair_id {c r : Nat} {z : List (List Int)} (hc : c < z.length) (hr : r < z.length) (h : colA c (z.getD r []) = 0) : pairH c r z = z := by
  have e : ∀ (l : List (List Int)) (k : Nat), k < l.length → l.set k (l.getD k []) = l := fun l k hk => by
    rw [List.getD_eq_getElem?_getD, List.getElem?_eq_getElem hk]
    exact List.set_getElem_self hk
  unfold pairH
  rw [eucl_end h]
  show (z.set c (z.getD c [])).set r (z.getD r []) = z
  rw [e z c hc, e z r hr]
theorem neg_id {c : Nat} {z : List (List Int)} (h : ¬ colA c (z.getD c []) < 0) : negH c z = z := by unfold negH; rw [if_neg h]
theorem less_zero {u v : List Int} (h : u.length = v.length) : lessL u (scaleL v 0) = u := by
  apply List.ext_getElem
  · rw [lessL_len (by simp [scaleL, h])]
  · intro k h1 h2
    simp [lessL, scaleL]
theorem red_id {c r : Nat} {z : List (List Int)} (hr : r < z.length) (hl : (z.getD r []).length = (z.getD c []).length) (h : colA c (z.getD r []) = 0) : redH c r z = z := by
  unfold redH
  rw [h, Int.zero_ediv, less_zero hl]
  rw [List.getD_eq_getElem?_getD, List.getElem?_eq_getElem hr]
  exact List.set_getElem_self hr
theorem eucl_pad {c : Nat} (hc : c < 2) : ∀ (k : Nat) {u v : List Int}, (colA c v).natAbs ≤ k → u.length = 2 → v.length = 2 →
    eucl c (u ++ [0]) (v ++ [0]) = ((eucl c u v).1 ++ [0], (eucl c u v).2 ++ [0]) ∧ (eucl c u v).1.length = 2 ∧ (eucl c u v).2.length = 2 := by
  have ca : ∀ l : List Int, l.length = 2 → colA c (l ++ [0]) = colA c l := fun l hl => by
    rw [colA_get (by rw [List.length_append]; omega), colA_get (by omega), List.getElem_append_left (by omega)]
  intro k
  induction k with
  | zero =>
    intro u v hk hu hv
    have h0 : colA c v = 0 := by omega
    rw [eucl_end h0, eucl_end (by rw [ca v hv]; exact h0)]
    exact ⟨rfl, hu, hv⟩
  | succ k ih =>
    intro u v hk hu hv
    by_cases h0 : colA c v = 0
    · rw [eucl_end h0, eucl_end (by rw [ca v hv]; exact h0)]
      exact ⟨rfl, hu, hv⟩
    · have hl : u.length = v.length := hu.trans hv.symm
      have hn : nextR c (u ++ [0]) (v ++ [0]) = nextR c u v ++ [0] := by
        unfold nextR
        rw [ca u hu, ca v hv]
        obtain ⟨a, b, rfl⟩ := list2 hu
        obtain ⟨x, y, rfl⟩ := list2 hv
        simp [lessL, scaleL]
      rw [eucl_step hl h0, eucl_step (by simp [hl]) (by rw [ca v hv]; exact h0), hn]
      refine ih ?_ hv (by rw [nextR_len hl, hu])
      rw [nextR_col hl, Int.natAbs_tmod]
      have := Nat.mod_lt (colA c u).natAbs (show 0 < (colA c v).natAbs by omega)
      omega
theorem neg_two (c : Nat) (hc : c < 2) (p q r s : Int) : (∃ p' q' r' s', negH c [[p, q], [r, s]] = [[p', q'], [r', s']]) ∧ negH c (padM [[p, q], [r, s]]) = padM (negH c [[p, q], [r, s]]) := by
  match c, hc with
  | 0, _ =>
    by_cases h : p < 0
    · have e : negH 0 [[p, q], [r, s]] = [[p * -1, q * -1], [r, s]] := by simp [negH, colA, scaleL, h]
      rw [e]
      exact ⟨⟨_, _, _, _, rfl⟩, by simp [negH, padM, colA, scaleL, h]⟩
    · have e : negH 0 [[p, q], [r, s]] = [[p, q], [r, s]] := by simp [negH, colA, h]
      rw [e]
      exact ⟨⟨_, _, _, _, rfl⟩, by simp [negH, padM, colA, h]⟩
  | 1, _ =>
    by_cases h : s < 0
    · have e : negH 1 [[p, q], [r, s]] = [[p, q], [r * -1, s * -1]] := by simp [negH, colA, scaleL, h]
      rw [e]
      exact ⟨⟨_, _, _, _, rfl⟩, by simp [negH, padM, colA, scaleL, h]⟩
    · have e : negH 1 [[p, q], [r, s]] = [[p, q], [r, s]] := by simp [negH, colA, h]
      rw [e]
      exact ⟨⟨_, _, _, _, rfl⟩, by simp [negH, padM, colA, h]⟩
theorem red_two (p q r s : Int) : (∃ p' q' r' s', redH 1 0 [[p, q], [r, s]] = [[p', q'], [r', s']]) ∧ redH 1 0 (padM [[p, q], [r, s]]) = padM (redH 1 0 [[p, q], [r, s]]) := by
  constructor
  · exact ⟨_, _, _, _, rfl⟩
  · simp [redH, padM, lessL, scaleL, colA]
theorem herm_pad2 {n : Nat} {b : Int} {m : List (List Int)} (h1 : 1 ≤ n) (h3 : n ≤ 3) (h : Sq n b m) : hermL (padM m) = padM (hermL m) ∧ ((n = 1 ∧ ∃ y, hermL m = [[y]]) ∨ (n = 2 ∧ ∃ p q r s, hermL m = [[p, q], [r, s]]) ∨ (n = 3 ∧ (hermL m).length = 3)) := by
  rcases sq_cases h1 h3 h with ⟨rfl, x, rfl⟩ | ⟨rfl, x, y, z, u, rfl⟩ | ⟨rfl, a, b, c, d, e, f, g, t, i, rfl⟩
  · have p0 : pairsH 0 (padM [[x]]) 2 = padM [[x]] := by
      show pairH 0 2 (pairH 0 1 (padM [[x]])) = _
      rw [pair_id (c := 0) (r := 1) (by simp [padM]) (by simp [padM]) (by simp [padM, colA]), pair_id (by simp [padM]) (by simp [padM]) (by simp [padM, colA])]
    have key : ∀ y : Int, hermS (padM [[y]]) 0 = padM [[y]] ∧ redsH 1 (negH 1 (pairsH 1 (padM [[y]]) 1)) 1 = padM [[y]] ∧ redsH 2 (negH 2 (pairsH 2 (padM [[y]]) 0)) 2 = padM [[y]] := fun y => by
      refine ⟨rfl, ?_, ?_⟩
      · show redH 1 0 (negH 1 (pairH 1 2 (padM [[y]]))) = _
        rw [pair_id (by simp [padM]) (by simp [padM]) (by simp [padM, colA]), neg_id (by simp [padM, colA]), red_id (by simp [padM]) (by simp [padM]) (by simp [padM, colA])]
      · show redH 2 1 (redH 2 0 (negH 2 (padM [[y]]))) = _
        rw [neg_id (by simp [padM, colA]), red_id (c := 2) (r := 0) (by simp [padM]) (by simp [padM]) (by simp [padM, colA]), red_id (by simp [padM]) (by simp [padM]) (by simp [padM, colA])]
    have n0 : ∃ y, negH 0 [[x]] = [[y]] ∧ negH 0 (padM [[x]]) = padM [[y]] := by
      by_cases hx : x < 0
      · exact ⟨x * -1, by simp [negH, colA, scaleL, hx], by simp [negH, padM, colA, scaleL, hx]⟩
      · exact ⟨x, by simp [negH, colA, hx], by simp [negH, padM, colA, hx]⟩
    obtain ⟨y, hy1, hy2⟩ := n0
    have e1 : hermL [[x]] = [[y]] := hy1
    have s1 : hermS (padM [[x]]) 1 = padM [[y]] := by
      show negH 0 (pairsH 0 (padM [[x]]) 2) = _
      rw [p0, hy2]
    have s2 : hermS (padM [[x]]) 2 = padM [[y]] := by
      show redsH 1 (negH 1 (pairsH 1 (hermS (padM [[x]]) 1) 1)) 1 = _
      rw [s1, (key y).2.1]
    refine ⟨?_, .inl ⟨rfl, y, e1⟩⟩
    show redsH 2 (negH 2 (pairsH 2 (hermS (padM [[x]]) 2) 0)) 2 = _
    rw [s2, (key y).2.2, e1]
  · obtain ⟨hE, l1, l2⟩ := eucl_pad (c := 0) (by omega) _ (Nat.le_refl _) (u := [x, y]) (v := [z, u]) rfl rfl
    obtain ⟨p, q, e1⟩ := list2 l1
    obtain ⟨r, s, e2⟩ := list2 l2
    have hp1 : pairsH 0 [[x, y], [z, u]] 1 = [[p, q], [r, s]] := by
      show [(eucl 0 [x, y] [z, u]).1, (eucl 0 [x, y] [z, u]).2] = _
      rw [e1, e2]
    have hp2 : pairsH 0 (padM [[x, y], [z, u]]) 2 = padM [[p, q], [r, s]] := by
      have k : pairH 0 1 (padM [[x, y], [z, u]]) = padM [[p, q], [r, s]] := by
        show [(eucl 0 ([x, y] ++ [0]) ([z, u] ++ [0])).1, (eucl 0 ([x, y] ++ [0]) ([z, u] ++ [0])).2, [0, 0, 1]] = _
        rw [hE, e1, e2]; rfl
      show pairH 0 2 (pairH 0 1 (padM [[x, y], [z, u]])) = _
      rw [k, pair_id (by simp [padM]) (by simp [padM]) (by simp [padM, colA])]
    obtain ⟨⟨p1, q1, r1, s1, hn⟩, hn2⟩ := neg_two 0 (by omega) p q r s
    obtain ⟨⟨p2, q2, r2, s2, hm⟩, hm2⟩ := neg_two 1 (by omega) p1 q1 r1 s1
    obtain ⟨⟨p3, q3, r3, s3, hk⟩, hk2⟩ := red_two p2 q2 r2 s2
    have t1 : hermL [[x, y], [z, u]] = [[p3, q3], [r3, s3]] := by
      show redH 1 0 (negH 1 (negH 0 (pairsH 0 [[x, y], [z, u]] 1))) = _
      rw [hp1, hn, hm, hk]
    have u1 : hermS (padM [[x, y], [z, u]]) 1 = padM [[p1, q1], [r1, s1]] := by
      show negH 0 (pairsH 0 (padM [[x, y], [z, u]]) 2) = _
      rw [hp2, hn2, hn]
    have u2 : hermS (padM [[x, y], [z, u]]) 2 = padM [[p3, q3], [r3, s3]] := by
      show redH 1 0 (negH 1 (pairH 1 2 (hermS (padM [[x, y], [z, u]]) 1))) = _
      rw [u1, pair_id (by simp [padM]) (by simp [padM]) (by simp [padM, colA]), hm2, hm, hk2, hk]
    refine ⟨?_, .inr (.inl ⟨rfl, _, _, _, _, t1⟩)⟩
    show redH 2 1 (redH 2 0 (negH 2 (hermS (padM [[x, y], [z, u]]) 2))) = _
    rw [u2, neg_id (by simp [padM, colA]), red_id (c := 2) (r := 0) (by simp [padM]) (by simp [padM]) (by simp [padM, colA]), red_id (by simp [padM]) (by simp [padM]) (by simp [padM, colA]), t1]
  · have hpm : ∀ l : List (List Int), l.length = 3 → padM l = l := fun l hl => by
      unfold padM
      split <;> simp_all
    have hlen : ∀ (m : List (List Int)) (c : Nat), (hermS m c).length = m.length := by
      have a1 : ∀ (c r : Nat) (z : List (List Int)), (pairH c r z).length = z.length := fun c r z => by simp [pairH]
      have a2 : ∀ (c : Nat) (z : List (List Int)) (j : Nat), (pairsH c z j).length = z.length := fun c z j => by
        induction j with
        | zero => rfl
        | succ j ih => show (pairH _ _ _).length = _; rw [a1, ih]
      have a3 : ∀ (c : Nat) (z : List (List Int)), (negH c z).length = z.length := fun c z => by unfold negH; split <;> simp
      have a4 : ∀ (c : Nat) (z : List (List Int)) (j : Nat), (redsH c z j).length = z.length := fun c z j => by
        induction j with
        | zero => rfl
        | succ j ih => show (redH _ _ _).length = _; unfold redH; rw [List.length_set, ih]
      intro m c
      induction c with
      | zero => rfl
      | succ c ih => show (redsH _ _ _).length = _; rw [a4, a3, a2, ih]
    have h3l : (hermL [[a, b, c], [d, e, f], [g, t, i]]).length = 3 := by unfold hermL; rw [hlen]; rfl
    refine ⟨?_, .inr (.inr ⟨rfl, h3l⟩)⟩
    rw [hpm (hermL _) h3l]
    rfl
theorem herm_pad {n : Nat} {b : Int} {m : List (List Int)} (h1 : 1 ≤ n) (h3 : n ≤ 3) (h : Sq n b m) : hermL (padM m) = padM (hermL m) := (herm_pad2 h1 h3 h).1
theorem herm_cut {n : Nat} {b a0 a1 a2 a3 a4 a5 a6 a7 a8 : Int} {m : List (List Int)} (h1 : 1 ≤ n) (h3 : n ≤ 3) (h : Sq n b m) (he : padM (hermL m) = [[a0, a1, a2], [a3, a4, a5], [a6, a7, a8]]) : cutM n [[a0, a1, a2], [a3, a4, a5], [a6, a7, a8]] = hermL m := by
  rcases (herm_pad2 h1 h3 h).2 with ⟨rfl, y, e⟩ | ⟨rfl, p, q, r, s, e⟩ | ⟨rfl, e⟩
  · rw [e] at he ⊢
    simp only [padM, List.cons.injEq, and_true] at he
    obtain ⟨⟨rfl, rfl, rfl⟩, _⟩ := he
    rfl
  · rw [e] at he ⊢
    simp only [padM, List.cons.injEq, and_true] at he
    obtain ⟨⟨rfl, rfl, rfl⟩, ⟨rfl, rfl, rfl⟩, _⟩ := he
    rfl
  · have hp : padM (hermL m) = hermL m := by
      generalize hermL m = l at e
      unfold padM
      split <;> simp_all
    rw [hp] at he
    rw [he]
    rfl
end Go.Proofs.YtjijgagdaolkcaaGreat
/- The model's Hermite form: its helpers. -/
namespace Go.Proofs.YtjijgagdaolkcaaGreat
open Go.RowKit Go.Lib

set_option maxRecDepth 100000 in
set_option maxHeartbeats 400000 in
theorem s_less (u v : List Int) (hl : u.length = v.length) (hm : u.length ≤ 1048576) (n : Int) (hn : n ≤ 2305843009213693952) (hu : Bd u n) (hv' : Bd v n) (a b : Value) (w : World) (ha : Sl w a (intVals u)) (hb : Sl w b (intVals v)) :
    Calls Tryz.prog 74 #[a, b] w (Made w (lessL u v)) := by
  obtain ⟨a, c, rfl, _, ha⟩ := ha.shape
  obtain ⟨b, d, rfl, _, hb⟩ := hb.shape
  rw [intVals_len] at ha hb
  rw [intVals_len, intVals_len, ← hl]
  rw [← hl] at hb
  obtain ⟨i0, hi, hz0, hz1, hz2⟩ := info_parts info_int'
  have HI := Lib.hid (And.intro hi (And.intro hz0 (And.intro hz1 hz2)))
  have HA := Lib.hid ha
  have HB0 := Lib.hid hb
  have HU := Lib.hid hu
  have HV := Lib.hid hv'
  have HL := Lib.hid hl
  clear ha hb hu hv' hl hi hz0 hz1 hz2
  go_enter Tryz.func74, Tryz.ntmps74
  go_wp2
  go_loopw [5, 6] (fun o i wr => ∃ k : Nat, k ≤ u.length ∧ i = .int .i64 k ∧ wr.ownsRow w.heap.size 3 1 o k (intVals (lessL (u.take k) (v.take k))) ∧ Below w.heap.size w wr) (fun _ i _ => u.length - (RowKit.intOf i).toNat)
  case atStart => exact ⟨0, Nat.zero_le _, rfl, owns_none (Nat.le_refl _), (Below.refl _ _).alloc (Nat.le_refl _) _⟩
  case round =>
    obtain ⟨k, hk, rfl, how, hbr⟩ := hrel
    have HW := Lib.hid how
    have HB := Lib.hid hbr
    by_cases hlt : k < u.length
    · have hlt' : k < v.length := by have := HL.out; omega
      obtain ⟨b1, o1, rfl, hc1, hlt1, hx1⟩ := HA.out (by omega)
      obtain ⟨b2, o2, rfl, hc2, hlt2, hx2⟩ := HB0.out (by omega)
      have hcell1 := hx1 k _ (intVals_get u k hlt)
      have hcell2 := hx2 k _ (intVals_get v k hlt')
      rw [← hbr.cell (p := ⟨b1, o1 + k, none⟩) hlt1] at hcell1
      rw [← hbr.cell (p := ⟨b2, o2 + k, none⟩) hlt2] at hcell2
      clear hx1 hx2 hbr how
      have i1 : (0 : Int) ≤ (k : Int) := by omega
      have i2 : (k : Int) < (u.length : Int) := by omega
      have g1 := (HU.out k hlt).1
      have g2 := (HU.out k hlt).2
      have g3 := (HV.out k hlt').1
      have g4 := (HV.out k hlt').2
      have C1 := Lib.hid (show k + 1 ≤ maxLen by unfold maxLen; omega)
      have C2 := Lib.hid (show (k + 1) * 8 ≤ 140737488355328 by omega)
      have ZT := Lib.hid (zip_take (f := fun x y => x - y) hlt hlt')
      go_wp2
      go_region_held3 (fun w' => w'.cell? ⟨b1, o1 + k, none⟩ = some (.int .i64 u[k]) ∧ w'.cell? ⟨b2, o2 + k, none⟩ = some (.int .i64 v[k]))
        (first | go_keep | (go_split_ands; exact ⟨(hbel.cell hlt1).trans (by assumption), (hbel.cell hlt2).trans (by assumption)⟩))
        ((refine step_app_int (by rfl) _ _ (by rfl) w.heap.size _ k (lessL (u.take k) (v.take k)) _ (by rfl) ((HW.out.alloc _).drew) wr.heap.size (by rfl) (heap_alloc_new wr _) (by omega) (by have := HB.out.size; simp; omega) ?_; intro v' w1 hown1 hbel))
      rename_i hH
      have HO1 := Lib.hid hown1
      have HB1 := Lib.hid ((((HB.out.alloc HB.out.size _).drew).trans hbel))
      clear hown1 hbel hH
      go_wp2
      refine ⟨⟨k + 1, by omega, by go_num, ?_, HB1.out⟩, by simp [RowKit.intOf]; omega⟩
      have h := HO1.out
      rw [IntWalk.i64_in _ (by omega)] at h
      unfold lessL
      rw [ZT.out]
      exact h
    · obtain rfl : k = u.length := by omega
      clear hbr how
      go_wp2
      go_ret
      refine ⟨⟨_, rfl, ?_⟩, HB.out⟩
      have h := OwnV.of_owns HW.out
      rw [List.take_length, HL.out, List.take_length] at h
      exact h

set_option maxRecDepth 100000 in
set_option maxHeartbeats 400000 in
theorem s_scale2 (u : List Int) (hm : u.length ≤ 1048576) (z : Int) (hu : Bd (scaleL u z) 4611686018427387904) (a : Value) (w : World) (ha : Sl w a (intVals u)) :
    Calls Tryz.prog 75 #[a, .int .i64 z] w (Made w (scaleL u z)) := by
  obtain ⟨a, c, rfl, _, ha⟩ := ha.shape
  rw [intVals_len] at ha ⊢
  have HA := Lib.hid ha
  have HU := Lib.hid hu
  clear ha hu
  go_enter Tryz.func75, Tryz.ntmps75
  go_wp2
  go_loopw [5, 6] (fun o i wr => ∃ k : Nat, k ≤ u.length ∧ i = .int .i64 k ∧ wr.ownsRow w.heap.size 3 1 o k (intVals (scaleL (u.take k) z)) ∧ Below w.heap.size w wr) (fun _ i _ => u.length - (RowKit.intOf i).toNat)
  case atStart => exact ⟨0, Nat.zero_le _, rfl, owns_none (Nat.le_refl _), (Below.refl _ _).alloc (Nat.le_refl _) _⟩
  case round =>
    obtain ⟨k, hk, rfl, how, hbr⟩ := hrel
    have HW := Lib.hid how
    have HB := Lib.hid hbr
    by_cases hlt : k < u.length
    · obtain ⟨b1, o1, rfl, hc1, hlt1, hx1⟩ := HA.out (by omega)
      have hcell1 := hx1 k _ (intVals_get u k hlt)
      rw [← hbr.cell (p := ⟨b1, o1 + k, none⟩) hlt1] at hcell1
      clear hx1 hbr how
      have i1 : (0 : Int) ≤ (k : Int) := by omega
      have i2 : (k : Int) < (u.length : Int) := by omega
      have mb := HU.out k (by simpa [scaleL] using hlt)
      have me : (scaleL u z)[k]'(by simpa [scaleL] using hlt) = u[k] * z := by simp [scaleL]
      rw [me] at mb
      have m1 : -4611686018427387904 ≤ u[k] * z := by omega
      have m2 : u[k] * z ≤ 4611686018427387904 := by omega
      clear mb me
      have ZT := Lib.hid (map_take (f := fun x => x * z) hlt)
      have C3 := Lib.hid (show w.heap.size ≤ (wr.alloc (.cells #[.int .i64 (u[k] * z)] 3)).heap.size by rw [World.size_alloc]; exact Nat.le_succ_of_le HB.out.size)
      have hk' : k ≤ 1099511627776 := by omega
      go_wp2_with (at_builtin; refine list_app_int rfl _ _ rfl w.heap.size _ k (scaleL (u.take k) z) _ rfl (HW.out.alloc _) wr.heap.size rfl (heap_alloc_new wr _) hk' C3.out ?_; intro v' w1 hown1 hbel; have HO1 := Lib.hid hown1; have HB1 := Lib.hid ((HB.out.alloc HB.out.size _).trans hbel); clear hown1 hbel)
      refine ⟨⟨k + 1, by omega, by go_num, ?_, HB1.out⟩, by simp [RowKit.intOf]; omega⟩
      have h := HO1.out
      unfold scaleL
      rw [ZT.out]
      exact h
    · obtain rfl : k = u.length := by omega
      clear hbr how
      go_wp2
      go_ret
      refine ⟨⟨_, rfl, ?_⟩, HB.out⟩
      have h := OwnV.of_owns HW.out
      rw [List.take_length] at h
      exact h

/-- A quotient by a positive number, rounded down, as the model reckons it. -/
theorem floor_t (a b : Int) (hb : 0 < b) : (if a.tmod b < 0 then a.tdiv b - 1 else a.tdiv b) = a / b := by
  have h1 := Int.tmod_add_mul_tdiv a b
  have h2 := Int.emod_add_mul_ediv a b
  have h3 := Int.emod_nonneg a (show b ≠ 0 by omega)
  have h4 := Int.emod_lt_of_pos a hb
  have h5 := Int.lt_tmod_of_pos a hb
  have h6 := Int.tmod_lt_of_pos a hb
  split
  · rename_i h
    have e : b * (a.tdiv b - 1) = b * a.tdiv b - b := by rw [Int.mul_sub, Int.mul_one]
    exact ((Int.ediv_emod_unique (r := a.tmod b + b) (q := a.tdiv b - 1) hb).2 ⟨by omega, by omega, by omega⟩).1.symm
  · rename_i h
    exact ((Int.ediv_emod_unique (r := a.tmod b) (q := a.tdiv b) hb).2 ⟨by omega, by omega, by omega⟩).1.symm

set_option maxRecDepth 100000 in
theorem s_floor (a b : Int) (h1 : -4611686018427387904 ≤ a) (h2 : a ≤ 4611686018427387904) (hb : 0 < b) (hb2 : b ≤ 4611686018427387904) (w : World) :
    Calls Tryz.prog 76 #[.int .i64 a, .int .i64 b] w fun e w' => e = .returned (.int .i64 (a / b)) ∧ w = w' := by
  have FT := Lib.hid (floor_t a b hb)
  have hp0 : ¬ b = 0 := by omega
  have hp1 : b ≠ -1 := by omega
  have hp2 : (b == -1) = false := by rw [beq_eq_false_iff_ne]; omega
  have q1 := Int.natAbs_tdiv_le_natAbs a b
  have hq1 : IntKind.i64.wrap (a.tdiv b) = a.tdiv b := IntWalk.i64_in _ (by generalize a.tdiv b = t at q1; omega)
  have hq2 : IntKind.i64.wrap (a.tdiv b - 1) = a.tdiv b - 1 := IntWalk.i64_in _ (by generalize a.tdiv b = t at q1; omega)
  by_cases h : a.tmod b < 0
  · go_enter Tryz.func76, Tryz.ntmps76
    have e := Lib.hid (show a.tdiv b - 1 = a / b by have h2 := FT.out; rw [if_pos h] at h2; exact h2)
    go_wp2
    go_ret
    exact ⟨by rw [← e.out]; rfl, rfl⟩
  · go_enter Tryz.func76, Tryz.ntmps76
    have e := Lib.hid (show a.tdiv b = a / b by have h2 := FT.out; rw [if_neg h] at h2; exact h2)
    have h' : 0 ≤ a.tmod b := by omega
    clear h hq2
    go_wp2
    go_ret
    exact ⟨by rw [← e.out]; rfl, rfl⟩
end Go.Proofs.YtjijgagdaolkcaaGreat
