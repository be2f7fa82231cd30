/- The sorting of the points. -/
import Derived.Test.YtckpifcdlmfabaaVxL
import Derived.Test.YtckpifcdlmfabaaVxG
import Derived.Test.YtckpifcdlmfabaaShelfSort
import Derived.Shelf.SlSortCmp.NoneTotal
import Derived.Test.YtckpifcdlmfabaaMbc
import Derived.Test.YtckpifcdlmfabaaMaw
namespace Go.Proofs.Ytckpifcdlmfabaa
open Go Go.RowKit Go.Lib Go.Sort

/-- An element's two cells, by its place; the comparison by places. -/
def usAt (us : List Value) (i : Nat) : Value := us.getD i (.slice none 0 0)
def encF (us : List Value) (D : List Hf) (i : Fin D.length) : List Value := [usAt us i, .int .i64 D[i].2]
def cfF (D : List Hf) (i j : Fin D.length) : Int := cmpQ D[i] D[j]
theorem encF_len (us : List Value) (D : List Hf) (i : Fin D.length) : (encF us D i).length = 2 := rfl
theorem encF_flat (us : List Value) (D : List Hf) : ∀ is : List (Fin D.length), is.flatMap (encF us D) = flat (is.map fun i : Fin D.length => usAt us i) (is.map fun i : Fin D.length => D[i])
  | [] => rfl
  | i :: is => by rw [List.flatMap_cons, encF_flat us D is, List.map_cons, List.map_cons]; rfl
theorem map_us {us : List Value} {D : List Hf} (h : us.length = D.length) : (List.finRange D.length).map (fun i : Fin D.length => usAt us i) = us := by
  refine List.ext_getElem (by simp [h]) fun i h1 h2 => ?_
  simp [usAt, h2]
theorem map_D (D : List Hf) : (List.finRange D.length).map (fun i : Fin D.length => D[i]) = D := by
  refine List.ext_getElem (by simp) fun i h1 h2 => ?_
  simp
theorem swoF {n : Nat} {D : List Hf} (hg : ∀ q ∈ D, Good n q) : SWO (ltOf (cfF D)) where
  irrefl x := by
    have g := hg _ (List.getElem_mem x.2)
    have := good_self g
    exact decide_eq_false (by show ¬ cmpQ D[x] D[x] < 0; have : cmpQ D[x] D[x] = 0 := this; omega)
  trans x y z h1 h2 := by
    have a : cmpQ D[x] D[y] < 0 := of_decide_eq_true h1
    have b : cmpQ D[y] D[z] < 0 := of_decide_eq_true h2
    obtain ⟨c, d⟩ := good_trans (hg _ (List.getElem_mem x.2)) (hg _ (List.getElem_mem y.2)) (hg _ (List.getElem_mem z.2)) (Int.le_of_lt a) (Int.le_of_lt b)
    refine decide_eq_true ?_
    show cmpQ D[x] D[z] < 0
    by_cases h : cmpQ D[x] D[z] = 0
    · have := (d h).1
      have e : cmpQ D[x] D[y] = 0 := this
      omega
    · have c' : cmpQ D[x] D[z] ≤ 0 := c
      omega
  ntrans x y z h1 h2 := by
    have a : ¬ cmpQ D[x] D[y] < 0 := of_decide_eq_false h1
    have b : ¬ cmpQ D[y] D[z] < 0 := of_decide_eq_false h2
    have gx := hg _ (List.getElem_mem x.2)
    have gy := hg _ (List.getElem_mem y.2)
    have gz := hg _ (List.getElem_mem z.2)
    have a1 : cmpQ D[y] D[x] = - cmpQ D[x] D[y] := good_anti gx gy
    have b1 : cmpQ D[z] D[y] = - cmpQ D[y] D[z] := good_anti gy gz
    have c : cmpQ D[z] D[x] ≤ 0 := (good_trans gz gy gx (by show cmpQ D[z] D[y] ≤ 0; omega) (by show cmpQ D[y] D[x] ≤ 0; omega)).1
    have c1 : cmpQ D[x] D[z] = - cmpQ D[z] D[x] := good_anti gz gx
    refine decide_eq_false ?_
    show ¬ cmpQ D[x] D[z] < 0
    omega
theorem getF {β : Type} {n : Nat} {f : Fin n → β} {l : List (Fin n)} {i : Nat} {b : β} (h : (l.map f)[i]? = some b) : ∃ x, l[i]? = some x ∧ f x = b := by
  rw [List.getElem?_map] at h
  cases hx : l[i]? with
  | none => rw [hx] at h; cases h
  | some x => rw [hx] at h; exact ⟨x, rfl, Option.some.inj h⟩
theorem usAt_get {us : List Value} {i : Nat} (h : i < us.length) : us[i]? = some (usAt us i) := by
  unfold usAt
  rw [List.getD_eq_getElem?_getD, List.getElem?_eq_getElem h]; rfl

theorem sort_s : SortS := by
  intro n lo a c D w hg ho hlo h256
  by_cases h0 : D.length = 0
  · obtain rfl : D = [] := List.length_eq_zero_iff.1 h0
    refine (AnyF.slices_SortFunc_none Try.sortR a c _ w).mono ?_
    rintro e w' ⟨he, rfl⟩
    exact ⟨⟨_, he⟩, ⟨[], fun q => Iff.rfl, rfl, List.Pairwise.nil, ho⟩, Below.refl _ _⟩
  obtain ⟨us, k1, k2, k3, k4, k5, k6⟩ := ho
  obtain ⟨m, hm⟩ : ∃ m, D.length = m := ⟨_, rfl⟩
  haveI : Inhabited (Fin D.length) := ⟨⟨0, by omega⟩⟩
  obtain ⟨g, cap, e⟩ := Go.Joins.ownsRow_form k2 (by omega)
  simp only [Value.slice.injEq, true_and] at e
  obtain ⟨rfl, rfl⟩ := e
  have hlt := k2.lt g rfl
  have hrow : w.ownsRow lo 63 2 (.slice (some ⟨g, 0, none⟩) D.length c) D.length ((List.finRange D.length).toArray.toList.flatMap (encF us D)) := by
    rw [List.toList_toArray, encF_flat, map_us k1, map_D]; exact k2
  have hs : (List.finRange D.length).toArray.size = D.length := by simp
  have key : ∀ (q : Nat) (os : Array Obj) (dk : Array (Fin D.length)), dk.size = D.length → w.grownBy (sortWorldK (encF us D) 2 w g 0 q dk os) (some g) := fun q os dk hd => (owns_sorted (m := q) (d' := dk) os (encF_len us D) hrow hd).2
  have hold : ∀ (i : Fin D.length) (W : World), w.grownBy W (some g) → OwnV 3 lo w.heap.size W (usAt us i) (intVals D[i].1) := fun i W hW =>
    (k4 i (usAt us i) D[i] (usAt_get (by rw [k1]; exact i.2)) (List.getElem?_eq_getElem i.2)).grown' hW (fun b hb => by
      have := k6 i (usAt us i) b (usAt_get (by rw [k1]; exact i.2)) hb
      simpa [Value.ownBlock] using this)
  have hcmp : CmpLays Try.prog 54 #[] (encF us D) 2 (cfF D) g 0 (List.finRange D.length).toArray.size w := by
    intro q os dk hd i j
    have hW := key q os dk (by rw [hd, hs])
    exact g_cmp D[i] D[j] (.agg #[usAt us i, .int .i64 D[i].2]) (.agg #[usAt us j, .int .i64 D[j].2]) _ ⟨_, rfl, (hold i _ hW).sl⟩ ⟨_, rfl, (hold j _ hW).sl⟩
  have hone : ∀ x, ∀ v ∈ encF us D x, v.oneCell' = true := by
    intro x v hv
    obtain ⟨y, z, e, _⟩ := (k4 x (usAt us x) D[x] (usAt_get (by rw [k1]; exact x.2)) (List.getElem?_eq_getElem x.2)).shape1
    unfold encF at hv
    rcases List.mem_cons.1 hv with e1 | hv
    · rw [e1, e]; rfl
    · rcases List.mem_cons.1 hv with e1 | hv
      · rw [e1]; rfl
      · cases hv
  have eg : ∀ args w, (callFunc 54 args).run Try.prog w = .ok (.enter 54 args) w := enters_of Try.func54 (by kernel_rfl) rfl
  have hH := holds_owns (d := (List.finRange D.length).toArray) (encF_len us D) hrow hs
  have h := AnyQ.slices_SortFunc Try.sortR 2 Try.isAgg63 Try.sizeOf63 (encF us D) (encF_len us D) hone (cfF D) (swoF hg) 54 #[] g 0 c (List.finRange D.length).toArray w eg hcmp hH hlt.2 (by rw [hs]; omega)
  rw [hs] at h
  refine h.mono ?_
  rintro e w' ⟨he, d', q, os, hp, hso, rfl⟩
  have hp' := perm_mem (by rw [hs]; exact hp)
  have hds : d'.size = D.length := by rw [hp'.1, hs]
  obtain ⟨r1, r2⟩ := owns_sorted (m := q) (d' := d') os (encF_len us D) hrow hds
  have hnd : d'.toList.Nodup := by
    obtain ⟨h1, _, h3⟩ := hp
    have e1 : d'.extract 0 D.length = d' := by
      have h := Array.extract_size (xs := d')
      rw [hds] at h
      exact h
    have e2 : (List.finRange D.length).toArray.extract 0 D.length = (List.finRange D.length).toArray := by
      have h := Array.extract_size (xs := (List.finRange D.length).toArray)
      rw [hs] at h
      exact h
    rw [e1, e2] at h3
    exact h3.nodup_iff.2 (by simpa using List.nodup_finRange _)
  have hsz := r2.size
  refine ⟨⟨_, he⟩, ⟨d'.toList.map (fun i : Fin D.length => D[i]), fun q => ?_, by simpa using hds, ?_, d'.toList.map (fun i : Fin D.length => usAt us i), by simp, ?_, fun b hb => Nat.lt_of_lt_of_le (k3 b hb) hsz, fun i u h hu hh => ?_, fun i j u u' b hij hu hu' hb => ?_, fun i u b hu hb => ?_⟩, (Below.refl lo w).grown r2 hlo (fun b hb => by have := k2.lt b hb; exact this.1)⟩
  · rw [List.mem_map]
    constructor
    · rintro ⟨i, _, rfl⟩; exact List.getElem_mem i.2
    · intro hq
      obtain ⟨i, hi, rfl⟩ := List.mem_iff_getElem.1 hq
      exact ⟨⟨i, hi⟩, (hp'.2 _).2 (by simp), rfl⟩
  · refine List.pairwise_map.2 ((sorted_pair hso hds).imp fun {x y} hxy => ?_)
    exact of_decide_eq_false hxy
  · rw [← encF_flat, show (d'.toList.map fun i : Fin D.length => D[i]).length = D.length by simpa using hds]; exact r1
  · obtain ⟨x, hx, rfl⟩ := getF hu
    obtain ⟨y, hy, rfl⟩ := getF hh
    obtain rfl : x = y := Option.some.inj (hx.symm.trans hy)
    exact (hold x _ r2).mono (Nat.le_refl _) hsz
  · obtain ⟨x, hx, rfl⟩ := getF hu
    obtain ⟨y, hy, rfl⟩ := getF hu'
    refine k5 x y _ _ b (fun e => hij ?_) (usAt_get (by rw [k1]; exact x.2)) (usAt_get (by rw [k1]; exact y.2)) hb
    obtain rfl : x = y := Fin.ext e
    exact (List.getElem?_inj (lt_of_get hx) hnd).1 (hx.trans hy.symm)
  · obtain ⟨x, hx, rfl⟩ := getF hu
    exact k6 x _ b (usAt_get (by rw [k1]; exact x.2)) hb
end Go.Proofs.Ytckpifcdlmfabaa
/- The compacting of points. -/
namespace Go.Proofs.Ytckpifcdlmfabaa
open Go Go.RowKit Go.Lib Go.Sort

set_option maxRecDepth 100000 in
set_option maxHeartbeats 1600000 in
theorem g_same (p q : Hf) (v u : Value) (w : World) (hv : Hv w v p) (hu : Hv w u q) :
    Calls Try.prog 56 #[v, u] w (Quiet w (.bool (decide (cmpQ p q = 0)))) := by
  have HP := Lib.hid hv
  have HQ := Lib.hid hu
  obtain ⟨x, rfl, hx⟩ := hv
  obtain ⟨y, rfl, hy⟩ := hu
  have B0 := Lib.hid (below2 w (.cells #[x, .int .i64 p.2] 63) (.cells #[y, .int .i64 q.2] 63))
  have K := Lib.hid (Bk.pair w #[x, .int .i64 p.2] #[y, .int .i64 q.2] 63 63)
  obtain ⟨c, hc⟩ : ∃ c, cmpQ p q = c := ⟨_, rfl⟩
  have CR := Lib.hid (fun W h1 h2 => i_cmp p q (.agg #[x, .int .i64 p.2]) (.agg #[y, .int .i64 q.2]) W h1 h2)
  rw [hc] at CR ⊢
  clear hx hy hc
  go_enter Try.func56, Try.ntmps56
  go_wp2_with fail
  refine (CR.out _ (HP.out.below B0.out) (HQ.out.below B0.out)).mono ?_
  rintro e w1 ⟨rfl, hb⟩
  have B1 := Lib.hid (B0.out.trans (hb.mono B0.out.size))
  clear hb
  by_cases h : c = 0
  · have E := Lib.hid (decide_eq_true h)
    go_wp2
    go_ret
    exact ⟨ret_bool E.out.symm, B1.out⟩
  · have E := Lib.hid (show (c == 0) = decide (c = 0) by rw [decide_eq_false h]; simpa using h)
    go_wp2
    go_ret
    exact ⟨ret_bool E.out, B1.out⟩

/-! The compacting, plain: E: the points that are picked but for the last; m: how many are looked at. -/
def dA (D : List Hf) (i : Nat) : Hf := D.getD i ([], 0)
theorem dA_get {D : List Hf} {i : Nat} (h : i < D.length) : dA D i = D[i] := by unfold dA; rw [List.getD_eq_getElem?_getD, List.getElem?_eq_getElem h]; rfl
theorem pack_go {n : Nat} {D E : List Hf} {m : Nat} (hg : ∀ q ∈ D, Good n q) (h1 : 1 ≤ m) (h2 : m < D.length) (h : E ++ packQ (dA D (m - 1) :: D.drop m) = packQ D) (hc : cmpQ (dA D m) (dA D (m - 1)) = 0) :
    dA D m = dA D (m - 1) ∧ E ++ packQ (dA D m :: D.drop (m + 1)) = packQ D := by
  have e : dA D m = dA D (m - 1) := good_eq (by rw [dA_get h2]; exact hg _ (List.getElem_mem _)) (by rw [dA_get (by omega)]; exact hg _ (List.getElem_mem _)) hc
  refine ⟨e, ?_⟩
  rw [← h, List.drop_eq_getElem_cons h2, ← dA_get h2]
  conv => rhs; rw [packQ, if_pos hc]
  rw [e]
theorem pack_pick {D E : List Hf} {m : Nat} (h2 : m < D.length) (h : E ++ packQ (dA D (m - 1) :: D.drop m) = packQ D) (hc : ¬ cmpQ (dA D m) (dA D (m - 1)) = 0) :
    (E ++ [dA D (m - 1)]) ++ packQ (dA D m :: D.drop (m + 1)) = packQ D := by
  rw [← h, List.drop_eq_getElem_cons h2, ← dA_get h2]
  conv => rhs; rw [packQ, if_neg hc]
  simp
theorem pack_end {D E : List Hf} {m : Nat} (h2 : m = D.length) (h : E ++ packQ (dA D (m - 1) :: D.drop m) = packQ D) : E ++ [dA D (m - 1)] = packQ D := by
  rw [← h, List.drop_eq_nil_iff.2 (by omega)]
  simp [packQ]
theorem pack_start {D : List Hf} (h : 0 < D.length) : D.take 0 ++ packQ (dA D (1 - 1) :: D.drop 1) = packQ D := by
  rw [dA_get h, List.take_zero, List.nil_append]
  conv => rhs; rw [← List.drop_zero (l := D), List.drop_eq_getElem_cons h]
theorem take_dA {D : List Hf} {k : Nat} (h : k ≤ D.length) (h1 : 1 ≤ k) : D.take (k - 1) ++ [dA D (k - 1)] = D.take k := by
  rw [dA_get (by omega), ← List.take_succ_eq_append_getElem (by omega), show k - 1 + 1 = k by omega]

/-! The row while it is compacted: a list of places. -/
theorem clear2 {P : Program} (w : World) (t e ty : TypeId) (z z0 z1 : Value) (ht : P.underlying t = some (.slice e)) (hv : ∀ w, (zeroValue e).run P w = .ok z w) (hz : z.cells = #[z0, z1]) (h0 : z0.oneCell' = true) (h1 : z1.oneCell' = true) (b o n c : Nat) (hn : 0 < n)
    (hc : ∀ j, j < n * 2 → (w.cell? ⟨b, o + j, none⟩).isSome = true) (hf : ∀ j, j < n * 2 → w.frozen? ⟨b, o + j, none⟩ = false) :
    (Builtin.clear_ #[t] ty #[.slice (some ⟨b, o, none⟩) n c]).run P w = .ok (.tuple #[]) (w.setCells b o (Builtin.zeroCells #[z0, z1] n).toList) := by
  have hl : (Builtin.zeroCells #[z0, z1] n).toList.length = n * 2 := by simp [Builtin.zeroCells]
  have hst := run_storeCells_cells (P := P) b o (Builtin.zeroCells #[z0, z1] n).toList 0 w (by rw [hl]; simpa using hc) (by rw [hl]; simpa using hf) (by
    intro v hv'
    simp only [Builtin.zeroCells, Array.toList_map, List.mem_map] at hv'
    obtain ⟨i, _, rfl⟩ := hv'
    have : i % 2 < 2 := Nat.mod_lt _ (by omega)
    rcases (show i % 2 = 0 ∨ i % 2 = 1 by omega) with e | e
    · show (#[z0, z1][i % 2]!).oneCell' = true
      rw [e]; exact h0
    · show (#[z0, z1][i % 2]!).oneCell' = true
      rw [e]; exact h1)
  simp only [Nat.add_zero] at hst
  obtain ⟨m, rfl⟩ : ∃ m, n = m + 1 := ⟨n - 1, by omega⟩
  simp [Builtin.clear_, run_underlying ht, hv, hz, hst]
theorem grown_id (w : World) (r : Option Nat) : w.grownBy w r := ⟨rfl, rfl, rfl, Nat.le_refl _, fun _ _ _ => rfl⟩
theorem owns_cells {lo g n cap k : Nat} {T : TypeId} : ∀ (vs : List Value) (o : Nat) (w : World) (xs : List Value), w.ownsRow lo T k (.slice (some ⟨g, 0, none⟩) n cap) n xs →
    ∃ xs', (w.setCells g o vs).ownsRow lo T k (.slice (some ⟨g, 0, none⟩) n cap) n xs' ∧ (∀ m, m ≤ o → xs'.take m = xs.take m) ∧ w.grownBy (w.setCells g o vs) (some g)
  | [], o, w, xs, h => ⟨xs, h, fun _ _ => rfl, grown_id _ _⟩
  | v :: r, o, w, xs, h => by
    have h1 := h.stored o v
    obtain ⟨xs', a, b, c⟩ := owns_cells r (o + 1) _ _ h1.1
    refine ⟨xs', a, fun m hm => (b m (by omega)).trans ?_, grownTrans h1.2 c (fun b hb => .inl hb)⟩
    rw [List.take_set, List.set_eq_of_length_le]
    rw [List.length_take]; omega
/-- What the row holds: the points at the places is. -/
def RowI (us : List Value) (D : List Hf) (lo g N c : Nat) (w : World) (is : List (Fin D.length)) (wr : World) : Prop :=
  wr.ownsRow lo 63 2 (.slice (some ⟨g, 0, none⟩) N c) N (is.flatMap (encF us D)) ∧ w.grownBy wr (some g)
theorem RowI.below {us : List Value} {D : List Hf} {lo g N c : Nat} {w wr w2 : World} {is : List (Fin D.length)} (h : RowI us D lo g N c w is wr) (hb : Below wr.heap.size wr w2) : RowI us D lo g N c w is w2 :=
  ⟨owns2_below h.1 hb, grownTrans h.2 (grown_below (r := none) hb) (fun b hb => by cases hb)⟩
theorem RowI.cell {us : List Value} {D : List Hf} {lo g N c : Nat} {w wr : World} {is : List (Fin D.length)} (h : RowI us D lo g N c w is wr) (hl : is.length = N) {j : Nat} {x : Fin D.length} (hj : is[j]? = some x) :
    wr.cell? ⟨g, j * 2, none⟩ = some (usAt us x) ∧ wr.cell? ⟨g, j * 2 + 1, none⟩ = some (.int .i64 D[x].2) := by
  have hlt := lt_of_get hj
  have e0 := flatE_get (encF us D) 2 (encF_len us D) is j 0 hlt (by omega)
  have e1 := flatE_get (encF us D) 2 (encF_len us D) is j 1 hlt (by omega)
  have hx : is[j] = x := by rw [List.getElem?_eq_getElem hlt] at hj; exact Option.some.inj hj
  rw [hx] at e0 e1
  exact ⟨by rw [h.1.cellAt (j * 2) (by omega)]; exact e0, by rw [h.1.cellAt (j * 2 + 1) (by omega)]; exact e1⟩

theorem encF_set (us : List Value) (D : List Hf) (is : List (Fin D.length)) (k : Nat) (x : Fin D.length) : ((is.flatMap (encF us D)).set (k * 2) (usAt us x)).set (k * 2 + 1) (.int .i64 D[x].2) = (is.set k x).flatMap (encF us D) := by
  rw [encF_flat, encF_flat, flat_set0 _ _ _ _ (by simp), flat_set1 _ _ _ D[x] (by simp), List.map_set, List.map_set]
theorem RowI.put {us : List Value} {D : List Hf} {lo g N c : Nat} {w wr : World} {is : List (Fin D.length)} (h : RowI us D lo g N c w is wr) (k : Nat) (x : Fin D.length) :
    RowI us D lo g N c w (is.set k x) ((wr.setCell ⟨g, k * 2, none⟩ (usAt us x)).setCell ⟨g, k * 2 + 1, none⟩ (.int .i64 D[x].2)) := by
  have h1 := h.1.stored (k * 2) (usAt us x)
  have h2 := h1.1.stored (k * 2 + 1) (.int .i64 D[x].2)
  exact ⟨by rw [← encF_set]; exact h2.1, grownTrans (grownTrans h.2 h1.2 (fun b hb => .inl hb)) h2.2 (fun b hb => .inl hb)⟩
/-- Where the compacting stands: kw points are picked, m are looked at. -/
def PickI (D : List Hf) (N kw m : Nat) (is : List (Fin D.length)) : Prop :=
  is.length = N ∧ 1 ≤ kw ∧ kw < m ∧ m ≤ N ∧ (∃ E, E ++ packQ (dA D (m - 1) :: D.drop m) = packQ D ∧ (is.take kw).map (fun i : Fin D.length => D[i]) = E ++ [dA D (m - 1)]) ∧
    (is.take kw).Pairwise (fun a b => a.val < b.val) ∧ (∀ i ∈ is.take kw, i.val < m) ∧ (∀ (j : Nat) (x : Fin D.length), x.val = j → m - 1 ≤ j → is[j]? = some x)
theorem PickI.start {n N k : Nat} {D : List Hf} (hg : ∀ q ∈ D, Good n q) (hN : N = D.length) (h1 : 1 ≤ k) (h2 : k < N) (h : D.take (k - 1) ++ packQ (dA D (k - 1) :: D.drop k) = packQ D) (hc : cmpQ (dA D k) (dA D (k - 1)) = 0) :
    PickI D N k (k + 1) (List.finRange D.length) := by
  obtain ⟨e1, e2⟩ := pack_go hg h1 (by omega) h hc
  refine ⟨by rw [List.length_finRange, hN], h1, by omega, by omega, ⟨D.take (k - 1), e2, ?_⟩, ?_, ?_, ?_⟩
  · show _ = D.take (k - 1) ++ [dA D k]
    rw [← List.map_take.symm, map_D, e1, take_dA (by omega) h1]
  · refine List.Pairwise.sublist (List.take_sublist _ _) ?_
    rw [List.pairwise_iff_getElem]
    intro i j hi hj hij
    simpa using hij
  · intro i hi
    obtain ⟨j, hj, rfl⟩ := List.mem_iff_getElem.1 hi
    rw [List.length_take] at hj
    rw [List.getElem_take]
    simp; omega
  · rintro j x rfl _
    simp
theorem PickI.skip {n N kw m : Nat} {D : List Hf} {is : List (Fin D.length)} (hg : ∀ q ∈ D, Good n q) (hN : N = D.length) (h : PickI D N kw m is) (h2 : m < N) (hc : cmpQ (dA D m) (dA D (m - 1)) = 0) : PickI D N kw (m + 1) is := by
  obtain ⟨a1, a2, a3, a4, ⟨E, b1, b2⟩, a6, a7, a8⟩ := h
  obtain ⟨e1, e2⟩ := pack_go hg (by omega) (by omega) b1 hc
  exact ⟨a1, a2, by omega, by omega, ⟨E, e2, by rw [b2]; show E ++ [dA D (m - 1)] = E ++ [dA D m]; rw [e1]⟩, a6, fun i hi => by have := a7 i hi; omega, fun j x hx hj => a8 j x hx (by omega)⟩
theorem PickI.pick {N kw m : Nat} {D : List Hf} {is : List (Fin D.length)} (hN : N = D.length) (h : PickI D N kw m is) (h2 : m < N) (hc : ¬ cmpQ (dA D m) (dA D (m - 1)) = 0) (x : Fin D.length) (hx : x.val = m) : PickI D N (kw + 1) (m + 1) (is.set kw x) := by
  obtain ⟨a1, a2, a3, a4, ⟨E, b1, b2⟩, a6, a7, a8⟩ := h
  have e2 := pack_pick (by omega) b1 hc
  have et : (is.set kw x).take (kw + 1) = is.take kw ++ [x] := by
    rw [List.take_succ_eq_append_getElem (by rw [List.length_set]; omega), List.getElem_set_self]
    congr 1
    rw [List.take_set, List.set_eq_of_length_le]
    rw [List.length_take]; omega
  refine ⟨by rw [List.length_set, a1], by omega, by omega, by omega, ⟨E ++ [dA D (m - 1)], e2, ?_⟩, ?_, ?_, ?_⟩
  · rw [et, List.map_append, b2]
    show _ ++ [D[x]] = _ ++ [dA D m]
    rw [(congrArg (dA D) hx).symm.trans (dA_get x.2)]; rfl
  · rw [et, List.pairwise_append]
    exact ⟨a6, List.pairwise_singleton _ _, fun a ha b hb => by rw [List.mem_singleton.1 hb, hx]; exact a7 a ha⟩
  · intro i hi
    rw [et] at hi
    rcases List.mem_append.1 hi with h | h
    · have := a7 i h; omega
    · rw [List.mem_singleton.1 h, hx]; omega
  · intro j y hy hj
    rw [List.getElem?_set_ne (by omega)]
    exact a8 j y hy (by omega)
theorem PickI.done {N kw m : Nat} {D : List Hf} {is : List (Fin D.length)} (hN : N = D.length) (h : PickI D N kw m is) (h2 : m = N) : (is.take kw).map (fun i : Fin D.length => D[i]) = packQ D ∧ kw < N := by
  obtain ⟨a1, a2, a3, a4, ⟨E, b1, b2⟩, a6, a7, a8⟩ := h
  exact ⟨by rw [b2]; exact pack_end (by omega) b1, by omega⟩

set_option maxRecDepth 100000 in
set_option maxHeartbeats 3200000 in
theorem compact_s : CompactS := by
  intro n lo a c D N hN w hg hp ho hlo h256
  by_cases h2 : N < 2
  · have hpk : packQ D = D := by
      match D, hN with
      | [], _ => simp [packQ]
      | [x], _ => simp [packQ]
      | _ :: _ :: _, hN => simp at hN; omega
    have i1 : (N : Int) < 2 := by omega
    rw [← hpk] at ho
    have HO := Lib.hid ho
    clear hpk ho hp hg
    go_enter Try.func55, Try.ntmps55
    go_wp2
    go_ret
    exact ⟨⟨_, rfl, HO.out⟩, Below.refl _ _⟩
  have HO := Lib.hid ho
  obtain ⟨us, k1, k2, k3, k4, k5, k6⟩ := ho
  rw [← hN] at k2
  have HN := Lib.hid hN
  have P0 := Lib.hid (pack_start (D := D) (by omega))
  clear hN
  obtain ⟨g, cap, e⟩ := Go.Joins.ownsRow_form k2 (by omega)
  simp only [Value.slice.injEq, true_and] at e
  obtain ⟨rfl, rfl⟩ := e
  have hgl := k2.lt g rfl
  have hNc : N ≤ c := by
    rcases k2.2 with ⟨h, _⟩ | ⟨g', cap', cur, e, _, _, h, _⟩
    · cases h
    · simp only [Value.slice.injEq] at e
      omega
  have K3 := Lib.hid k3
  have hold : ∀ (i : Fin D.length) (W : World), w.grownBy W (some g) → OwnV 3 lo w.heap.size W (usAt us i) (intVals D[i].1) := fun i W hW =>
    (k4 i (usAt us i) D[i] (usAt_get (by rw [k1]; exact i.2)) (List.getElem?_eq_getElem i.2)).grown' hW (fun b hb => by
      have := k6 i (usAt us i) b (usAt_get (by rw [k1]; exact i.2)) hb
      simpa [Value.ownBlock] using this)
  have HH := Lib.hid hold
  have R0 := Lib.hid (show RowI us D lo g N c w (List.finRange D.length) w from ⟨by rw [encF_flat, map_us k1, map_D]; exact k2, grown_id _ _⟩)
  have HG := Lib.hid hg
  have HL := Lib.hid hgl
  have HLO := Lib.hid hlo
  have HU := Lib.hid (And.intro k1 (And.intro k5 k6))
  have i1 : ¬ (N : Int) < 2 := by omega
  clear hg hp k2 k3 k4 k5 k6 hold hgl
  go_enter Try.func55, Try.ntmps55
  go_wp2
  go_loopw [5] (fun i wr => ∃ k : Nat, 1 ≤ k ∧ k ≤ N ∧ i = .int .i64 k ∧ RowI us D lo g N c w (List.finRange D.length) wr ∧ D.take (k - 1) ++ packQ (dA D (k - 1) :: D.drop k) = packQ D ∧ Below w.heap.size w wr) (fun i _ => N - (RowKit.intOf i).toNat)
  case atStart => exact ⟨1, Nat.le_refl _, by omega, rfl, R0.out, P0.out, Below.refl _ _⟩
  case round =>
    obtain ⟨k, hk1, hk, rfl, hr, hpk, hb⟩ := hrel
    have R1 := Lib.hid hr
    have PK := Lib.hid hpk
    have B1 := Lib.hid hb
    clear hr hpk hb
    by_cases hlt : k < N
    · have i2 : (0 : Int) ≤ (k : Int) := by omega
      have i3 : (k : Int) < (N : Int) := by omega
      obtain ⟨kp, hkp⟩ : ∃ kp, kp + 1 = k := ⟨k - 1, by omega⟩
      have KP := Lib.hid hkp
      have i4 : (k : Int) - 1 = (kp : Int) := by omega
      have i4c : IntKind.i64.wrap (kp : Int) = (kp : Int) := IntWalk.i64_in _ (by omega)
      have i5 : (0 : Int) ≤ (kp : Int) := by omega
      have i6 : (kp : Int) < (N : Int) := by omega
      obtain ⟨x, hx⟩ : ∃ x : Fin D.length, x.val = k := ⟨⟨k, by have := HN.out; omega⟩, rfl⟩
      obtain ⟨y, hy⟩ : ∃ y : Fin D.length, y.val = kp := ⟨⟨kp, by have := HN.out; omega⟩, rfl⟩
      obtain ⟨c0, c1⟩ := R1.out.cell (by rw [List.length_finRange]; exact HN.out.symm) (j := k) (x := x) (by rw [← hx]; simp)
      obtain ⟨c2, c3⟩ := R1.out.cell (by rw [List.length_finRange]; exact HN.out.symm) (j := kp) (x := y) (by rw [← hy]; simp)
      have HX := Lib.hid (show dA D k = D[x] from (congrArg (dA D) hx).symm.trans (dA_get x.2))
      have HY := Lib.hid (show dA D (k - 1) = D[y] from (congrArg (dA D) (show k - 1 = y.val by omega)).trans (dA_get y.2))
      have HXV := Lib.hid hx
      obtain ⟨ux, hux⟩ : ∃ ux, usAt us x = ux := ⟨_, rfl⟩
      obtain ⟨uy, huy⟩ : ∃ uy, usAt us y = uy := ⟨_, rfl⟩
      obtain ⟨dx, hdx⟩ : ∃ dx, D[x] = dx := ⟨_, rfl⟩
      obtain ⟨dy, hdy⟩ : ∃ dy, D[y] = dy := ⟨_, rfl⟩
      have VX := Lib.hid (show ∀ W, w.grownBy W (some g) → Hv W (.agg #[ux, .int .i64 dx.2]) dx from fun W hW => ⟨_, rfl, by rw [← hux, ← hdx]; exact (HH.out x W hW).sl⟩)
      have VY := Lib.hid (show ∀ W, w.grownBy W (some g) → Hv W (.agg #[uy, .int .i64 dy.2]) dy from fun W hW => ⟨_, rfl, by rw [← huy, ← hdy]; exact (HH.out y W hW).sl⟩)
      rw [hux] at c0
      rw [hdx] at c1 HX
      rw [huy] at c2
      rw [hdy] at c3 HY
      clear hux huy hdx hdy hx hy hkp
      have hbr := Below.refl wr.heap.size wr
      have hgw : g < wr.heap.size := Nat.lt_of_lt_of_le HL.out.2 B1.out.size
      go_wp2
      go_region_held3 (fun w' => w'.cell? ⟨g, k * 2, none⟩ = some ux ∧ w'.cell? ⟨g, k * 2 + 1, none⟩ = some (.int .i64 dx.2) ∧ w'.cell? ⟨g, kp * 2, none⟩ = some uy ∧ w'.cell? ⟨g, kp * 2 + 1, none⟩ = some (.int .i64 dy.2) ∧ Below wr.heap.size wr w')
        (first
          | with_reducible exact keepF4 c0 c1 c2 c3 hbr
          | (go_split_ands; with_reducible exact keepE4 hgw hgw hgw hgw (by assumption) (by assumption) (by assumption) (by assumption) (by assumption) (by assumption))
          | go_keep)
        (first | (go_at_call 56; refine (g_same dx dy _ _ _ (VX.out _ (R1.out.below hbr.drew).2) (VY.out _ (R1.out.below hbr.drew).2)).mono ?_; rintro e w1 ⟨rfl, hb1⟩))
      rename_i hH
      have HB1 := Lib.hid hH.2.2.2.2
      have R2 := Lib.hid (R1.out.below HB1.out)
      have B2 := Lib.hid (B1.out.trans (HB1.out.mono B1.out.size))
      clear hH hbr c0 c1 c2 c3
      by_cases hc : cmpQ dx dy = 0
      case neg =>
        have HC := Lib.hid hc
        rw [decide_eq_false hc]
        clear hc
        go_wp2
        exact ⟨⟨k + 1, by omega, by omega, by go_num, R2.out, (by
          have h := pack_pick (by have := HN.out; omega) PK.out (by rw [HX.out, HY.out]; exact HC.out)
          rw [take_dA (by have := HN.out; omega) hk1] at h
          exact h), B2.out⟩, by simp [RowKit.intOf]; omega⟩
      have PI0 := Lib.hid (PickI.start HG.out HN.out hk1 hlt PK.out (by rw [HX.out, HY.out]; exact hc))
      rw [decide_eq_true hc]
      clear hc
      have i7 : ¬ c = k := by omega
      have i8 : ((N - k : Nat) : Int) = (N : Int) - (k : Int) := by omega
      go_wp2
      go_loopw [5, 7] (fun i j wi => ∃ (kw m : Nat) (is : List (Fin D.length)), i = .int .i64 kw ∧ j = .int .i64 ((m - k : Nat) : Int) ∧ k < m ∧ PickI D N kw m is ∧ RowI us D lo g N c w is wi ∧ Below lo w wi) (fun _ j _ => N - k - (RowKit.intOf j).toNat)
      case atStart => exact ⟨k, k + 1, _, rfl, by rw [show k + 1 - k = 1 by omega]; rfl, by omega, PI0.out, R2.out, B2.out.mono HLO.out⟩
      case round =>
        obtain ⟨kw, m, is, rfl, rfl, hm, hpi, hri, hbi⟩ := hrel
        rename World => wi
        have PI := Lib.hid hpi
        have RI := Lib.hid hri
        have BI := Lib.hid hbi
        obtain ⟨p1, p2, p3, p4, -, -, -, p8⟩ := hpi
        obtain ⟨d, hd⟩ : ∃ d, m - k = d := ⟨_, rfl⟩
        rw [hd]
        have HD := Lib.hid (show k + d = m by omega)
        have HP1 := Lib.hid p1
        have HP8 := Lib.hid p8
        clear hri hbi p1 p8 hd
        have hz := RI.out.2.size
        by_cases hlt2 : m < N
        · have j1 : (0 : Int) ≤ (d : Int) := by omega
          have j2 : (d : Int) < ((N - k : Nat) : Int) := by have := HD.out; omega
          have j3 : (d : Int) < (N : Int) - (k : Int) := by have := HD.out; omega
          obtain ⟨dp, hdp⟩ : ∃ dp, dp + 1 = d := ⟨d - 1, by have := HD.out; omega⟩
          have j4 : (d : Int) - 1 = (dp : Int) := by omega
          have j5 : IntKind.i64.wrap (dp : Int) = (dp : Int) := IntWalk.i64_in _ (by omega)
          have j6 : (0 : Int) ≤ (dp : Int) := by omega
          have j7 : (dp : Int) < ((N - k : Nat) : Int) := by omega
          have j8 : (dp : Int) < (N : Int) - (k : Int) := by omega
          have j9 : IntKind.i64.wrap ((d : Int) + 1) = ((m + 1 - k : Nat) : Int) := by rw [IntWalk.i64_in _ (by omega)]; have := HD.out; omega
          have j10 : IntKind.i64.wrap ((kw : Int) + 1) = ((kw + 1 : Nat) : Int) := by rw [IntWalk.i64_in _ (by omega)]; omega
          have j11 : (0 : Int) ≤ (kw : Int) := by omega
          have j12 : (kw : Int) < (N : Int) := by omega
          obtain ⟨x, hx⟩ : ∃ x : Fin D.length, x.val = m := ⟨⟨m, by have := HN.out; omega⟩, rfl⟩
          obtain ⟨y, hy⟩ : ∃ y : Fin D.length, y.val = m - 1 := ⟨⟨m - 1, by have := HN.out; omega⟩, rfl⟩
          obtain ⟨c0, c1⟩ := RI.out.cell HP1.out (j := m) (x := x) (HP8.out m x hx (by omega))
          obtain ⟨c2, c3⟩ := RI.out.cell HP1.out (j := m - 1) (x := y) (HP8.out (m - 1) y hy (by omega))
          rw [show m * 2 = k * 2 + d * 2 by have := HD.out; omega] at c0 c1
          rw [show (m - 1) * 2 = k * 2 + dp * 2 by have := HD.out; omega] at c2 c3
          have HX2 := Lib.hid (show dA D m = D[x] from (congrArg (dA D) hx).symm.trans (dA_get x.2))
          have HY2 := Lib.hid (show dA D (m - 1) = D[y] from (congrArg (dA D) hy).symm.trans (dA_get y.2))
          have HXV2 := Lib.hid hx
          obtain ⟨xa, xc, hux, _⟩ := (HH.out x w (grown_id _ _)).shape1
          obtain ⟨xn, hxn⟩ : ∃ n, (intVals D[x].1).length = n := ⟨_, rfl⟩
          rw [hxn] at hux
          obtain ⟨uy2, huy⟩ : ∃ uy, usAt us y = uy := ⟨_, rfl⟩
          obtain ⟨dx2, hdx⟩ : ∃ dx, D[x] = dx := ⟨_, rfl⟩
          obtain ⟨dy2, hdy⟩ : ∃ dy, D[y] = dy := ⟨_, rfl⟩
          have VX2 := Lib.hid (show ∀ W, w.grownBy W (some g) → Hv W (.agg #[(.slice xa xn xc), .int .i64 dx2.2]) dx2 from fun W hW => ⟨_, rfl, by rw [← hux, ← hdx]; exact (HH.out x W hW).sl⟩)
          have VY2 := Lib.hid (show ∀ W, w.grownBy W (some g) → Hv W (.agg #[uy2, .int .i64 dy2.2]) dy2 from fun W hW => ⟨_, rfl, by rw [← huy, ← hdy]; exact (HH.out y W hW).sl⟩)
          have HUX := Lib.hid (And.intro hux hdx)
          rw [hux] at c0
          rw [hdx] at c1 HX2
          rw [huy] at c2
          rw [hdy] at c3 HY2
          clear hux huy hdx hdy hx hy hdp hxn
          have hbr := Below.refl wi.heap.size wi
          have hgw2 : g < wi.heap.size := Nat.lt_of_lt_of_le HL.out.2 hz
          go_wp2
          go_region_held3 (fun w' => w'.cell? ⟨g, k * 2 + d * 2, none⟩ = some (.slice xa xn xc) ∧ w'.cell? ⟨g, k * 2 + d * 2 + 1, none⟩ = some (.int .i64 dx2.2) ∧ w'.cell? ⟨g, k * 2 + dp * 2, none⟩ = some uy2 ∧ w'.cell? ⟨g, k * 2 + dp * 2 + 1, none⟩ = some (.int .i64 dy2.2) ∧ Below wi.heap.size wi w')
            (first
              | with_reducible exact keepF4 c0 c1 c2 c3 hbr
              | (go_split_ands; with_reducible exact keepE4 hgw2 hgw2 hgw2 hgw2 (by assumption) (by assumption) (by assumption) (by assumption) (by assumption) (by assumption))
              | go_keep)
            (first | (go_at_call 56; refine (g_same dx2 dy2 _ _ _ (VX2.out _ (RI.out.below hbr.drew).2) (VY2.out _ (RI.out.below hbr.drew).2)).mono ?_; rintro e w1 ⟨rfl, hb1⟩))
          rename_i hH
          have HB4 := Lib.hid hH.2.2.2.2
          have Q0 := hH.1
          have Q1 := hH.2.1
          have R4 := Lib.hid (RI.out.below HB4.out)
          have B4 := Lib.hid (BI.out.trans (HB4.out.mono (Nat.le_trans HLO.out hz)))
          clear hH hbr c0 c1 c2 c3
          by_cases hc : cmpQ dx2 dy2 = 0
          · have PN := Lib.hid (PI.out.skip HG.out HN.out hlt2 (by rw [HX2.out, HY2.out]; exact hc))
            rw [decide_eq_true hc]
            clear hc
            go_wp2
            exact ⟨⟨kw, m + 1, is, rfl, rfl, by omega, PN.out, R4.out, B4.out⟩, by have := HD.out; simp [RowKit.intOf]; omega⟩
          · have PN := Lib.hid (PI.out.pick HN.out hlt2 (by rw [HX2.out, HY2.out]; exact hc) x HXV2.out)
            rw [decide_eq_false hc]
            obtain ⟨xo, hxo⟩ : ∃ xo, is[kw]? = some xo := ⟨_, List.getElem?_eq_getElem (by rw [HP1.out]; omega)⟩
            obtain ⟨m0, m1⟩ := R4.out.cell HP1.out hxo
            have f0 := R4.out.1.frozenAt (kw * 2)
            have f1 := R4.out.1.frozenAt (kw * 2 + 1)
            have RN := Lib.hid (R4.out.put kw x)
            rw [HUX.out.1, HUX.out.2] at RN
            clear hc hxo
            go_wp2
            exact ⟨⟨kw + 1, m + 1, is.set kw x, by go_num, rfl, by omega, PN.out, RN.out, (B4.out.setCell (p := ⟨g, kw * 2, none⟩) HL.out.1 _).setCell (p := ⟨g, kw * 2 + 1, none⟩) HL.out.1 _⟩, by have := HD.out; simp [RowKit.intOf]; omega⟩
        · obtain rfl : m = N := by omega
          obtain ⟨hpack, hkw⟩ := PI.out.done HN.out rfl
          obtain ⟨_, q1, q2, _, _, q6, _, _⟩ := PI.out
          have PK2 := Lib.hid hpack
          have Q6 := Lib.hid q6
          have j1 : ¬ (d : Int) < (m : Int) - (k : Int) := by have := HD.out; omega
          have j2 : ¬ (d : Int) < ((m - k : Nat) : Int) := by have := HD.out; omega
          have j3 : (0 : Int) ≤ (kw : Int) := by omega
          have j4 : (kw : Int) ≤ (m : Int) := by omega
          have j5 : ¬ c = kw := by omega
          have hl2 : (is.flatMap (encF us D)).length = m * 2 := by rw [flatE_len (encF us D) 2 (encF_len us D), HP1.out]
          have hcl : ∀ ty, (Builtin.clear_ #[26] ty #[.slice (some ⟨g, kw * 2, none⟩) (m - kw) (c - kw)]).run Try.prog wi = .ok (.tuple #[]) (wi.setCells g (kw * 2) (Builtin.zeroCells #[.slice none 0 0, .int .i64 0] (m - kw)).toList) :=
            fun ty => clear2 wi _ _ ty (.agg #[.slice none 0 0, .int .i64 0]) _ _ Try.underlying26 (fun w => by go_simp) rfl rfl rfl g (kw * 2) (m - kw) (c - kw) (by omega) (fun j hj => by rw [RI.out.1.cellAt _ (by omega), List.getElem?_eq_getElem (by rw [hl2]; omega)]; rfl) (fun j hj => RI.out.1.frozenAt _)
          clear hpack q6 hl2
          go_wp2
          go_ret
          obtain ⟨xs', o1, o2, o3⟩ := owns_cells (Builtin.zeroCells #[.slice none 0 0, .int .i64 0] (m - kw)).toList (kw * 2) wi _ RI.out.1
          have hcut := ownsCut o1 (m := kw) (by omega)
          rw [o2 (kw * 2) (Nat.le_refl _), flatE_take (encF us D) 2 (encF_len us D)] at hcut
          have hgr := grownTrans RI.out.2 o3 (fun b hb => .inl hb)
          have htl : (is.take kw).length = kw := by rw [List.length_take, HP1.out]; omega
          rw [← PK2.out]
          refine ⟨⟨_, rfl, (is.take kw).map (fun i : Fin D.length => usAt us i), by simp, ?_, fun b hb => Nat.lt_of_lt_of_le (K3.out b hb) hgr.size, fun i u h hu hh => ?_, fun i j u u' b hij hu hu' hb => ?_, fun i u b hu hb => ?_⟩, (Below.refl lo w).grown hgr hlo (fun b hb => by obtain rfl := Option.some.inj hb; exact HL.out.1)⟩
          · rw [← encF_flat, List.length_map, htl]; exact hcut
          · obtain ⟨x, hx, rfl⟩ := getF hu
            obtain ⟨y, hy, rfl⟩ := getF hh
            obtain rfl : x = y := Option.some.inj (hx.symm.trans hy)
            exact (HH.out x _ hgr).mono (Nat.le_refl _) hgr.size
          · obtain ⟨x, hx, rfl⟩ := getF hu
            obtain ⟨y, hy, rfl⟩ := getF hu'
            refine HU.out.2.1 x y _ _ b (fun e => ?_) (usAt_get (by rw [HU.out.1]; exact x.2)) (usAt_get (by rw [HU.out.1]; exact y.2)) hb
            have hpw := List.pairwise_iff_getElem.1 Q6.out
            have hi := lt_of_get hx
            have hj := lt_of_get hy
            rw [List.getElem?_eq_getElem hi] at hx
            rw [List.getElem?_eq_getElem hj] at hy
            have ex := Option.some.inj hx
            have ey := Option.some.inj hy
            rcases Nat.lt_or_gt_of_ne hij with h | h
            · have := hpw i j hi hj h
              rw [ex, ey] at this; omega
            · have := hpw j i hj hi h
              rw [ex, ey] at this; omega
          · obtain ⟨x, hx, rfl⟩ := getF hu
            exact HU.out.2.2 x _ b (usAt_get (by rw [HU.out.1]; exact x.2)) hb
    · obtain rfl : k = N := by omega
      have HE := Lib.hid (show packQ D = D by
        rw [← pack_end (by have := HN.out; omega) PK.out, take_dA (by have := HN.out; omega) hk1]
        exact List.take_of_length_le (by have := HN.out; omega))
      go_wp2
      go_ret
      exact ⟨⟨_, rfl, by rw [HE.out]; exact (HO.out.below B1.out).mono (Nat.le_refl _) B1.out.size⟩, B1.out.mono HLO.out⟩
end Go.Proofs.Ytckpifcdlmfabaa
/- The program's VerticesOf, IsWholeRegion. -/
namespace Go.Proofs.Ytckpifcdlmfabaa
open Go Go.RowKit Go.Lib

theorem i_vertices (r : Rgn) (v : Value) (w : World) (hv : Rg w v r) : Calls Try.prog 15 #[v] w (MadeRs w (vertQ r.1 r.2)) :=
  i_verticesof sort_s compact_s r v w hv
set_option maxRecDepth 100000 in
theorem i_broken (p : Hf) (v : Value) (w : World) (hv : Hv w v p) :
    Calls Try.prog 63 #[v] w (Quiet w (.bool (!decide (p.2 = 1)))) := by
  obtain ⟨x, rfl, _⟩ := hv
  have B0 := Lib.hid (below1 w (.cells #[x, .int .i64 p.2] 63))
  have K := Lib.hid (Bk.new w #[x, .int .i64 p.2] 63)
  obtain ⟨p1, p2⟩ := p
  simp only at *
  by_cases h : p2 = 1
  · subst h
    go_enter Try.func63, Try.ntmps63
    go_wp2
    go_ret
    exact ⟨rfl, B0.out⟩
  · have h1 : (p2 != 1) = true := by simpa using h
    have h2 : decide (p2 = 1) = false := decide_eq_false h
    rw [h2]
    go_enter Try.func63, Try.ntmps63
    go_wp2
    go_ret
    exact ⟨ret_bool (by simp [h]), B0.out⟩
def wholeL (l : List Hf) : Bool := l.all fun q => decide (q.2 = 1)
/-- Where the first broken point lies, or -1. -/
def IdxW (l : List Hf) (w : World) (e : Ending) (w' : World) : Prop :=
  ((wholeL l = true ∧ e = .returned (.int .i64 (-1))) ∨ (wholeL l = false ∧ ∃ k : Nat, e = .returned (.int .i64 k))) ∧ Below w.heap.size w w'
theorem wholeL_take {l : List Hf} {k : Nat} (h : k < l.length) (h1 : wholeL (l.take k) = true) (h2 : l[k].2 = 1) : wholeL (l.take (k + 1)) = true := by
  unfold wholeL at h1 ⊢
  rw [List.take_succ_eq_append_getElem h, List.all_append, h1]
  simp [h2]
theorem wholeL_not {l : List Hf} {k : Nat} (h : k < l.length) (h2 : ¬ l[k].2 = 1) : wholeL l = false := by
  unfold wholeL
  rw [List.all_eq_false]
  exact ⟨l[k], List.getElem_mem h, by simpa using h2⟩
set_option maxRecDepth 100000 in
set_option maxHeartbeats 800000 in
theorem i_indexw (l : List Hf) (v : Value) (w : World) (hv : Hs w v l) :
    Calls Try.prog 107 #[v, .func (.func 63) #[] #[]] w (IdxW l w) := by
  have HV := Lib.hid hv
  obtain ⟨a, c, rfl, hm, hx⟩ := hv
  unfold maxLen at hm
  have HO := Lib.hid hx
  clear hx
  go_enter Try.func107, Try.ntmps107
  go_wp2
  go_loopw [5, 8] (fun _ i wr => ∃ k : Nat, k ≤ l.length ∧ i = .int .i64 k ∧ wholeL (l.take k) = true ∧ Below w.heap.size w wr) (fun _ i _ => l.length - (RowKit.intOf i).toNat)
  case atStart => exact ⟨0, Nat.zero_le _, rfl, rfl, Below.refl _ _⟩
  case round =>
    obtain ⟨k, hk, rfl, ht, hbr⟩ := hrel
    have HB := Lib.hid hbr
    have HT := Lib.hid ht
    clear ht
    by_cases hlt : k < l.length
    · obtain ⟨b, off, u, rfl, hc, hlt2, c0, c1, hsu⟩ := HO.out k _ (List.getElem?_eq_getElem hlt)
      rw [← hbr.cell (p := ⟨b, off + k * 2, none⟩) hlt2] at c0
      rw [← hbr.cell (p := ⟨b, off + (k * 2 + 1), none⟩) hlt2] at c1
      have e1 : off + (k * 2 + 1) = off + k * 2 + 1 := by omega
      rw [e1] at c1
      have i1 : (0 : Int) ≤ (k : Int) := by omega
      have i2 : (k : Int) < (l.length : Int) := by omega
      have HU := Lib.hid (show Hv wr (.agg #[u, .int .i64 l[k].2]) l[k] from ⟨_, rfl, hsu.below hbr⟩)
      obtain ⟨ua, uc, rfl, _⟩ := hsu.shape
      have W1 := Lib.hid (fun h => wholeL_take hlt HT.out h)
      have W2 := Lib.hid (fun h => wholeL_not hlt h)
      obtain ⟨q, hq⟩ : ∃ q, l[k] = q := ⟨_, rfl⟩
      rw [hq] at c1 HU W1 W2
      obtain ⟨un, hun⟩ : ∃ n, (intVals l[k].1).length = n := ⟨_, rfl⟩
      rw [hq] at hun
      rw [hq, hun] at c0
      rw [hun] at HU
      clear hsu hbr e1 hq hun
      by_cases h1 : q.2 = 1
      · have W1 := Lib.hid (W1.out h1)
        have E := Lib.hid (show (!decide (q.2 = 1)) = false by simp [h1])
        clear h1
        go_wp2_with fail
        refine (i_broken q _ _ HU.out).mono ?_
        rintro e w1 ⟨rfl, hb1⟩
        rw [E.out]
        have HB1 := Lib.hid (HB.out.trans (hb1.mono HB.out.size))
        clear hb1
        go_wp2_with fail
        exact ⟨⟨k + 1, by omega, by go_num, W1.out, HB1.out⟩, by simp [RowKit.intOf]; omega⟩
      · have W2 := Lib.hid (W2.out h1)
        have E := Lib.hid (show (!decide (q.2 = 1)) = true by simp [h1])
        clear h1
        go_wp2_with fail
        refine (i_broken q _ _ HU.out).mono ?_
        rintro e w1 ⟨rfl, hb1⟩
        rw [E.out]
        have HB1 := Lib.hid (HB.out.trans (hb1.mono HB.out.size))
        clear hb1
        go_wp2_with fail
        go_ret
        exact ⟨.inr ⟨W2.out, k, rfl⟩, HB1.out⟩
    · obtain rfl : k = l.length := by omega
      clear hbr
      go_wp2
      go_ret
      refine ⟨.inl ⟨?_, rfl⟩, HB.out⟩
      have h := HT.out
      rw [List.take_length] at h
      exact h
set_option maxRecDepth 100000 in
theorem i_containsw (l : List Hf) (v : Value) (w : World) (hv : Hs w v l) :
    Calls Try.prog 62 #[v, .func (.func 63) #[] #[]] w (Quiet w (.bool (!wholeL l))) := by
  have HV := Lib.hid hv
  clear hv
  go_enter Try.func62, Try.ntmps62
  go_wp2_with fail
  refine (i_indexw l v _ HV.out).mono ?_
  rintro e w1 ⟨⟨hs, rfl⟩ | ⟨hs, k, rfl⟩, hb⟩
  · have HS := Lib.hid hs
    clear hs
    go_wp2_with fail
    go_ret
    exact ⟨ret_bool (by rw [HS.out]; rfl), hb⟩
  · have HS := Lib.hid hs
    clear hs
    have h0 : (0 : Int) ≤ (k : Int) := by omega
    go_wp2_with fail
    go_ret
    exact ⟨ret_bool (by rw [HS.out]; rfl), hb⟩
set_option maxRecDepth 100000 in
set_option maxHeartbeats 800000 in
theorem i_iswhole (r : Rgn) (v : Value) (w : World) (hv : Rg w v r) :
    Calls Try.prog 22 #[v] w (Quiet w (.bool (wholeQ r.1 r.2))) := by
  have HR := Lib.hid hv
  obtain ⟨u, rfl, hu⟩ := hv
  have B0 := Lib.hid (below1 w (.cells #[.int .i64 r.1, u] 30))
  have K0 := Lib.hid (Bk.new w #[.int .i64 r.1, u] 30)
  have HQ := Lib.hid (show wholeQ r.1 r.2 = (wholeL (vertQ r.1 r.2) && decide (0 < (vertQ r.1 r.2).length)) from rfl)
  rw [HQ.out]
  have HW := Lib.hid (fun v w h => i_vertices r v w h)
  obtain ⟨L, hL⟩ : ∃ L, vertQ r.1 r.2 = L := ⟨_, rfl⟩
  rw [hL] at HW ⊢
  clear hu hL HQ
  go_enter Try.func22, Try.ntmps22
  go_wp2_with fail
  refine (HW.out _ _ (HR.out.below B0.out)).mono ?_
  rintro e w1 ⟨⟨v1, rfl, hv1⟩, hb⟩
  have HV := Lib.hid hv1.hs
  obtain ⟨a, c, rfl, hm⟩ := hv1.hs.shape
  unfold maxLen at hm
  have B1 := Lib.hid (B0.out.trans (hb.mono B0.out.size))
  clear hb hv1
  by_cases h0 : 0 < L.length
  · have i1 : (0 : Int) < (L.length : Int) := by omega
    go_wp2_with fail
    refine (i_containsw L _ _ HV.out).mono ?_
    rintro e w2 ⟨rfl, hb⟩
    have B2 := Lib.hid (B1.out.trans (hb.mono B1.out.size))
    clear hb
    have E := Lib.hid (decide_eq_true h0)
    go_wp2
    go_ret
    exact ⟨ret_bool (by rw [E.out]; cases wholeL L <;> rfl), B2.out⟩
  · have i1 : ¬ (0 : Int) < (L.length : Int) := by omega
    have E := Lib.hid (decide_eq_false h0)
    go_wp2
    go_ret
    exact ⟨ret_bool (by rw [E.out]; cases wholeL L <;> rfl), B1.out⟩
end Go.Proofs.Ytckpifcdlmfabaa
/- How many numbers the vertices have. -/
namespace Go.Proofs.Ytckpifcdlmfabaa
theorem vertQ_tot (n : Int) (hs : List Hf) : totH (vertQ n hs) ≤ 2000 := by
  unfold vertQ
  split
  · rename_i c
    have h1 := choose_len n.toNat hs
    have h2 := pts_len n hs (chooseL n.toNat hs)
    have h3 : 2 ^ hs.length ≤ 2 ^ 8 := Nat.pow_le_pow_right (by omega) (regOk_t c).2.2.1
    have h4 := fold_len (ptsQ n hs (chooseL n.toNat hs)) []
    obtain ⟨_, h5⟩ := fold_put (n := n.toNat) (ptsQ n hs (chooseL n.toNat hs)) [] pts_good (fun q hq => by cases hq) List.Pairwise.nil
    have h6 := tot_four ((ptsQ n hs (chooseL n.toNat hs)).foldl putQ []) fun h hh => by
      rcases (h5 h).1 hh with k | k
      · cases k
      · have := (pts_good h k).2.1
        have := regOk_t c
        omega
    rw [List.length_nil] at h4
    omega
  · simp [totH]
end Go.Proofs.Ytckpifcdlmfabaa
