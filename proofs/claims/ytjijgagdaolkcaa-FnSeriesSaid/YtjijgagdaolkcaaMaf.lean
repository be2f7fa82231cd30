/- The laws' marks on slices of slices of integers. -/
import Derived.Test.YtjijgagdaolkcaaMac
import Derived.Test.YtjijgagdaolkcaaMad
namespace Go.Proofs.Ytjijgagdaolkcaa
open Go.RowKit Go.Lib

/-- How far the marks have come: the first j rows bear them. -/
def marked (k j : Nat) (zss : List (List Int)) : List (List Int) := (rmarks k zss).take j ++ zss.drop j
theorem marked_len (k j : Nat) (zss : List (List Int)) : (marked k j zss).length = zss.length := by unfold marked; rw [List.length_append, List.length_take, List.length_drop, rmarks_len]; omega
theorem marked_zero (k : Nat) (zss : List (List Int)) : marked k 0 zss = zss := by simp [marked]
theorem marked_all (k : Nat) (zss : List (List Int)) : marked k zss.length zss = rmarks k zss := by unfold marked; rw [List.drop_length, List.append_nil, List.take_of_length_le (by rw [rmarks_len]; exact Nat.le_refl _)]
theorem marked_get (k j i : Nat) (zss : List (List Int)) : (marked k j zss)[i]? = if i < j then (rmarks k zss)[i]? else zss[i]? := by
  unfold marked
  by_cases h : i < j
  · rw [if_pos h]
    by_cases h2 : i < zss.length
    · rw [List.getElem?_append_left (by rw [List.length_take, rmarks_len]; omega), List.getElem?_take_of_lt h]
    · rw [List.getElem?_eq_none (by rw [List.length_append, List.length_take, List.length_drop, rmarks_len]; omega), List.getElem?_eq_none (by rw [rmarks_len]; omega)]
  · rw [if_neg h]
    by_cases h2 : j ≤ zss.length
    · rw [List.getElem?_append_right (by rw [List.length_take, rmarks_len]; omega), List.length_take, rmarks_len, List.getElem?_drop]
      congr 1; omega
    · rw [List.getElem?_eq_none (by rw [List.length_append, List.length_take, List.length_drop, rmarks_len]; omega), List.getElem?_eq_none (by omega)]
theorem marked_step (k j : Nat) (zss : List (List Int)) (h : j < zss.length) : (marked k j zss).set j (imarks (k + tot (zss.take j)) zss[j].length) = marked k (j + 1) zss := by
  refine List.ext_getElem? fun i => ?_
  rw [get_set _ _ _ _ (by rw [marked_len]; exact h), marked_get, marked_get]
  by_cases hij : i = j
  · subst hij
    rw [if_pos rfl, if_pos (Nat.lt_succ_self _), rmarks_get k zss i h]; rfl
  · rw [if_neg hij]
    by_cases hlt : i < j
    · rw [if_pos hlt, if_pos (by omega)]
    · rw [if_neg hlt, if_neg (by omega)]
theorem marked_at (k j : Nat) (zss : List (List Int)) (h : j < zss.length) : (marked k j zss)[j]'(by rw [marked_len]; exact h) = zss[j] := by
  have h1 : (marked k j zss)[j]? = zss[j]? := by rw [marked_get, if_neg (Nat.lt_irrefl _)]
  rw [List.getElem?_eq_getElem (by rw [marked_len]; exact h), List.getElem?_eq_getElem h] at h1
  exact Option.some.inj h1

/-- markIntS on a row, whatever lies beside it. -/
theorem mark_row (zs : List Int) (lo hi k n : Nat) (v : Value) (w : World) (hk : 1 ≤ k) (hn : k + zs.length = n) (hb : n ≤ 4611686018427387904) (how : OwnV 3 lo hi w v (intVals zs)) :
    Calls Try.prog 58 #[v, .int .i64 k] w fun e w' => e = .returned (.int .i64 n) ∧ OwnV 3 lo hi w' v (intVals (imarks k zs.length)) ∧ (∀ g, (∀ b, v.ownBlock = some b → b = g) → Kept g (g + 1) w w') ∧ Kept lo hi w w' := by
  rcases how with ⟨h0, rfl⟩ | ⟨g, cap, cur, rfl, h1, h2, hr⟩
  · have h0 : zs = [] := by simpa [intVals] using h0
    subst h0
    simp only [List.length_nil, Nat.add_zero] at hn
    subst hn
    exact (mark_int_none k w hk).mono fun e w' ⟨he, hw⟩ => by subst hw; exact ⟨he, .inl ⟨rfl, rfl⟩, fun g _ => Kept.refl _ _ _, Kept.refl _ _ _⟩
  · have ho : OwnV 3 g (g + 1) w (.slice (some ⟨g, 0, none⟩) (intVals zs).length cap) (intVals zs) := .inr ⟨g, cap, cur, rfl, Nat.le_refl _, Nat.lt_succ_self _, hr⟩
    refine (mark_int zs g (g + 1) k n _ w hk hn hb ho).mono fun e w' ⟨he, hm, hkk⟩ => ⟨he, hm.mono h1 h2, fun b hb => ?_, hkk.mono h1 h2⟩
    obtain rfl := hb g rfl
    exact hkk

set_option maxRecDepth 100000 in
set_option maxHeartbeats 800000 in
theorem mark_rows (zss : List (List Int)) (lo hi k n : Nat) (v : Value) (w : World) (hk : 1 ≤ k) (hn : k + tot zss = n) (hb : n ≤ 4611686018427387904) (how : OwR 24 3 lo hi w v zss) :
    Calls Try.prog 103 #[v, .int .i64 k] w fun e w' => e = .returned (.int .i64 n) ∧ OwR 24 3 lo hi w' v (rmarks k zss) ∧ Kept lo hi w w' := by
  subst hn
  obtain ⟨a, c, rfl, hm, _⟩ := how.rw.shape
  have hs0 : OwR 24 3 lo hi w (.slice a zss.length c) (marked k 0 zss) := by rw [marked_zero]; exact how
  unfold maxLen at hm
  have HS := Lib.hid hs0
  clear hs0 how
  go_enter Try.func103, Try.ntmps103
  go_wp2
  go_loopw [1, 5] (fun q i wr => ∃ j : Nat, j ≤ zss.length ∧ i = .int .i64 j ∧ q = .int .i64 (k + tot (zss.take j) : Nat) ∧ OwR 24 3 lo hi wr (.slice a zss.length c) (marked k j zss) ∧ Kept lo hi w wr) (fun _ i _ => zss.length - (RowKit.intOf i).toNat)
  case atStart => exact ⟨0, Nat.zero_le _, rfl, by simp [tot], HS.out, Kept.refl _ _ _⟩
  case round =>
    obtain ⟨j, hj, rfl, rfl, how, hkp⟩ := hrel
    have HK := Lib.hid hkp
    have HO := Lib.hid how
    by_cases hlt : j < zss.length
    · have hml : j < (marked k j zss).length := by rw [marked_len]; exact hlt
      obtain ⟨b, u, rfl, hb1, hb2, hb3, hcell, hfree, hrow, hub, hupd⟩ := how.at j hml rfl
      rw [marked_at k j zss hlt] at hrow
      have TT := Lib.hid (tot_take hlt)
      have htl := tot_take_le zss (j + 1)
      rw [TT.out] at htl
      have HR := Lib.hid hrow
      have HD := Lib.hid hupd
      have ST := Lib.hid (marked_step k j zss hlt)
      clear how hrow hupd hkp hml
      obtain ⟨q, hq⟩ : ∃ q : Nat, k + tot (zss.take j) = q := ⟨_, rfl⟩
      have hq1 : 1 ≤ q := by omega
      have HQ := Lib.hid hq
      rw [hq]
      clear hq
      go_wp2_with fail
      refine (mark_row zss[j] lo hi q (q + zss[j].length) u _ hq1 rfl (by have := HQ.out; omega) HR.out).mono ?_
      rintro e w1 ⟨rfl, hm1, hf1, hk1⟩
      have HM := Lib.hid (HD.out w1 _ hm1 hf1)
      have HK1 := Lib.hid (HK.out.trans hk1)
      clear hm1 hf1 hk1
      go_wp2_with fail
      refine ⟨⟨j + 1, by omega, by go_num, ?_, ?_, HK1.out⟩, by simp [RowKit.intOf]; omega⟩
      · rw [TT.out, ← HQ.out]; exact int_eq (by omega)
      · rw [← ST.out, HQ.out]; exact HM.out
    · obtain rfl : j = zss.length := by omega
      clear how hkp
      go_wp2
      go_ret
      have h2 := HO.out
      rw [marked_all] at h2
      exact ⟨ret_int (by rw [List.take_length]), h2, HK.out⟩

set_option maxRecDepth 100000 in
set_option maxHeartbeats 800000 in
theorem held_rows (v : Value) (zss : List (List Int)) (k m : Nat) (w : World) (hk : 1 ≤ k) (hn : k + tot zss = m) (hb : m ≤ 4611686018427387904) (hv : Rw w v (rmarks k zss)) :
    Calls Try.prog 105 #[v, .int .i64 k] w fun e w' => e = .returned (.int .i64 m) ∧ Below w.heap.size w w' := by
  subst hn
  have HV := Lib.hid hv
  obtain ⟨a, c, rfl, hm, _⟩ := hv.shape
  rw [rmarks_len] at hm HV ⊢
  unfold maxLen at hm
  clear hv
  go_enter Try.func105, Try.ntmps105
  go_wp2
  go_loopw [1, 5] (fun q i wr => ∃ j : Nat, j ≤ zss.length ∧ i = .int .i64 j ∧ q = .int .i64 (k + tot (zss.take j) : Nat) ∧ Below w.heap.size w wr) (fun _ i _ => zss.length - (RowKit.intOf i).toNat)
  case atStart => exact ⟨0, Nat.zero_le _, rfl, by simp [tot], Below.refl _ _⟩
  case round =>
    obtain ⟨j, hj, rfl, rfl, hbr⟩ := hrel
    have HB := Lib.hid hbr
    by_cases hlt : j < zss.length
    · obtain ⟨b, off, u, rfl, hb2, hcell, hsl⟩ := HV.out.row j (by rw [rmarks_len]; exact hlt) (by rfl)
      rw [← hbr.cell (p := ⟨b, off + j, none⟩) hb2] at hcell
      have hgj : (rmarks k zss)[j]'(by rw [rmarks_len]; exact hlt) = imarks (k + tot (zss.take j)) zss[j].length := by
        have h1 := rmarks_get k zss j hlt
        rw [List.getElem?_eq_getElem (by rw [rmarks_len]; exact hlt)] at h1
        exact Option.some.inj h1
      rw [hgj] at hsl
      have HS := Lib.hid (hsl.below hbr)
      have TT := Lib.hid (tot_take hlt)
      have htl := tot_take_le zss (j + 1)
      rw [TT.out] at htl
      clear hgj hsl hbr
      obtain ⟨q, hq⟩ : ∃ q : Nat, k + tot (zss.take j) = q := ⟨_, rfl⟩
      have hq1 : 1 ≤ q := by omega
      have HQ := Lib.hid hq
      rw [hq] at HS ⊢
      clear hq
      go_wp2_with fail
      refine (held_int u zss[j].length q (q + zss[j].length) _ hq1 rfl (by have := HQ.out; omega) HS.out).mono ?_
      rintro e w1 ⟨rfl, hb1⟩
      have HB1 := Lib.hid (HB.out.trans (hb1.mono HB.out.size))
      clear hb1
      go_wp2_with fail
      exact ⟨⟨j + 1, by omega, by go_num, by rw [TT.out, ← HQ.out]; exact int_eq (by omega), HB1.out⟩, by simp [RowKit.intOf]; omega⟩
    · obtain rfl : j = zss.length := by omega
      clear hbr
      go_wp2
      go_ret
      exact ⟨ret_int (by rw [List.take_length]), HB.out⟩
end Go.Proofs.Ytjijgagdaolkcaa
/- Plain facts on terms: a term is its sign, its shift and its vectors. -/
namespace Go.Proofs.Ytjijgagdaolkcaa

abbrev Tm := Int × List Int × List (List Int)
instance : Inhabited Tm := ⟨(0, [], [])⟩
/-- A vector of a term: two numbers, not both 0. -/
def genR (g : List Int) : Bool := decide (g.length = 2) && (small g 30 && !decide (allG g = 0))
def detG (gs : List (List Int)) : Int := crP (ptOf (gs.getD 0 [])) (ptOf (gs.getD 1 []))
def planeR (x : List Int) : Bool := isV x && decide (x.length = 2)
def signR (s : Int) : Bool := decide (s = 1) || decide (s = -1)
def termR (t : Tm) : Bool := t.2.2.all genR && ((!(decide (t.2.2.length = 2) && decide (detG t.2.2 = 0))) && (signR t.1 && (planeR t.2.1 && decide (t.2.2.length ≤ 2))))
def lessP (x y : P2) : P2 := (x.1 - y.1, x.2 - y.2)
/-- The quotient by one vector, and whether it is a whole number that is at least 0. -/
def quo1 (g d : P2) : Int := if g.1 = 0 then d.2.tdiv g.2 else d.1.tdiv g.1
def hits1 (g d : P2) : Bool := decide (0 ≤ quo1 g d) && (decide (g.1 * quo1 g d = d.1) && decide (g.2 * quo1 g d = d.2))
def whole (n d : Int) : Bool := decide (n.tmod d = 0) && decide (0 ≤ n.tdiv d)
def hits2 (g h d : P2) : Bool := whole (crP d h) (crP g h) && whole (crP g d) (crP g h)
def hitsR : List (List Int) → P2 → Bool
  | [], d => decide (d = (0, 0))
  | [g], d => hits1 (ptOf g) d
  | g :: h :: _, d => hits2 (ptOf g) (ptOf h) d
def termAtR (t : Tm) (x : List Int) : Int := if termR t = true ∧ planeR x = true ∧ hitsR t.2.2 (lessP (ptOf x) (ptOf t.2.1)) = true then t.1 else 0
def allT (ts : List Tm) : Bool := ts.all termR && decide (ts.length ≤ 60)
def sumT (ts : List Tm) (x : List Int) : Int := (ts.map fun t => termAtR t x).sum
def seriesAtR (ts : List Tm) (x : List Int) : Int := if allT ts = true then sumT ts x else 0
def countR (ts : List Tm) : Int := (ts.map fun t => if t.1 = -1 then (-1 : Int) else 1).sum
/-- The terms of two neighbors, of each between the ends. -/
def pairsT (s : List Int) (L : List (List Int)) (n : Nat) : List Tm := (List.range n).map fun k => (1, s, [L.getD k [], L.getD (k + 1) []])
def onesT (s : List Int) (L : List (List Int)) (n : Nat) : List Tm := (List.range n).map fun k => (-1, s, [L.getD (k + 1) []])
noncomputable def seriesR (c : Cn) (s : List Int) : List Tm × Bool :=
  if coneR c = true ∧ planeR s = true ∧ 2 * (splitR c).length - 3 ≤ 60 then (pairsT s (splitR c) ((splitR c).length - 1) ++ onesT s (splitR c) ((splitR c).length - 2), true) else ([], false)

theorem genR_t {g : List Int} (h : genR g = true) : g.length = 2 ∧ small g 30 = true ∧ Cn30 (ptOf g) ∧ rowOf (ptOf g) = g ∧ ptOf g ≠ (0, 0) := by
  unfold genR at h
  rw [Bool.and_eq_true, Bool.and_eq_true] at h
  obtain ⟨h1, h2, h3⟩ := h
  have h1 := of_decide_eq_true h1
  match g, h1 with
  | [a, b], _ =>
    refine ⟨rfl, h2, ⟨small_get h2 0 (by simp), small_get h2 1 (by simp)⟩, rfl, fun e => ?_⟩
    have e1 : a = 0 := congrArg Prod.fst e
    have e2 : b = 0 := congrArg Prod.snd e
    subst e1; subst e2
    rw [gcd_two] at h3
    exact absurd h3 (by decide)
theorem planeR_t {x : List Int} (h : planeR x = true) : isV x = true ∧ x.length = 2 ∧ rowOf (ptOf x) = x ∧ (-1000 ≤ (ptOf x).1 ∧ (ptOf x).1 ≤ 1000) ∧ -1000 ≤ (ptOf x).2 ∧ (ptOf x).2 ≤ 1000 := by
  unfold planeR at h
  rw [Bool.and_eq_true] at h
  have h2 := of_decide_eq_true h.2
  have hs := (isV_t h.1).2.2
  refine ⟨h.1, h2, ?_⟩
  match x, h2 with
  | [a, b], _ => exact ⟨rfl, small_get hs 0 (by simp), small_get hs 1 (by simp)⟩
theorem termR_t {t : Tm} (h : termR t = true) : (∀ (i : Nat) (hi : i < t.2.2.length), genR t.2.2[i] = true) ∧ (t.2.2.length = 2 → detG t.2.2 ≠ 0) ∧ (t.1 = 1 ∨ t.1 = -1) ∧ planeR t.2.1 = true ∧ t.2.2.length ≤ 2 := by
  unfold termR at h
  simp only [Bool.and_eq_true, Bool.not_eq_true', Bool.and_eq_false_iff, decide_eq_false_iff_not, decide_eq_true_eq, List.all_eq_true, signR, Bool.or_eq_true] at h
  obtain ⟨h1, h2, h3, h4, h5⟩ := h
  exact ⟨fun i hi => h1 _ (List.getElem_mem hi), fun e => h2.resolve_left (fun hn => hn e), h3, h4, h5⟩
theorem crP_ne {g h : P2} (h0 : crP g h ≠ 0) : g ≠ (0, 0) := by
  rintro rfl
  exact h0 (by unfold crP; simp)
/-- A multiple of a vector. -/
theorem quo1_mul {g d : P2} (hg : g ≠ (0, 0)) (n : Int) (h : d = (n * g.1, n * g.2)) : quo1 g d = n := by
  subst h
  unfold quo1
  by_cases h1 : g.1 = 0
  · have h2 : g.2 ≠ 0 := fun e => hg (Prod.ext h1 e)
    rw [if_pos h1, Int.mul_tdiv_cancel _ h2]
  · rw [if_neg h1, Int.mul_tdiv_cancel _ h1]
theorem hits1_iff {g d : P2} (hg : g ≠ (0, 0)) : hits1 g d = true ↔ ∃ n : Int, 0 ≤ n ∧ d = (n * g.1, n * g.2) := by
  unfold hits1
  simp only [Bool.and_eq_true, decide_eq_true_eq]
  constructor
  · rintro ⟨h1, h2, h3⟩
    exact ⟨quo1 g d, h1, Prod.ext (by rw [← h2, Int.mul_comm]) (by rw [← h3, Int.mul_comm])⟩
  · rintro ⟨n, h1, h2⟩
    rw [quo1_mul hg n h2]
    subst h2
    exact ⟨h1, Int.mul_comm _ _, Int.mul_comm _ _⟩
/-- The program's quotient by one vector: of two products. -/
def quoD (g d : P2) : Int := (d.1 * g.1 + d.2 * g.2).tdiv (g.1 * g.1 + g.2 * g.2)
theorem sq_nn (a : Int) : 0 ≤ a * a := by rw [← Int.natAbs_mul_self]; exact Int.natCast_nonneg _
theorem sq_ps {a : Int} (h : a ≠ 0) : 0 < a * a := by
  rcases Int.lt_or_gt_of_ne h with h | h
  · exact Int.mul_pos_of_neg_of_neg h h
  · exact Int.mul_pos h h
theorem sq_pos {g : P2} (hg : g ≠ (0, 0)) : 0 < g.1 * g.1 + g.2 * g.2 := by
  have a := sq_nn g.1
  have b := sq_nn g.2
  by_cases h1 : g.1 = 0
  · have h2 : g.2 ≠ 0 := fun e => hg (Prod.ext h1 e)
    have := sq_ps h2
    omega
  · have := sq_ps h1
    omega
theorem hits1_D {g d : P2} (hg : g ≠ (0, 0)) : hits1 g d = (decide (0 ≤ quoD g d) && decide (d = (quoD g d * g.1, quoD g d * g.2))) := by
  rw [Bool.eq_iff_iff, hits1_iff hg]
  simp only [Bool.and_eq_true, decide_eq_true_eq]
  constructor
  · rintro ⟨n, h1, rfl⟩
    have e : quoD g (n * g.1, n * g.2) = n := by
      unfold quoD
      simp only
      rw [show n * g.1 * g.1 + n * g.2 * g.2 = n * (g.1 * g.1 + g.2 * g.2) by rw [Int.mul_add, Int.mul_assoc, Int.mul_assoc]]
      exact Int.mul_tdiv_cancel _ (by have := sq_pos hg; omega)
    rw [e]
    exact ⟨h1, rfl⟩
  · rintro ⟨h1, h2⟩
    exact ⟨quoD g d, h1, h2⟩
theorem pairs_len (s : List Int) (L : List (List Int)) (n : Nat) : (pairsT s L n).length = n := by simp [pairsT]
theorem ones_len (s : List Int) (L : List (List Int)) (n : Nat) : (onesT s L n).length = n := by simp [onesT]
theorem pairs_next (s : List Int) (L : List (List Int)) (n : Nat) : pairsT s L (n + 1) = pairsT s L n ++ [(1, s, [L.getD n [], L.getD (n + 1) []])] := by simp [pairsT, List.range_succ]
theorem ones_next (s : List Int) (L : List (List Int)) (n : Nat) : onesT s L (n + 1) = onesT s L n ++ [(-1, s, [L.getD (n + 1) []])] := by simp [onesT, List.range_succ]
theorem count_take {ts : List Tm} {k : Nat} (h : k < ts.length) : countR (ts.take (k + 1)) = countR (ts.take k) + (if ts[k].1 = -1 then (-1 : Int) else 1) := by
  unfold countR
  rw [List.take_succ_eq_append_getElem h, List.map_append, List.sum_append]; simp
theorem sumT_take {ts : List Tm} {x : List Int} {k : Nat} (h : k < ts.length) : sumT (ts.take (k + 1)) x = sumT (ts.take k) x + termAtR ts[k] x := by
  unfold sumT
  rw [List.take_succ_eq_append_getElem h, List.map_append, List.sum_append]; simp
theorem termAt_bd (t : Tm) (x : List Int) : -1 ≤ termAtR t x ∧ termAtR t x ≤ 1 := by
  unfold termAtR
  split
  · rename_i h
    have := (termR_t h.1).2.2.1
    omega
  · omega
theorem sumT_bd (ts : List Tm) (x : List Int) : ∀ k, k ≤ ts.length → -(k : Int) ≤ sumT (ts.take k) x ∧ sumT (ts.take k) x ≤ k
  | 0, _ => by simp [sumT]
  | k + 1, h => by
    have ih := sumT_bd ts x k (by omega)
    have := termAt_bd ts[k] x
    rw [sumT_take (by omega)]
    omega
theorem count_bd (ts : List Tm) : ∀ k, k ≤ ts.length → -(k : Int) ≤ countR (ts.take k) ∧ countR (ts.take k) ≤ k
  | 0, _ => by simp [countR]
  | k + 1, h => by
    have ih := count_bd ts k (by omega)
    rw [count_take (by omega)]
    split <;> omega

/-- How many numbers there are, how many marks. -/
def totT (ts : List Tm) : Nat := (ts.map fun t => t.2.1.length + (t.2.2.length + tot t.2.2)).sum
def cntT (ts : List Tm) : Nat := (ts.map fun t => 1 + (t.2.1.length + tot t.2.2)).sum
theorem totT_take {ts : List Tm} {k : Nat} (h : k < ts.length) : totT (ts.take (k + 1)) = totT (ts.take k) + (ts[k].2.1.length + (ts[k].2.2.length + tot ts[k].2.2)) := by
  unfold totT
  rw [List.take_succ_eq_append_getElem h, List.map_append, List.sum_append]; simp
theorem totT_take_le (ts : List Tm) (k : Nat) : totT (ts.take k) ≤ totT ts := by
  unfold totT
  conv => rhs; rw [← List.take_append_drop k ts, List.map_append, List.sum_append]
  omega
theorem cntT_take {ts : List Tm} {k : Nat} (h : k < ts.length) : cntT (ts.take (k + 1)) = cntT (ts.take k) + (1 + (ts[k].2.1.length + tot ts[k].2.2)) := by
  unfold cntT
  rw [List.take_succ_eq_append_getElem h, List.map_append, List.sum_append]; simp
theorem cntT_take_le (ts : List Tm) (k : Nat) : cntT (ts.take k) ≤ cntT ts := by
  unfold cntT
  conv => rhs; rw [← List.take_append_drop k ts, List.map_append, List.sum_append]
  omega
theorem cntT_le (ts : List Tm) : cntT ts ≤ ts.length + totT ts := by
  induction ts with
  | nil => simp [cntT]
  | cons t ts ih =>
    simp only [cntT, totT, List.map_cons, List.sum_cons, List.length_cons] at ih ⊢
    omega
theorem term_le_totT {ts : List Tm} {k : Nat} (h : k < ts.length) : ts[k].2.1.length + (ts[k].2.2.length + tot ts[k].2.2) ≤ totT ts := by
  have h1 := totT_take h
  have h2 := totT_take_le ts (k + 1)
  omega
/-- What szTermS answers. -/
def szTs (ts : List Tm) (left : Int) : Int := if left < ts.length + totT ts then -1 else left - ts.length - totT ts
theorem szTs_small {ts : List Tm} {left : Int} (h : left < ts.length + totT ts) : szTs ts left = -1 := if_pos h
theorem szTs_fits {ts : List Tm} {left : Int} (h : ¬ left < ts.length + totT ts) : szTs ts left = left - ts.length - totT ts := if_neg h
/-- Marks from k on. -/
def tmark (k : Nat) (t : Tm) : Tm := ((k : Nat), imarks (k + 1) t.2.1.length, rmarks (k + 1 + t.2.1.length) t.2.2)
def tmarks : Nat → List Tm → List Tm
  | _, [] => []
  | k, t :: ts => tmark k t :: tmarks (k + (1 + (t.2.1.length + tot t.2.2))) ts
theorem tmarks_len : ∀ (k : Nat) (ts : List Tm), (tmarks k ts).length = ts.length
  | _, [] => rfl
  | k, t :: ts => by simp [tmarks, tmarks_len]
theorem tmarks_get : ∀ (k : Nat) (ts : List Tm) (j : Nat) (h : j < ts.length), (tmarks k ts)[j]? = some (tmark (k + cntT (ts.take j)) ts[j])
  | k, [], j, h => by simp at h
  | k, t :: ts, 0, _ => by simp [tmarks, cntT]
  | k, t :: ts, j + 1, h => by
    have ih := tmarks_get (k + (1 + (t.2.1.length + tot t.2.2))) ts j (by simpa using h)
    simp only [tmarks, List.getElem?_cons_succ, List.getElem_cons_succ]
    rw [ih]
    simp only [List.take_succ_cons, cntT, List.map_cons, List.sum_cons, Nat.add_assoc]
def tmarked (k j : Nat) (ts : List Tm) : List Tm := (tmarks k ts).take j ++ ts.drop j
theorem tmarked_len (k j : Nat) (ts : List Tm) : (tmarked k j ts).length = ts.length := by unfold tmarked; rw [List.length_append, List.length_take, List.length_drop, tmarks_len]; omega
theorem tmarked_zero (k : Nat) (ts : List Tm) : tmarked k 0 ts = ts := by simp [tmarked]
theorem tmarked_all (k : Nat) (ts : List Tm) : tmarked k ts.length ts = tmarks k ts := by unfold tmarked; rw [List.drop_length, List.append_nil, List.take_of_length_le (by rw [tmarks_len]; exact Nat.le_refl _)]
theorem tmarked_get (k j i : Nat) (ts : List Tm) : (tmarked k j ts)[i]? = if i < j then (tmarks k ts)[i]? else ts[i]? := by
  unfold tmarked
  by_cases h : i < j
  · rw [if_pos h]
    by_cases h2 : i < ts.length
    · rw [List.getElem?_append_left (by rw [List.length_take, tmarks_len]; omega), List.getElem?_take_of_lt h]
    · rw [List.getElem?_eq_none (by rw [List.length_append, List.length_take, List.length_drop, tmarks_len]; omega), List.getElem?_eq_none (by rw [tmarks_len]; omega)]
  · rw [if_neg h]
    by_cases h2 : j ≤ ts.length
    · rw [List.getElem?_append_right (by rw [List.length_take, tmarks_len]; omega), List.length_take, tmarks_len, List.getElem?_drop]
      congr 1; omega
    · rw [List.getElem?_eq_none (by rw [List.length_append, List.length_take, List.length_drop, tmarks_len]; omega), List.getElem?_eq_none (by omega)]
theorem tmarked_step (k j : Nat) (ts : List Tm) (h : j < ts.length) : (tmarked k j ts).set j (tmark (k + cntT (ts.take j)) ts[j]) = tmarked k (j + 1) ts := by
  refine List.ext_getElem? fun i => ?_
  rw [get_set _ _ _ _ (by rw [tmarked_len]; exact h), tmarked_get, tmarked_get]
  by_cases hij : i = j
  · subst hij
    rw [if_pos rfl, if_pos (Nat.lt_succ_self _), tmarks_get k ts i h]
  · rw [if_neg hij]
    by_cases hlt : i < j
    · rw [if_pos hlt, if_pos (by omega)]
    · rw [if_neg hlt, if_neg (by omega)]
theorem tmarked_at (k j : Nat) (ts : List Tm) (h : j < ts.length) : (tmarked k j ts)[j]'(by rw [tmarked_len]; exact h) = ts[j] := by
  have h1 : (tmarked k j ts)[j]? = ts[j]? := by rw [tmarked_get, if_neg (Nat.lt_irrefl _)]
  rw [List.getElem?_eq_getElem (by rw [tmarked_len]; exact h), List.getElem?_eq_getElem h] at h1
  exact Option.some.inj h1
end Go.Proofs.Ytjijgagdaolkcaa
