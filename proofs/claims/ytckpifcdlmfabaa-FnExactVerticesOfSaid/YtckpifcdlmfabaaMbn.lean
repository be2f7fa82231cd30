/- The laws' marks on halves and regions. -/
import Derived.Test.YtckpifcdlmfabaaMal
import Derived.Test.YtckpifcdlmfabaaRowMark
namespace Go.Proofs.Ytckpifcdlmfabaa
open Go.RowKit Go.Lib

/-- A step that changes the normal in place j alone. -/
theorem OwH.norm {T e : TypeId} {lo hi : Nat} {w w' : World} {hs : List Hf} {b n c : Nat} (h : OwH T e lo hi w (.slice (some ⟨b, 0, none⟩) n c) hs) (j : Nat) (hj : j < hs.length) {u : Value} (hc : w.cell? ⟨b, j * 2, none⟩ = some u) {ys : List Int}
    (hys : OwnV e lo hi w' u (intVals ys)) (hk : ∀ g, (∀ x, u.ownBlock = some x → x = g) → Kept g (g + 1) w w') : OwH T e lo hi w' (.slice (some ⟨b, 0, none⟩) n c) (hs.set j (ys, hs[j].2)) := by
  obtain ⟨us, k1, k2, k3, k4, k5, k6⟩ := h
  obtain ⟨g, cap, e1⟩ := Go.Joins.ownsRow_form k2 (by omega)
  simp only [Value.slice.injEq, Option.some.injEq, Addr.mk.injEq] at e1
  obtain ⟨⟨rfl, _, _⟩, rfl, rfl⟩ := e1
  rw [k2.cellAt (j * 2) (by omega), flat_get0 us hs j k1] at hc
  have far : ∀ g, g < w.heap.size → u.ownBlock ≠ some g → w'.heap[g]? = w.heap[g]? := by
    intro g hg hne
    cases hub : u.ownBlock with
    | none => exact (hk (g + 1) (fun x hx => by rw [hub] at hx; cases hx)).block g hg (.inl (Nat.lt_succ_self _))
    | some q =>
      have hq : q ≠ g := fun e => hne (by rw [hub, e])
      exact (hk q (fun x hx => by rw [hub] at hx; exact (Option.some.inj hx).symm)).block g hg (by omega)
  have hfl : flat us (hs.set j (ys, hs[j].2)) = flat us hs := flat_congr _ _ _ (by
    rw [List.map_set]
    exact List.ext_getElem (by simp) fun i h1 h2 => by
      rw [List.getElem_set]; split
      · rename_i hij; subst hij; simp
      · rfl)
  refine ⟨us, by rw [List.length_set, k1], ?_, k3, ?_, k5, k6⟩
  · rw [hfl, List.length_set]
    refine ⟨k2.1, ?_⟩
    rcases k2.2 with h2 | ⟨g, cap, cur, e2, hg, hh, hr⟩
    · exact .inl h2
    · have hbg : b = g := by
        simp only [Value.slice.injEq, Option.some.injEq, Addr.mk.injEq] at e2
        exact e2.1.1
      exact .inr ⟨g, cap, cur, e2, hg, by rw [far g (lt_of_heap hh) (by rw [← hbg]; exact fun hub => k6 j u b hc hub rfl)]; exact hh, hr⟩
  · intro i x z hx hz
    rw [get_set _ _ _ _ hj] at hz
    split at hz
    · rename_i hij
      subst hij
      rw [hc] at hx
      obtain rfl := Option.some.inj hx
      obtain rfl := Option.some.inj hz
      exact hys
    · rename_i hij
      exact kept_far hk (k4 i x z hx hz) (fun q hq => k5 j i _ x q (fun e => hij e.symm) hc hx hq)

/-- How far the marks have come: the first j halves bear them. -/
def hmarked (k j : Nat) (hs : List Hf) : List Hf := (hmarks k hs).take j ++ hs.drop j
theorem hmarked_len (k j : Nat) (hs : List Hf) : (hmarked k j hs).length = hs.length := by unfold hmarked; rw [List.length_append, List.length_take, List.length_drop, hmarks_len]; omega
theorem hmarked_zero (k : Nat) (hs : List Hf) : hmarked k 0 hs = hs := by simp [hmarked]
theorem hmarked_all (k : Nat) (hs : List Hf) : hmarked k hs.length hs = hmarks k hs := by unfold hmarked; rw [List.drop_length, List.append_nil, List.take_of_length_le (by rw [hmarks_len]; exact Nat.le_refl _)]
theorem hmarked_get (k j i : Nat) (hs : List Hf) : (hmarked k j hs)[i]? = if i < j then (hmarks k hs)[i]? else hs[i]? := by
  unfold hmarked
  by_cases h : i < j
  · rw [if_pos h]
    by_cases h2 : i < hs.length
    · rw [List.getElem?_append_left (by rw [List.length_take, hmarks_len]; omega), List.getElem?_take_of_lt h]
    · rw [List.getElem?_eq_none (by rw [List.length_append, List.length_take, List.length_drop, hmarks_len]; omega), List.getElem?_eq_none (by rw [hmarks_len]; omega)]
  · rw [if_neg h]
    by_cases h2 : j ≤ hs.length
    · rw [List.getElem?_append_right (by rw [List.length_take, hmarks_len]; omega), List.length_take, hmarks_len, List.getElem?_drop]
      congr 1; omega
    · rw [List.getElem?_eq_none (by rw [List.length_append, List.length_take, List.length_drop, hmarks_len]; omega), List.getElem?_eq_none (by omega)]
theorem hmarked_step (k j : Nat) (hs : List Hf) (h : j < hs.length) : (hmarked k j hs).set j (imarks (k + totH (hs.take j)) hs[j].1.length, ((k + totH (hs.take j) + hs[j].1.length : Nat) : Int)) = hmarked k (j + 1) hs := by
  refine List.ext_getElem? fun i => ?_
  rw [get_set _ _ _ _ (by rw [hmarked_len]; exact h), hmarked_get, hmarked_get]
  by_cases hij : i = j
  · subst hij
    rw [if_pos rfl, if_pos (Nat.lt_succ_self _), hmarks_get k hs i h]; rfl
  · rw [if_neg hij]
    by_cases hlt : i < j
    · rw [if_pos hlt, if_pos (by omega)]
    · rw [if_neg hlt, if_neg (by omega)]
theorem hmarked_at (k j : Nat) (hs : List Hf) (h : j < hs.length) : (hmarked k j hs)[j]'(by rw [hmarked_len]; exact h) = hs[j] := by
  have h1 : (hmarked k j hs)[j]? = hs[j]? := by rw [hmarked_get, if_neg (Nat.lt_irrefl _)]
  rw [List.getElem?_eq_getElem (by rw [hmarked_len]; exact h), List.getElem?_eq_getElem h] at h1
  exact Option.some.inj h1
theorem totH_take_le (hs : List Hf) (k : Nat) : totH (hs.take k) ≤ totH hs := by
  unfold totH
  conv => rhs; rw [← List.take_append_drop k hs, List.map_append, List.sum_append]
  omega

set_option maxRecDepth 100000 in
set_option maxHeartbeats 800000 in
theorem mark_halfs (hs : List Hf) (lo hi k n : Nat) (v : Value) (w : World) (hk : 1 ≤ k) (hn : k + totH hs = n) (hb : n ≤ 4611686018427387904) (how : OwH 99 3 lo hi w v hs) :
    Calls Try.prog 59 #[v, .int .i64 k] w fun e w' => e = .returned (.int .i64 n) ∧ OwH 99 3 lo hi w' v (hmarks k hs) ∧ Kept lo hi w w' := by
  subst hn
  obtain ⟨a, c, rfl, hm⟩ := how.hs.shape
  have hs0 : OwH 99 3 lo hi w (.slice a hs.length c) (hmarked k 0 hs) := by rw [hmarked_zero]; exact how
  unfold maxLen at hm
  have HS := Lib.hid hs0
  clear hs0 how
  go_enter Try.func59, Try.ntmps59
  go_wp2
  go_loopw [1, 5] (fun q i wr => ∃ j : Nat, j ≤ hs.length ∧ i = .int .i64 j ∧ q = .int .i64 (k + totH (hs.take j) : Nat) ∧ OwH 99 3 lo hi wr (.slice a hs.length c) (hmarked k j hs) ∧ Kept lo hi w wr) (fun _ i _ => hs.length - (RowKit.intOf i).toNat)
  case atStart => exact ⟨0, Nat.zero_le _, rfl, by simp [totH], HS.out, Kept.refl _ _ _⟩
  case round =>
    obtain ⟨j, hj, rfl, rfl, how, hkp⟩ := hrel
    have HK := Lib.hid hkp
    have HO := Lib.hid how
    by_cases hlt : j < hs.length
    · have hml : j < (hmarked k j hs).length := by rw [hmarked_len]; exact hlt
      obtain ⟨b, u, rfl, hb1, hb2, hb3, hcell, hcell1, _, _, hrow, hub⟩ := how.at j hml rfl
      have MA := Lib.hid (hmarked_at k j hs hlt)
      rw [MA.out] at hrow hcell1
      have TT := Lib.hid (totH_take hlt)
      have htl := totH_take_le hs (j + 1)
      rw [TT.out] at htl
      have HR := Lib.hid hrow
      have HC := Lib.hid hcell
      have ST := Lib.hid (hmarked_step k j hs hlt)
      clear how hrow hkp
      obtain ⟨q, hq⟩ : ∃ q : Nat, k + totH (hs.take j) = q := ⟨_, rfl⟩
      have hq1 : 1 ≤ q := by omega
      have HQ := Lib.hid hq
      have hq2 : q + hs[j].1.length + 1 ≤ 4611686018427387904 := by omega
      rw [hq]
      rw [hq] at ST
      clear hq
      go_wp2_with fail
      refine (mark_row hs[j].1 lo hi q (q + hs[j].1.length) u _ hq1 rfl (by have := HQ.out; omega) HR.out).mono ?_
      rintro e w1 ⟨rfl, hm1, hf1, hk1⟩
      have HN := Lib.hid (HO.out.norm j hml HC.out hm1 hf1)
      have HK1 := Lib.hid (HK.out.trans hk1)
      obtain ⟨b', u', e1, p1, p2, p3, d0, d1, fr0, fr1, _, _⟩ := HN.out.at j (by rw [List.length_set]; exact hml) rfl
      simp only [Option.some.injEq, Addr.mk.injEq, and_true] at e1
      subst e1
      have HM := Lib.hid (HN.out.bound j (by rw [List.length_set]; exact hml) ((q + hs[j].1.length : Nat) : Int))
      clear hm1 hf1 hk1
      go_wp2_with fail
      refine ⟨⟨j + 1, by omega, by go_num, ?_, ?_, HK1.out.setCell (p := ⟨b, j * 2 + 1, none⟩) hb1 hb2 _⟩, by simp [RowKit.intOf]; omega⟩
      · rw [TT.out, ← HQ.out]; exact int_eq (by omega)
      · have h2 := HM.out
        rw [List.set_set, List.getElem_set_self, ST.out] at h2
        exact h2
    · obtain rfl : j = hs.length := by omega
      clear how hkp
      go_wp2
      go_ret
      have h2 := HO.out
      rw [hmarked_all] at h2
      exact ⟨ret_int (by rw [List.take_length]), h2, HK.out⟩

def rgmarks (k : Nat) (r : Rgn) : Rgn := (r.1, hmarks k r.2)
set_option maxRecDepth 100000 in
set_option maxHeartbeats 400000 in
theorem mark_region (r : Rgn) (lo hi k n : Nat) (v : Value) (w : World) (hk : 1 ≤ k) (hn : k + totH r.2 = n) (hb : n ≤ 4611686018427387904) (how : OwG lo hi w v r) :
    Calls Try.prog 18 #[v, .int .i64 k] w fun e w' => e = .returned (.int .i64 n) ∧ OwG lo hi w' v (rgmarks k r) ∧ Kept lo hi w w' := by
  obtain ⟨u, rfl, hs⟩ := how
  have B0 := Lib.hid (below1 w (.cells #[.int .i64 r.1, u] 30))
  have HS := Lib.hid (hs.below B0.out)
  clear hs
  go_enter Try.func18, Try.ntmps18
  go_wp2_with fail
  refine (mark_halfs r.2 lo hi k n u _ hk hn hb HS.out).mono ?_
  rintro e w1 ⟨rfl, ho, hkk⟩
  go_wp2_with fail
  go_ret
  exact ⟨rfl, ⟨u, rfl, ho⟩, (Kept.of_below B0.out).trans hkk⟩
end Go.Proofs.Ytckpifcdlmfabaa
/- The marks on rational points. -/
namespace Go.Proofs.Ytckpifcdlmfabaa
open Go Go.RowKit Go.Lib Go.ChangeShapes Go.WideShapes Go.Deep Go.Joins

set_option maxRecDepth 100000 in
set_option maxHeartbeats 800000 in
theorem mark_rats (hs : List Hf) (lo hi k n : Nat) (v : Value) (w : World) (hk : 1 ≤ k) (hn : k + totH hs = n) (hb : n ≤ 4611686018427387904) (how : OwH 63 3 lo hi w v hs) :
    Calls Try.prog 19 #[v, .int .i64 k] w fun e w' => e = .returned (.int .i64 n) ∧ OwH 63 3 lo hi w' v (hmarks k hs) ∧ Kept lo hi w w' := by
  subst hn
  obtain ⟨a, c, rfl, hm⟩ := how.hs.shape
  have hs0 : OwH 63 3 lo hi w (.slice a hs.length c) (hmarked k 0 hs) := by rw [hmarked_zero]; exact how
  unfold maxLen at hm
  have HS := Lib.hid hs0
  clear hs0 how
  go_enter Try.func19, Try.ntmps19
  go_wp2
  go_loopw [1, 5] (fun q i wr => ∃ j : Nat, j ≤ hs.length ∧ i = .int .i64 j ∧ q = .int .i64 (k + totH (hs.take j) : Nat) ∧ OwH 63 3 lo hi wr (.slice a hs.length c) (hmarked k j hs) ∧ Kept lo hi w wr) (fun _ i _ => hs.length - (RowKit.intOf i).toNat)
  case atStart => exact ⟨0, Nat.zero_le _, rfl, by simp [totH], HS.out, Kept.refl _ _ _⟩
  case round =>
    obtain ⟨j, hj, rfl, rfl, how, hkp⟩ := hrel
    have HK := Lib.hid hkp
    have HO := Lib.hid how
    by_cases hlt : j < hs.length
    · have hml : j < (hmarked k j hs).length := by rw [hmarked_len]; exact hlt
      obtain ⟨b, u, rfl, hb1, hb2, hb3, hcell, hcell1, _, _, hrow, hub⟩ := how.at j hml rfl
      have MA := Lib.hid (hmarked_at k j hs hlt)
      rw [MA.out] at hrow hcell1
      have TT := Lib.hid (totH_take hlt)
      have htl := totH_take_le hs (j + 1)
      rw [TT.out] at htl
      have HR := Lib.hid hrow
      have HC := Lib.hid hcell
      have ST := Lib.hid (hmarked_step k j hs hlt)
      clear how hrow hkp
      obtain ⟨q, hq⟩ : ∃ q : Nat, k + totH (hs.take j) = q := ⟨_, rfl⟩
      have hq1 : 1 ≤ q := by omega
      have HQ := Lib.hid hq
      have hq2 : q + hs[j].1.length + 1 ≤ 4611686018427387904 := by omega
      rw [hq]
      rw [hq] at ST
      clear hq
      go_wp2_with fail
      refine (mark_row hs[j].1 lo hi q (q + hs[j].1.length) u _ hq1 rfl (by have := HQ.out; omega) HR.out).mono ?_
      rintro e w1 ⟨rfl, hm1, hf1, hk1⟩
      have HN := Lib.hid (HO.out.norm j hml HC.out hm1 hf1)
      have HK1 := Lib.hid (HK.out.trans hk1)
      obtain ⟨b', u', e1, p1, p2, p3, d0, d1, fr0, fr1, _, _⟩ := HN.out.at j (by rw [List.length_set]; exact hml) rfl
      simp only [Option.some.injEq, Addr.mk.injEq, and_true] at e1
      subst e1
      have HM := Lib.hid (HN.out.bound j (by rw [List.length_set]; exact hml) ((q + hs[j].1.length : Nat) : Int))
      clear hm1 hf1 hk1
      go_wp2_with fail
      refine ⟨⟨j + 1, by omega, by go_num, ?_, ?_, HK1.out.setCell (p := ⟨b, j * 2 + 1, none⟩) hb1 hb2 _⟩, by simp [RowKit.intOf]; omega⟩
      · rw [TT.out, ← HQ.out]; exact int_eq (by omega)
      · have h2 := HM.out
        rw [List.set_set, List.getElem_set_self, ST.out] at h2
        exact h2
    · obtain rfl : j = hs.length := by omega
      clear how hkp
      go_wp2
      go_ret
      have h2 := HO.out
      rw [hmarked_all] at h2
      exact ⟨ret_int (by rw [List.take_length]), h2, HK.out⟩
set_option maxRecDepth 100000 in
set_option maxHeartbeats 800000 in
theorem held_rats (v : Value) (hs : List Hf) (k m : Nat) (w : World) (hk : 1 ≤ k) (hn : k + totH hs = m) (hb : m ≤ 4611686018427387904) (hv : Hs w v (hmarks k hs)) :
    Calls Try.prog 20 #[v, .int .i64 k] w (Quiet w (.int .i64 m)) := by
  subst hn
  have HV := Lib.hid hv
  obtain ⟨a, c, rfl, hm⟩ := hv.shape
  rw [hmarks_len] at hm HV ⊢
  unfold maxLen at hm
  clear hv
  go_enter Try.func20, Try.ntmps20
  go_wp2
  go_loopw [1, 5] (fun q i wr => ∃ j : Nat, j ≤ hs.length ∧ i = .int .i64 j ∧ q = .int .i64 (k + totH (hs.take j) : Nat) ∧ Below w.heap.size w wr) (fun _ i _ => hs.length - (RowKit.intOf i).toNat)
  case atStart => exact ⟨0, Nat.zero_le _, rfl, by simp [totH], Below.refl _ _⟩
  case round =>
    obtain ⟨j, hj, rfl, rfl, hbr⟩ := hrel
    have HB := Lib.hid hbr
    by_cases hlt : j < hs.length
    · obtain ⟨b, off, u, rfl, hcc, hb2, hcell, hcell1, hsl⟩ := HV.out.half j (by rw [hmarks_len]; exact hlt) (by rfl)
      have hgj : (hmarks k hs)[j]'(by rw [hmarks_len]; exact hlt) = (imarks (k + totH (hs.take j)) hs[j].1.length, ((k + totH (hs.take j) + hs[j].1.length : Nat) : Int)) := by
        have h1 := hmarks_get k hs j hlt
        rw [List.getElem?_eq_getElem (by rw [hmarks_len]; exact hlt)] at h1
        exact Option.some.inj h1
      rw [hgj] at hsl hcell1
      have TT := Lib.hid (totH_take hlt)
      have htl := totH_take_le hs (j + 1)
      rw [TT.out] at htl
      obtain ⟨q, hq⟩ : ∃ q : Nat, k + totH (hs.take j) = q := ⟨_, rfl⟩
      have hq1 : 1 ≤ q := by omega
      have HQ := Lib.hid hq
      have hq2 : q + hs[j].1.length + 1 ≤ 4611686018427387904 := by omega
      rw [hq] at hsl hcell1 ⊢
      clear hq hgj
      rw [← hbr.cell (p := ⟨b, off + j * 2, none⟩) hb2] at hcell
      have hcell2 := hcell1
      rw [← hbr.cell (p := ⟨b, off + j * 2 + 1, none⟩) hb2] at hcell1
      have HS := Lib.hid (hsl.below hbr)
      clear hsl hbr
      go_wp2_with fail
      refine (held_int u hs[j].1.length q (q + hs[j].1.length) _ hq1 rfl (by omega) HS.out).mono ?_
      rintro e w1 ⟨rfl, hb1⟩
      have HB1 := Lib.hid (HB.out.trans (hb1.mono HB.out.size))
      rw [← HB1.out.cell (p := ⟨b, off + j * 2 + 1, none⟩) hb2] at hcell2
      clear hb1 hcell1
      go_wp2_with fail
      exact ⟨⟨j + 1, by omega, by go_num, by rw [TT.out, ← HQ.out]; exact int_eq (by omega), HB1.out⟩, by simp [RowKit.intOf]; omega⟩
    · obtain rfl : j = hs.length := by omega
      clear hbr
      go_wp2
      go_ret
      exact ⟨ret_int (by rw [List.take_length]), HB.out⟩
end Go.Proofs.Ytckpifcdlmfabaa
