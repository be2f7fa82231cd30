/- The laws' marks on slices of slices of integers. -/
import Derived.Test.YtjijgagdaolkcaaMac
import Derived.Test.YtjijgagdaolkcaaMad
namespace Go.Proofs.Ytjijgagdaolkcaa
open Go.RowKit Go.Lib

/-- How far the marks have come: the first j rows bear them. -/
def marked (k j : Nat) (zss : List (List Int)) : List (List Int) := (rmarks k zss).take j ++ zss.drop j
theorem marked_len (k j : Nat) (zss : List (List Int)) : (marked k j zss).length = zss.length := by unfold marked; rw [List.length_append, List.length_take, List.length_drop, rmarks_len]; omega
theorem marked_zero (k : Nat) (zss : List (List Int)) : marked k 0 zss = zss := by simp [marked]
theorem marked_all (k : Nat) (zss : List (List Int)) : marked k zss.length zss = rmarks k zss := by unfold marked; rw [List.drop_length, List.append_nil, List.take_of_length_le (by rw [rmarks_len]; exact Nat.le_refl _)]
theorem marked_get (k j i : Nat) (zss : List (List Int)) : (marked k j zss)[i]? = if i < j then (rmarks k zss)[i]? else zss[i]? := by
  unfold marked
  by_cases h : i < j
  · rw [if_pos h]
    by_cases h2 : i < zss.length
    · rw [List.getElem?_append_left (by rw [List.length_take, rmarks_len]; omega), List.getElem?_take_of_lt h]
    · rw [List.getElem?_eq_none (by rw [List.length_append, List.length_take, List.length_drop, rmarks_len]; omega), List.getElem?_eq_none (by rw [rmarks_len]; omega)]
  · rw [if_neg h]
    by_cases h2 : j ≤ zss.length
    · rw [List.getElem?_append_right (by rw [List.length_take, rmarks_len]; omega), List.length_take, rmarks_len, List.getElem?_drop]
      congr 1; omega
    · rw [List.getElem?_eq_none (by rw [List.length_append, List.length_take, List.length_drop, rmarks_len]; omega), List.getElem?_eq_none (by omega)]
theorem marked_step (k j : Nat) (zss : List (List Int)) (h : j < zss.length) : (marked k j zss).set j (imarks (k + tot (zss.take j)) zss[j].length) = marked k (j + 1) zss := by
  refine List.ext_getElem? fun i => ?_
  rw [get_set _ _ _ _ (by rw [marked_len]; exact h), marked_get, marked_get]
  by_cases hij : i = j
  · subst hij
    rw [if_pos rfl, if_pos (Nat.lt_succ_self _), rmarks_get k zss i h]; rfl
  · rw [if_neg hij]
    by_cases hlt : i < j
    · rw [if_pos hlt, if_pos (by omega)]
    · rw [if_neg hlt, if_neg (by omega)]
theorem marked_at (k j : Nat) (zss : List (List Int)) (h : j < zss.length) : (marked k j zss)[j]'(by rw [marked_len]; exact h) = zss[j] := by
  have h1 : (marked k j zss)[j]? = zss[j]? := by rw [marked_get, if_neg (Nat.lt_irrefl _)]
  rw [List.getElem?_eq_getElem (by rw [marked_len]; exact h), List.getElem?_eq_getElem h] at h1
  exact Option.some.inj h1

/-- markIntS on a row, whatever lies beside it. -/
theorem mark_row (zs : List Int) (lo hi k n : Nat) (v : Value) (w : World) (hk : 1 ≤ k) (hn : k + zs.length = n) (hb : n ≤ 4611686018427387904) (how : OwnV 3 lo hi w v (intVals zs)) :
    Calls Try.prog 58 #[v, .int .i64 k] w fun e w' => e = .returned (.int .i64 n) ∧ OwnV 3 lo hi w' v (intVals (imarks k zs.length)) ∧ (∀ g, (∀ b, v.ownBlock = some b → b = g) → Kept g (g + 1) w w') ∧ Kept lo hi w w' := by
  rcases how with ⟨h0, rfl⟩ | ⟨g, cap, cur, rfl, h1, h2, hr⟩
  · have h0 : zs = [] := by simpa [intVals] using h0
    subst h0
    simp only [List.length_nil, Nat.add_zero] at hn
    subst hn
    exact (mark_int_none k w hk).mono fun e w' ⟨he, hw⟩ => by subst hw; exact ⟨he, .inl ⟨rfl, rfl⟩, fun g _ => Kept.refl _ _ _, Kept.refl _ _ _⟩
  · have ho : OwnV 3 g (g + 1) w (.slice (some ⟨g, 0, none⟩) (intVals zs).length cap) (intVals zs) := .inr ⟨g, cap, cur, rfl, Nat.le_refl _, Nat.lt_succ_self _, hr⟩
    refine (mark_int zs g (g + 1) k n _ w hk hn hb ho).mono fun e w' ⟨he, hm, hkk⟩ => ⟨he, hm.mono h1 h2, fun b hb => ?_, hkk.mono h1 h2⟩
    obtain rfl := hb g rfl
    exact hkk

set_option maxRecDepth 100000 in
set_option maxHeartbeats 800000 in
theorem mark_rows (zss : List (List Int)) (lo hi k n : Nat) (v : Value) (w : World) (hk : 1 ≤ k) (hn : k + tot zss = n) (hb : n ≤ 4611686018427387904) (how : OwR 24 3 lo hi w v zss) :
    Calls Try.prog 103 #[v, .int .i64 k] w fun e w' => e = .returned (.int .i64 n) ∧ OwR 24 3 lo hi w' v (rmarks k zss) ∧ Kept lo hi w w' := by
  subst hn
  obtain ⟨a, c, rfl, hm, _⟩ := how.rw.shape
  have hs0 : OwR 24 3 lo hi w (.slice a zss.length c) (marked k 0 zss) := by rw [marked_zero]; exact how
  unfold maxLen at hm
  have HS := Lib.hid hs0
  clear hs0 how
  go_enter Try.func103, Try.ntmps103
  go_wp2
  go_loopw [1, 5] (fun q i wr => ∃ j : Nat, j ≤ zss.length ∧ i = .int .i64 j ∧ q = .int .i64 (k + tot (zss.take j) : Nat) ∧ OwR 24 3 lo hi wr (.slice a zss.length c) (marked k j zss) ∧ Kept lo hi w wr) (fun _ i _ => zss.length - (RowKit.intOf i).toNat)
  case atStart => exact ⟨0, Nat.zero_le _, rfl, by simp [tot], HS.out, Kept.refl _ _ _⟩
  case round =>
    obtain ⟨j, hj, rfl, rfl, how, hkp⟩ := hrel
    have HK := Lib.hid hkp
    have HO := Lib.hid how
    by_cases hlt : j < zss.length
    · have hml : j < (marked k j zss).length := by rw [marked_len]; exact hlt
      obtain ⟨b, u, rfl, hb1, hb2, hb3, hcell, hfree, hrow, hub, hupd⟩ := how.at j hml rfl
      rw [marked_at k j zss hlt] at hrow
      have TT := Lib.hid (tot_take hlt)
      have htl := tot_take_le zss (j + 1)
      rw [TT.out] at htl
      have HR := Lib.hid hrow
      have HD := Lib.hid hupd
      have ST := Lib.hid (marked_step k j zss hlt)
      clear how hrow hupd hkp hml
      obtain ⟨q, hq⟩ : ∃ q : Nat, k + tot (zss.take j) = q := ⟨_, rfl⟩
      have hq1 : 1 ≤ q := by omega
      have HQ := Lib.hid hq
      rw [hq]
      clear hq
      go_wp2_with fail
      refine (mark_row zss[j] lo hi q (q + zss[j].length) u _ hq1 rfl (by have := HQ.out; omega) HR.out).mono ?_
      rintro e w1 ⟨rfl, hm1, hf1, hk1⟩
      have HM := Lib.hid (HD.out w1 _ hm1 hf1)
      have HK1 := Lib.hid (HK.out.trans hk1)
      clear hm1 hf1 hk1
      go_wp2_with fail
      refine ⟨⟨j + 1, by omega, by go_num, ?_, ?_, HK1.out⟩, by simp [RowKit.intOf]; omega⟩
      · rw [TT.out, ← HQ.out]; exact int_eq (by omega)
      · rw [← ST.out, HQ.out]; exact HM.out
    · obtain rfl : j = zss.length := by omega
      clear how hkp
      go_wp2
      go_ret
      have h2 := HO.out
      rw [marked_all] at h2
      exact ⟨ret_int (by rw [List.take_length]), h2, HK.out⟩

set_option maxRecDepth 100000 in
set_option maxHeartbeats 800000 in
theorem held_rows (v : Value) (zss : List (List Int)) (k m : Nat) (w : World) (hk : 1 ≤ k) (hn : k + tot zss = m) (hb : m ≤ 4611686018427387904) (hv : Rw w v (rmarks k zss)) :
    Calls Try.prog 105 #[v, .int .i64 k] w fun e w' => e = .returned (.int .i64 m) ∧ Below w.heap.size w w' := by
  subst hn
  have HV := Lib.hid hv
  obtain ⟨a, c, rfl, hm, _⟩ := hv.shape
  rw [rmarks_len] at hm HV ⊢
  unfold maxLen at hm
  clear hv
  go_enter Try.func105, Try.ntmps105
  go_wp2
  go_loopw [1, 5] (fun q i wr => ∃ j : Nat, j ≤ zss.length ∧ i = .int .i64 j ∧ q = .int .i64 (k + tot (zss.take j) : Nat) ∧ Below w.heap.size w wr) (fun _ i _ => zss.length - (RowKit.intOf i).toNat)
  case atStart => exact ⟨0, Nat.zero_le _, rfl, by simp [tot], Below.refl _ _⟩
  case round =>
    obtain ⟨j, hj, rfl, rfl, hbr⟩ := hrel
    have HB := Lib.hid hbr
    by_cases hlt : j < zss.length
    · obtain ⟨b, off, u, rfl, hb2, hcell, hsl⟩ := HV.out.row j (by rw [rmarks_len]; exact hlt) (by rfl)
      rw [← hbr.cell (p := ⟨b, off + j, none⟩) hb2] at hcell
      have hgj : (rmarks k zss)[j]'(by rw [rmarks_len]; exact hlt) = imarks (k + tot (zss.take j)) zss[j].length := by
        have h1 := rmarks_get k zss j hlt
        rw [List.getElem?_eq_getElem (by rw [rmarks_len]; exact hlt)] at h1
        exact Option.some.inj h1
      rw [hgj] at hsl
      have HS := Lib.hid (hsl.below hbr)
      have TT := Lib.hid (tot_take hlt)
      have htl := tot_take_le zss (j + 1)
      rw [TT.out] at htl
      clear hgj hsl hbr
      obtain ⟨q, hq⟩ : ∃ q : Nat, k + tot (zss.take j) = q := ⟨_, rfl⟩
      have hq1 : 1 ≤ q := by omega
      have HQ := Lib.hid hq
      rw [hq] at HS ⊢
      clear hq
      go_wp2_with fail
      refine (held_int u zss[j].length q (q + zss[j].length) _ hq1 rfl (by have := HQ.out; omega) HS.out).mono ?_
      rintro e w1 ⟨rfl, hb1⟩
      have HB1 := Lib.hid (HB.out.trans (hb1.mono HB.out.size))
      clear hb1
      go_wp2_with fail
      exact ⟨⟨j + 1, by omega, by go_num, by rw [TT.out, ← HQ.out]; exact int_eq (by omega), HB1.out⟩, by simp [RowKit.intOf]; omega⟩
    · obtain rfl : j = zss.length := by omega
      clear hbr
      go_wp2
      go_ret
      exact ⟨ret_int (by rw [List.take_length]), HB.out⟩
end Go.Proofs.Ytjijgagdaolkcaa
