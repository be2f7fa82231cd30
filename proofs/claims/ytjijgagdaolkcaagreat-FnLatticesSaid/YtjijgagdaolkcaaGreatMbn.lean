/- The model's LatticeIndex, ClassLeader, SameClass. -/
import Derived.Test.YtjijgagdaolkcaaGreatMav
import Derived.Test.YtjijgagdaolkcaaGreatHerC
import Derived.Test.YtjijgagdaolkcaaGreatMai
import Derived.Test.YtjijgagdaolkcaaGreatMal
import Derived.Test.YtjijgagdaolkcaaGreatMac
import Derived.Test.YtjijgagdaolkcaaGreatPgQ
namespace Go.Proofs.YtjijgagdaolkcaaGreat
open Go Go.RowKit Go.Lib

set_option maxRecDepth 100000 in
set_option maxHeartbeats 800000 in
theorem s_index8 (m : List (List Int)) (v : Value) (w : World) (hv : Rw w v m) :
    Calls Tryz.prog 19 #[v] w (Quiet w (.int .i64 (indexR m))) := by
  have HV := Lib.hid hv
  obtain ⟨v, cc, rfl, _, _⟩ := hv.shape
  clear hv
  have hb := detR_bd m
  unfold indexR
  have CD := Lib.hid (fun W h => s_detof m (.slice v m.length cc) W h)
  generalize detR m = d at hb CD
  have CA := Lib.hid (fun W => s_abs d (by omega) (by omega) W)
  clear hb
  go_enter Tryz.func19, Tryz.ntmps19
  go_wp2_with fail
  refine (CD.out _ HV.out).mono ?_
  rintro e w1 ⟨rfl, hb⟩
  have HB := Lib.hid hb
  clear hb
  go_wp2_with fail
  refine (CA.out _).mono ?_
  rintro e w2 ⟨rfl, rfl⟩
  go_wp2_with fail
  go_ret
  exact ⟨rfl, HB.out⟩
/-- A matrix whose Hermite form is one: its rows serve the leaders. -/
theorem lead_rows {m : List (List Int)} (h1 : (hermR m).2 = true) {x : List Int} (h2 : isV x = true) (h3 : x.length = m.length) : 1 ≤ (hermL m).length ∧ (hermL m).length ≤ 3 ∧ LeadOk (hermL m) x ∧ (hermL m).length = m.length := by
  obtain ⟨hd, hm2, hl2⟩ := herm_mat h1
  obtain ⟨h, n1, n3, hp, _, ok, _, hlen, hc⟩ := herm_pad6 hd
  refine ⟨by omega, by omega, leadOk_mk (by omega) (by omega) (small_bd (isV_t h2).2.2) ?_, hlen⟩
  have hq := isM_sq hm2
  intro k hk
  refine ⟨(hermL m)[k], List.getElem?_eq_getElem hk, (hq.2 k hk).1, ?_, bd_up (hq.2 k hk).2 (by omega)⟩
  have p0 := ok.p0; have p1 := ok.p1; have p2 := ok.p2
  rcases hc with ⟨hn, e, _⟩ | ⟨hn, e, _⟩ | ⟨hn, e⟩
  · obtain rfl : k = 0 := by omega
    simpa [e, colA] using p0
  · rcases (by omega : k = 0 ∨ k = 1) with rfl | rfl
    · simpa [e, colA] using p0
    · simpa [e, colA] using p1
  · rcases (by omega : k = 0 ∨ k = 1 ∨ k = 2) with rfl | rfl | rfl
    · simpa [e, colA, H6.rows] using p0
    · simpa [e, colA, H6.rows] using p1
    · simpa [e, colA, H6.rows] using p2
theorem leadS_no {m : List (List Int)} {x : List Int} (h : ¬ ((hermR m).2 = true ∧ isV x = true ∧ x.length = m.length)) : leadR m x = ([], false) := if_neg h
theorem own_none {w : World} {lo : Nat} (h : lo ≤ w.heap.size) : OwnV 3 lo (w.alloc (.cells #[] 3)).heap.size (w.alloc (.cells #[] 3)) (.slice (some ⟨w.heap.size, 0, none⟩) 0 0) (intVals []) := (OwnV.of_owns (owns_none (Nat.le_refl _))).mono h (Nat.le_refl _)
set_option maxRecDepth 100000 in
set_option maxHeartbeats 1600000 in
theorem s_clead (m : List (List Int)) (x : List Int) (v u : Value) (w : World) (hv : Rw w v m) (hu : Sl w u (intVals x)) :
    Calls Tryz.prog 10 #[v, u] w (Got w (leadR m x)) := by
  have HV := Lib.hid hv
  have HU := Lib.hid hu
  obtain ⟨a, ac, rfl, am, _⟩ := hv.shape
  obtain ⟨b, bc, rfl, bm, _⟩ := hu.shape
  rw [intVals_len] at bm HU ⊢
  unfold maxLen at am bm
  clear hv hu
  by_cases h1 : (hermR m).2 = true
  · have H1 := Lib.hid h1
    by_cases h2 : isV x = true
    · by_cases h3 : x.length = m.length
      · obtain ⟨g1, g3, gok, gl⟩ := lead_rows h1 h2 h3
        obtain ⟨_, _, hl2⟩ := herm_mat h1
        have HR := Lib.hid (show leadR m x = (leadL (hermL m) x, true) from (if_pos ⟨h1, h2, h3⟩).trans (by rw [hl2]))
        have HE := Lib.hid h2
        have CF := Lib.hid (show ∀ W A, Rw W A m → Calls Tryz.prog 36 #[A] W (GotR W (hermL m, true)) from fun W A hW => by have h0 := s_hermof m A W hW; rwa [show hermR m = (hermL m, true) from Prod.ext hl2 h1] at h0)
        have CL := Lib.hid (fun W A B hA hB => s_leader (hermL m) x g1 g3 gok A B W hA hB)
        have hne : ((x.length : Int) != (m.length : Int)) = false := by rw [h3]; simp
        clear h3 h2 h1 hl2 g1 g3 gok gl
        go_enter Tryz.func10, Tryz.ntmps10
        go_wp2_with fail
        refine (CF.out _ _ HV.out).mono ?_
        rintro e w1 ⟨⟨r, rfl, ho⟩, hb⟩
        have B1 := Lib.hid hb
        have O1 := Lib.hid ho.rw
        obtain ⟨ra, rc, rfl, _, _⟩ := ho.rw.shape
        clear hb ho
        go_wp2_with fail
        refine (s_isv x _ _ (HU.out.below B1.out)).mono ?_
        rintro e w2 ⟨rfl, hb⟩
        have B2 := Lib.hid (B1.out.trans (hb.mono B1.out.size))
        have O2 := Lib.hid (O1.out.below hb)
        rw [HE.out]
        clear hb
        go_wp2_with fail
        refine (CL.out _ _ _ O2.out (HU.out.below B2.out)).mono ?_
        rintro e w3 ⟨⟨q, rfl, ho⟩, hb⟩
        have B3 := Lib.hid (B2.out.trans (hb.mono B2.out.size))
        have O3 := Lib.hid (ho.mono (lo' := w.heap.size) B2.out.size (Nat.le_refl _))
        clear hb ho
        go_wp2_with fail
        go_ret2
        rw [HR.out]
        exact ⟨⟨_, rfl, O3.out⟩, B3.out⟩
      · have HR := Lib.hid (leadS_no (m := m) (x := x) (fun h => h3 h.2.2))
        have HE := Lib.hid h2
        have hne : ((x.length : Int) != (m.length : Int)) = true := by simp; omega
        clear h3 h2 h1
        go_enter Tryz.func10, Tryz.ntmps10
        go_wp2_with fail
        refine (s_hermof m _ _ HV.out).mono ?_
        rintro e w1 ⟨⟨r, rfl, ho⟩, hb⟩
        have B1 := Lib.hid hb
        obtain ⟨ra, rc, rfl, _, _⟩ := ho.rw.shape
        rw [H1.out]
        clear hb ho
        go_wp2_with fail
        refine (s_isv x _ _ (HU.out.below B1.out)).mono ?_
        rintro e w2 ⟨rfl, hb⟩
        have B2 := Lib.hid (B1.out.trans (hb.mono B1.out.size))
        rw [HE.out]
        clear hb
        go_wp2_with fail
        go_ret2
        rw [HR.out]
        exact ⟨⟨_, rfl, own_none B2.out.size⟩, B2.out.alloc B2.out.size _⟩
    · have HR := Lib.hid (leadS_no (m := m) (x := x) (fun h => h2 h.2.1))
      have HE := Lib.hid (bool_f h2)
      clear h2 h1
      go_enter Tryz.func10, Tryz.ntmps10
      go_wp2_with fail
      refine (s_hermof m _ _ HV.out).mono ?_
      rintro e w1 ⟨⟨r, rfl, ho⟩, hb⟩
      have B1 := Lib.hid hb
      obtain ⟨ra, rc, rfl, _, _⟩ := ho.rw.shape
      rw [H1.out]
      clear hb ho
      go_wp2_with fail
      refine (s_isv x _ _ (HU.out.below B1.out)).mono ?_
      rintro e w2 ⟨rfl, hb⟩
      have B2 := Lib.hid (B1.out.trans (hb.mono B1.out.size))
      rw [HE.out]
      clear hb
      go_wp2_with fail
      go_ret2
      rw [HR.out]
      exact ⟨⟨_, rfl, own_none B2.out.size⟩, B2.out.alloc B2.out.size _⟩
  · have HR := Lib.hid (leadS_no (m := m) (x := x) (fun h => h1 h.1))
    have HE := Lib.hid (bool_f h1)
    clear h1
    go_enter Tryz.func10, Tryz.ntmps10
    go_wp2_with fail
    refine (s_hermof m _ _ HV.out).mono ?_
    rintro e w1 ⟨⟨r, rfl, ho⟩, hb⟩
    have B1 := Lib.hid hb
    obtain ⟨ra, rc, rfl, _, _⟩ := ho.rw.shape
    rw [HE.out]
    clear hb ho
    go_wp2_with fail
    go_ret2
    rw [HR.out]
    exact ⟨⟨_, rfl, own_none B1.out.size⟩, B1.out.alloc B1.out.size _⟩
set_option maxRecDepth 100000 in
set_option maxHeartbeats 1600000 in
theorem s_same8 (m : List (List Int)) (x y : List Int) (v u t : Value) (w : World) (hv : Rw w v m) (hu : Sl w u (intVals x)) (ht : Sl w t (intVals y)) :
    Calls Tryz.prog 17 #[v, u, t] w (Quiet w (.bool (sameR m x y))) := by
  have HV := Lib.hid hv
  have HU := Lib.hid hu
  have HT := Lib.hid ht
  obtain ⟨a, ac, rfl, am, _⟩ := hv.shape
  obtain ⟨b, bc, rfl, bm, _⟩ := hu.shape
  obtain ⟨d, dc, rfl, dm, _⟩ := ht.shape
  rw [intVals_len] at bm dm HU HT ⊢
  rw [intVals_len]
  unfold maxLen at am bm dm
  clear hv hu ht
  have C1 := Lib.hid (fun W A B h k => s_clead m x A B W h k)
  have C2 := Lib.hid (fun W A B h k => s_clead m y A B W h k)
  unfold sameR
  generalize leadR m x = p at C1
  generalize leadR m y = q at C2
  obtain ⟨p1, p2⟩ := p
  obtain ⟨q1, q2⟩ := q
  simp only
  go_enter Tryz.func17, Tryz.ntmps17
  go_wp2_with fail
  refine (C1.out _ _ _ HV.out HU.out).mono ?_
  rintro e w1 ⟨⟨r, rfl, ho⟩, hb⟩
  have B1 := Lib.hid hb
  have O1 := Lib.hid ho.sl
  obtain ⟨ra, rc, rfl, _, _⟩ := ho.sl.shape
  clear hb ho
  go_wp2_with fail
  refine (C2.out _ _ _ (HV.out.below B1.out) (HT.out.below B1.out)).mono ?_
  rintro e w2 ⟨⟨r2, rfl, ho⟩, hb⟩
  have B2 := Lib.hid (B1.out.trans (hb.mono B1.out.size))
  have O2 := Lib.hid (O1.out.below hb)
  have O3 := Lib.hid ho.sl
  obtain ⟨sa, sc, rfl, _, _⟩ := ho.sl.shape
  clear hb ho
  cases p2 with
  | false =>
    go_wp2_with fail
    go_ret
    exact ⟨rfl, B2.out⟩
  | true =>
    cases q2 with
    | false =>
      go_wp2_with fail
      go_ret
      exact ⟨rfl, B2.out⟩
    | true =>
      go_wp2_with fail
      refine (s_sameP p1 q1 _ _ _ O2.out O3.out).mono ?_
      rintro e w3 ⟨rfl, hb⟩
      have B3 := Lib.hid (B2.out.trans (hb.mono B2.out.size))
      clear hb
      go_wp2_with fail
      go_ret
      exact ⟨rfl, B3.out⟩
end Go.Proofs.YtjijgagdaolkcaaGreat
/- The model's ClassLeaders. -/
namespace Go.Proofs.YtjijgagdaolkcaaGreat
open Go Go.RowKit Go.Lib

theorem rngI_range (d : Nat) : rngI 0 d = (List.range d).map fun i : Nat => (i : Int) := by unfold rngI; exact List.map_congr_left fun i _ => by omega
theorem stepB_rng (l : List (List Int)) (d : Nat) : (l.flatMap fun p => (rngI 0 d).map fun x => p ++ [x]) = stepB l d := by
  unfold stepB
  rw [rngI_range]
  simp only [List.map_map]
  rfl
/-- What the loops over the leaders meet: the numbers on the diagonal, and how many there are so far. -/
def BoxOk (h : List (List Int)) : Prop := ∀ k, k < h.length → ∃ r, h[k]? = some r ∧ r.length = h.length ∧ 0 < colA k r ∧ colA k r ≤ 500 ∧ (boxS h k).length ≤ 500 ∧ ∀ p ∈ boxS h k, p.length ≤ 3
theorem boxS_lens (h : List (List Int)) : ∀ (k : Nat), ∀ p ∈ boxS h k, p.length = k
  | 0, p, hp => by simp [boxS] at hp; subst hp; rfl
  | k + 1, p, hp => by
    simp only [boxS, stepB, List.mem_flatMap, List.mem_map] at hp
    obtain ⟨q, hq, x, _, rfl⟩ := hp
    simp [boxS_lens h k q hq]
theorem stepB_len (l : List (List Int)) (d : Nat) : (stepB l d).length = l.length * d := by
  unfold stepB
  induction l with
  | nil => simp
  | cons p l ih => rw [List.flatMap_cons, List.length_append, ih, List.length_map, List.length_range, List.length_cons, Nat.succ_mul, Nat.add_comm]
theorem boxS_step {h : List (List Int)} {k : Nat} {r : List Int} (e : h[k]? = some r) : boxS h (k + 1) = stepB (boxS h k) (colA k r).toNat := by
  show stepB (boxS h k) (colA k (h.getD k [])).toNat = _
  rw [show h.getD k [] = r by rw [List.getD_eq_getElem?_getD, e]; rfl]
/-- Positive diagonals whose product is at most 500. -/
theorem boxOk_mk {h : List (List Int)} (h3 : h.length ≤ 3) (hr : ∀ k, k < h.length → ∃ r, h[k]? = some r ∧ r.length = h.length ∧ 0 < colA k r) (hc : (boxL h).length ≤ 500) : BoxOk h := by
  have up : ∀ k, k ≤ h.length → (boxS h k).length ≤ 500 ∧ 0 < (boxS h k).length := by
    have key : ∀ j, j ≤ h.length → (boxS h (h.length - j)).length ≤ 500 := by
      intro j
      induction j with
      | zero => intro _; exact hc
      | succ j ih =>
        intro hj
        have i1 := ih (by omega)
        obtain ⟨r, e, _, rp⟩ := hr (h.length - (j + 1)) (by omega)
        rw [show h.length - j = h.length - (j + 1) + 1 by omega, boxS_step e, stepB_len] at i1
        have : 1 ≤ (colA (h.length - (j + 1)) r).toNat := by omega
        have := Nat.mul_le_mul_left (boxS h (h.length - (j + 1))).length this
        omega
    have pos : ∀ k, k ≤ h.length → 0 < (boxS h k).length := by
      intro k
      induction k with
      | zero => intro _; simp [boxS]
      | succ k ih =>
        intro hk
        obtain ⟨r, e, _, rp⟩ := hr k (by omega)
        rw [boxS_step e, stepB_len]
        exact Nat.mul_pos (ih (by omega)) (by omega)
    exact fun k hk => ⟨by have := key (h.length - k) (by omega); rwa [show h.length - (h.length - k) = k by omega] at this, pos k hk⟩
  intro k hk
  obtain ⟨r, e, rl, rp⟩ := hr k hk
  have a := up (k + 1) (by omega)
  have b := up k (by omega)
  rw [boxS_step e, stepB_len] at a
  have c : 1 * (colA k r).toNat ≤ (boxS h k).length * (colA k r).toNat := Nat.mul_le_mul_right _ b.2
  exact ⟨r, e, rl, rp, by omega, b.1, fun p hp => by rw [boxS_lens h k p hp]; omega⟩
theorem boxL_len {m : List (List Int)} (hd : detR m ≠ 0) (h2 : indexR m ≤ 500) : (boxL (hermL m)).length ≤ 500 := by
  obtain ⟨h, n1, n3, hp, _, ok, hix, hlen, hc⟩ := herm_pad6 hd
  have p0 := ok.p0; have p1 := ok.p1; have p2 := ok.p2
  rw [← box_cut hd hp, List.length_map]
  have hs : (((boxT h).length : Nat) : Int) = h.d0 * h.d1 * h.d2 := by
    rw [boxT_len]
    simp only [Int.natCast_mul]
    rw [Int.toNat_of_nonneg (by omega), Int.toNat_of_nonneg (by omega), Int.toNat_of_nonneg (by omega), Int.mul_assoc]
  omega
theorem leadersR_tot (m : List (List Int)) : tot (leadersR m) ≤ 1500 := by
  unfold leadersR
  split
  · rename_i h
    obtain ⟨hd, hm2, hl2⟩ := herm_mat h.1
    have h5 := boxL_len hd h.2
    obtain ⟨_, _, n3, _, _, _, _, hlen, _⟩ := herm_pad6 hd
    rw [hl2]
    unfold tot
    rw [sum_const List.length (hermL m).length (boxL (hermL m)) (fun x hx => boxS_lens _ _ x hx)]
    have := Nat.mul_le_mul h5 (show (hermL m).length ≤ 3 by omega)
    omega
  · simp [tot]
theorem box_ok' {m : List (List Int)} (hd : detR m ≠ 0) (h2 : indexR m ≤ 500) : BoxOk (hermL m) := by
  obtain ⟨h, n1, n3, hp, _, ok, hix, hlen, hc⟩ := herm_pad6 hd
  have p0 := ok.p0; have p1 := ok.p1; have p2 := ok.p2
  refine boxOk_mk (by omega) ?_ ?_
  · intro k hk
    refine ⟨(hermL m)[k], List.getElem?_eq_getElem hk, ?_, ?_⟩
    · rcases hc with ⟨hn, e, _⟩ | ⟨hn, e, _⟩ | ⟨hn, e⟩
      · obtain rfl : k = 0 := by omega
        simp [e]
      · rcases (by omega : k = 0 ∨ k = 1) with rfl | rfl <;> simp [e]
      · rcases (by omega : k = 0 ∨ k = 1 ∨ k = 2) with rfl | rfl | rfl <;> simp [e, H6.rows]
    · rcases hc with ⟨hn, e, _⟩ | ⟨hn, e, _⟩ | ⟨hn, e⟩
      · obtain rfl : k = 0 := by omega
        simpa [e, colA] using p0
      · rcases (by omega : k = 0 ∨ k = 1) with rfl | rfl
        · simpa [e, colA] using p0
        · simpa [e, colA] using p1
      · rcases (by omega : k = 0 ∨ k = 1 ∨ k = 2) with rfl | rfl | rfl
        · simpa [e, colA, H6.rows] using p0
        · simpa [e, colA, H6.rows] using p1
        · simpa [e, colA, H6.rows] using p2
  · exact boxL_len hd h2
/-- The leaders' box of a matrix that has leaders. -/
theorem box_ok {m : List (List Int)} (h1 : (hermR m).2 = true) (h2 : indexR m ≤ 500) : BoxOk (hermL m) := by
  obtain ⟨hd, hm2, _⟩ := herm_mat h1
  exact box_ok' hd h2
set_option maxRecDepth 100000 in
set_option maxHeartbeats 4000000 in
theorem s_leaders8 (m : List (List Int)) (v : Value) (w : World) (hv : Rw w v m) :
    Calls Tryz.prog 14 #[v] w (MadeR w (leadersR m)) := by
  have HM := Lib.hid hv
  obtain ⟨a, ac, rfl, am, _⟩ := hv.shape
  unfold maxLen at am
  clear hv
  by_cases h1 : (hermR m).2 = true
  · have H1 := Lib.hid h1
    have CF := Lib.hid (show ∀ W A, Rw W A m → Calls Tryz.prog 36 #[A] W (GotR W (hermL m, true)) from fun W A hW => by have h0 := s_hermof m A W hW; rwa [show hermR m = (hermL m, true) from Prod.ext (herm_mat h1).2.2 h1] at h0)
    have CI := Lib.hid (fun A W hA => s_index8 m A W hA)
    by_cases h2 : indexR m ≤ 500
    · have HR := Lib.hid (show leadersR m = boxS (hermL m) (hermL m).length from (if_pos ⟨h1, h2⟩).trans (by rw [(herm_mat h1).2.2]; rfl))
      have hk := box_ok h1 h2
      have h3 : (hermL m).length ≤ 3 := by
        obtain ⟨hd, _⟩ := herm_mat h1
        obtain ⟨_, _, n3, _, _, _, _, hlen, _⟩ := herm_pad6 hd
        omega
      generalize hermL m = h at CF HR hk h3
      have HK := Lib.hid hk
      clear hk h1
      generalize indexR m = ix at CI h2
      go_enter Tryz.func14, Tryz.ntmps14
      go_wp2_with fail
      refine (CF.out _ _ HM.out).mono ?_
      rintro e wa ⟨⟨r0, rfl, ho⟩, hb⟩
      have BA := Lib.hid hb
      have HV0 := Lib.hid ho.rw
      obtain ⟨ha, hac, rfl, _, _⟩ := ho.rw.shape
      clear hb ho
      go_wp2_with fail
      refine (CI.out _ _ (HM.out.below BA.out)).mono ?_
      rintro e wb ⟨rfl, hb⟩
      have BB := Lib.hid (BA.out.trans (hb.mono BA.out.size))
      have HV := Lib.hid (HV0.out.below hb)
      clear hb HV0
      go_wp2
      go_loopw [5, 6] (fun o k wr => ∃ kk : Nat, kk ≤ h.length ∧ k = .int .i64 kk ∧ OwR 27 3 w.heap.size wr.heap.size wr o (boxS h kk) ∧ Below wb.heap.size wb wr) (fun _ k _ => h.length - (RowKit.intOf k).toNat)
      case atStart => exact ⟨0, Nat.zero_le _, rfl, (owr_one (Nat.le_refl _)).mono BB.out.size (Nat.le_refl _), below2 _ _ _⟩
      case round =>
        obtain ⟨k, hk, rfl, how, hbr⟩ := hrel
        rename World => w1
        have HW := Lib.hid how
        have HB := Lib.hid hbr
        obtain ⟨oa, oc, rfl, _, _⟩ := how.rw.shape
        clear how hbr
        by_cases hlt : k < h.length
        · obtain ⟨r, er, rl, rp, rp5, hout, hls⟩ := HK.out k hlt
          have HST := Lib.hid (boxS_step er)
          have HL3 := Lib.hid hls
          obtain ⟨hb1, hbo, ru, rfl, hrl, hrc, hrs⟩ := HV.out.row k hlt rfl
          have eh : h[k] = r := by rw [List.getElem?_eq_getElem hlt] at er; exact Option.some.inj er
          rw [eh] at hrs
          obtain ⟨ra, rc, rfl, rm, rsh⟩ := hrs.shape
          rw [intVals_len, rl] at rsh hrc hrs
          obtain ⟨rb, ro, rfl, rcl, rlt, rx⟩ := rsh (by omega)
          have ek : r[k]? = some (colA k r) := by rw [colA_get (by omega)]; exact List.getElem?_eq_getElem (by omega)
          have hrk := rx k (.int .i64 (colA k r)) (by simp [intVals, ek])
          obtain ⟨L, hL⟩ : ∃ L : Nat, colA k r = (L : Int) := ⟨(colA k r).toNat, by omega⟩
          rw [hL] at hrk rp rp5 HST
          rw [show ((L : Nat) : Int).toNat = L from by omega] at HST
          have hL5 : L ≤ 500 := by omega
          have hRl := rngI_len 0 L
          clear er rl rm rsh rcl rx ek hL eh hrs hls rp rp5
          have HRC := Lib.hid hrc
          have HRK := Lib.hid hrk
          clear hrc hrk
          have IL := Lib.hid (boxS_lens h k)
          obtain ⟨out, hO⟩ : ∃ out, boxS h k = out := ⟨_, rfl⟩
          rw [hO] at HW hout HST HL3 ⊢
          clear hO IL
          have i1h : (0 : Int) ≤ (k : Int) := by omega
          have i2h : (k : Int) < (h.length : Int) := by omega
          go_wp2
          go_loopw [7, 8] (fun nx i ws => ∃ ii : Nat, ii ≤ out.length ∧ i = .int .i64 ii ∧ OwR 27 3 w1.heap.size ws.heap.size ws nx (nextL (rngI 0 L) out ii 0) ∧ Below w1.heap.size w1 ws) (fun _ i _ => out.length - (RowKit.intOf i).toNat)
          case atStart => exact ⟨0, Nat.zero_le _, rfl, by rw [nextL_zero]; exact owr_empty (Nat.le_refl _), below1 _ _⟩
          case round =>
            obtain ⟨i, hi, rfl, how, hbr⟩ := hrel
            have HX := Lib.hid how
            have HS := Lib.hid hbr
            clear how hbr
            by_cases hli : i < out.length
            case neg =>
              obtain rfl : i = out.length := by omega
              have HN := Lib.hid ((nextL_all (rngI 0 L) out).trans (stepB_rng out L))
              go_wp2
              refine ⟨⟨k + 1, by omega, by go_num, ?_, HB.out.trans (HS.out.mono HB.out.size)⟩, by simp [RowKit.intOf]; omega⟩
              rw [HST.out, ← HN.out]
              exact HX.out.mono (Nat.le_trans BB.out.size HB.out.size) (Nat.le_refl _)
            rename World => w2
            go_wp2
            go_loopw [7, 9] (fun nx x ws => ∃ jj : Nat, jj ≤ L ∧ x = .int .i64 jj ∧ OwR 27 3 w1.heap.size ws.heap.size ws nx (nextL (rngI 0 L) out i jj) ∧ Below w1.heap.size w1 ws) (fun _ x _ => L - (RowKit.intOf x).toNat)
            case atStart => exact ⟨0, Nat.zero_le _, rfl, HX.out, HS.out⟩
            case round =>
              obtain ⟨j, hj, rfl, how, hbr⟩ := hrel
              have HX2 := Lib.hid how
              have HS2 := Lib.hid hbr
              clear how hbr
              rename World => w3
              have HA := Lib.hid (HB.out.trans (HS2.out.mono HB.out.size))
              have hcr := (HA.out.cell (p := ⟨hb1, hbo + k, none⟩) hrl).trans HRC.out
              have hck := (HA.out.cell (p := ⟨rb, ro + k, none⟩) rlt).trans HRK.out
              by_cases hlj : j < L
              case neg =>
                obtain rfl : j = L := by omega
                have HN := Lib.hid (nextL_row (R := rngI 0 j) hli)
                rw [hRl] at HN
                go_wp2
                exact ⟨⟨i + 1, by omega, by go_num, by rw [← HN.out]; exact HX2.out, HS2.out⟩, by simp [RowKit.intOf]; omega⟩
              obtain ⟨b1, r, rfl, _, _, hlt1, hcell, _, hor, _, _⟩ := (HW.out.below HS2.out).at i hli rfl
              have hcell4 : (w3.alloc (.cells #[] 3)).cell? ⟨b1, i, none⟩ = some r := ((below1 w3 (.cells #[] 3)).cell (p := ⟨b1, i, none⟩) hlt1).trans hcell
              have HR := Lib.hid (hor.below (below1 w3 (.cells #[] 3)))
              have hl3 : out[i].length ≤ 3 := HL3.out _ (List.getElem_mem hli)
              have HNx := Lib.hid (nextL_step (R := rngI 0 L) hli (by rw [hRl]; exact hlj))
              have hnl := nextL_le (R := rngI 0 L) hi (show j ≤ (rngI 0 L).length by omega) (by omega) (show out.length ≤ 1000000 by omega)
              have hnb : 0 + out[i].length ≤ 1099511627776 := by omega
              clear hcell hor
              have i1 : (0 : Int) ≤ (i : Int) := by omega
              have i3 : (j : Int) < (L : Int) := by omega
              go_wp2_with (first | (at_builtin; refine list_app_ints rfl _ _ rfl w3.heap.size (.slice (some ⟨w3.heap.size, 0, none⟩) 0 0) 0 [] out[i] r w.heap.size w1.heap.size rfl (owns_none (Nat.le_refl _)) rfl HR.out hnb (by simp) ?_; intro v5 w5 hown5 hbel5; have HO5 := Lib.hid hown5; have HB5 := Lib.hid ((below1 w3 (.cells #[] 3)).trans hbel5); have hs5 := HB5.out.size; clear hown5 hbel5) | (at_builtin; refine list_app_int2 rfl _ _ rfl w3.heap.size v5 (0 + out[i].length) ([] ++ out[i]) j rfl (HO5.out.alloc _) w5.heap.size rfl (heap_alloc_new w5 _) hnb (by rw [World.size_alloc]; omega) ?_; intro g6 c6 w6 hown6 hgr6 hpl6; simp only [Nat.zero_add, List.nil_append] at hown6; have HO6 := Lib.hid hown6; have HB6 := Lib.hid (HB5.out.trans (((Below.refl w3.heap.size w5).alloc hs5 (.cells #[.int .i64 j] 3)).grown hgr6 (by rw [World.size_alloc]; omega) (fun b e => (HO5.out.lt b e).1))); clear hown6 hgr6 hpl6) | (at_builtin; refine list_app_row2 rfl _ _ rfl w1.heap.size w3.heap.size u7 (.slice (some ⟨g6, 0, none⟩) (out[i].length + 1) c6) (nextL (rngI 0 L) out i j) (out[i] ++ [(j : Int)]) rfl ((HX2.out.below HB6.out).below (below1 w6 _)) (((OwnV.of_owns HO6.out).below (below1 w6 _)).mono (Nat.le_refl _) (by simp)) w6.heap.size rfl (heap_alloc_new w6 _) hnl HS2.out.size (by have := HB6.out.size; rw [World.size_alloc]; omega) ?_; intro g7 c7 w7 hown7 hbel7 _ _; have HO7 := Lib.hid hown7; have HB7 := Lib.hid (HS2.out.trans (((HB6.out.mono HS2.out.size).trans ((below1 w6 _).mono (Nat.le_trans HS2.out.size HB6.out.size))).trans hbel7)); clear hown7 hbel7))
              refine ⟨⟨j + 1, by omega, by go_num, ?_, HB7.out⟩, by simp [RowKit.intOf]; omega⟩
              have h7 := HO7.out
              rw [show out[i] ++ [(j : Int)] = out[i] ++ [(rngI 0 L)[j]'(by rw [hRl]; exact hlj)] by rw [rngI_get]; simp, HNx.out] at h7
              exact h7
        · obtain rfl : k = h.length := by omega
          go_wp2
          go_ret
          rw [HR.out]
          exact ⟨⟨_, rfl, HW.out⟩, BB.out.trans (HB.out.mono BB.out.size)⟩
    · have HR := Lib.hid (show leadersR m = [] from if_neg (fun h => h2 h.2))
      clear h1
      generalize indexR m = ix at CI h2
      have hle : 500 < ix := by omega
      clear h2
      go_enter Tryz.func14, Tryz.ntmps14
      go_wp2_with fail
      refine (CF.out _ _ HM.out).mono ?_
      rintro e w1 ⟨⟨r, rfl, ho⟩, hb⟩
      have B1 := Lib.hid hb
      obtain ⟨ra, rc, rfl, _, _⟩ := ho.rw.shape
      clear hb ho
      go_wp2_with fail
      refine (CI.out _ _ (HM.out.below B1.out)).mono ?_
      rintro e w2 ⟨rfl, hb⟩
      have B2 := Lib.hid (B1.out.trans (hb.mono B1.out.size))
      clear hb
      go_wp2_with fail
      go_ret
      rw [HR.out]
      exact ⟨⟨_, rfl, (owr_empty (Nat.le_refl _)).mono B2.out.size (Nat.le_refl _)⟩, B2.out.alloc B2.out.size _⟩
  · have HR := Lib.hid (show leadersR m = [] from if_neg (fun h => h1 h.1))
    have HE := Lib.hid (bool_f h1)
    clear h1
    go_enter Tryz.func14, Tryz.ntmps14
    go_wp2_with fail
    refine (s_hermof m _ _ HM.out).mono ?_
    rintro e w1 ⟨⟨r, rfl, ho⟩, hb⟩
    have B1 := Lib.hid hb
    obtain ⟨ra, rc, rfl, _, _⟩ := ho.rw.shape
    rw [HE.out]
    clear hb ho
    go_wp2_with fail
    go_ret
    rw [HR.out]
    exact ⟨⟨_, rfl, (owr_empty (Nat.le_refl _)).mono B1.out.size (Nat.le_refl _)⟩, B1.out.alloc B1.out.size _⟩
end Go.Proofs.YtjijgagdaolkcaaGreat
/- The model's l8Factors and l8Cell. -/
namespace Go.Proofs.YtjijgagdaolkcaaGreat
open Go Go.RowKit Go.Lib

/-- v lies in a block of its own from lo on; its rows are those of before, in w0, and read as pts. -/
def RdL (w0 : World) (lo : Nat) (w : World) (v : Value) (pts : List (List Int)) : Prop :=
  ∃ vs : List Value, vs.length = pts.length ∧ OwnV 27 lo w.heap.size w v vs ∧ ∀ (i : Nat) x p, vs[i]? = some x → pts[i]? = some p → Sl w0 x (intVals p)
theorem RdL.below {w0 w w' : World} {lo : Nat} {v : Value} {pts : List (List Int)} (h : RdL w0 lo w v pts) (hb : Below w.heap.size w w') : RdL w0 lo w' v pts := by
  obtain ⟨vs, h1, h2, h3⟩ := h
  exact ⟨vs, h1, (h2.below hb).mono (Nat.le_refl _) hb.size, h3⟩
theorem RdL.shape {w0 w : World} {lo : Nat} {v : Value} {pts : List (List Int)} (h : RdL w0 lo w v pts) : ∃ (a : Option Addr) (c : Nat), v = .slice a pts.length c ∧ pts.length ≤ c ∧ c ≤ maxLen := by
  obtain ⟨vs, h1, h2, _⟩ := h
  have := owns_slice h2.owns
  rwa [h1] at this
theorem RdL.rw {w0 w : World} {lo : Nat} {v : Value} {pts : List (List Int)} (h : RdL w0 lo w v pts) (hb : Below w0.heap.size w0 w) : Rw w v pts := by
  obtain ⟨vs, h1, h2, h3⟩ := h
  exact ⟨vs, h1, h2.sl, fun i u zs hu hz => (h3 i u zs hu hz).below hb⟩
/-- Row j: its cell, its numbers. -/
theorem RdL.at {w0 w : World} {lo : Nat} {pts : List (List Int)} {a : Option Addr} {n c : Nat} (h : RdL w0 lo w (.slice a n c) pts) (j : Nat) (hj : j < pts.length) :
    ∃ (b : Nat) (x : Value), a = some ⟨b, 0, none⟩ ∧ lo ≤ b ∧ b < w.heap.size ∧ w.cell? ⟨b, j, none⟩ = some x ∧ Sl w0 x (intVals pts[j]) := by
  obtain ⟨vs, h1, h2, h3⟩ := h
  obtain ⟨b, cap, e1, hb1, hb2⟩ := h2.form (by omega)
  simp only [Value.slice.injEq] at e1
  obtain ⟨rfl, rfl, rfl⟩ := e1
  have hu : vs[j]? = some vs[j] := List.getElem?_eq_getElem (by omega)
  exact ⟨b, vs[j], rfl, hb1, hb2, by rw [h2.owns.cellAt j (by omega)]; exact hu, h3 j _ _ hu (List.getElem?_eq_getElem hj)⟩
/-- The first m rows. -/
theorem RdL.cut {w0 w : World} {lo : Nat} {pts : List (List Int)} {g n c m : Nat} (h : RdL w0 lo w (.slice (some ⟨g, 0, none⟩) n c) pts) (hm : m ≤ pts.length) : RdL w0 lo w (.slice (some ⟨g, 0, none⟩) m c) (pts.take m) := by
  obtain ⟨vs, h1, h2, h3⟩ := h
  have ho := h2.owns
  have hf := owns_slice ho
  obtain ⟨_, _, e1, _⟩ := hf
  simp only [Value.slice.injEq] at e1
  obtain ⟨_, rfl, _⟩ := e1
  have h4 := ownsCut (m := m) ho (by omega)
  rw [Nat.mul_one] at h4
  refine ⟨vs.take m, by rw [List.length_take, List.length_take]; omega, OwnV.of_owns h4, fun i x p hx hp => ?_⟩
  rw [List.getElem?_take] at hx hp
  split at hx
  · rename_i hi
    rw [if_pos hi] at hp
    exact h3 i x p hx hp
  · cases hx
theorem RdL.empty {w0 w : World} {lo : Nat} (hb : lo ≤ w.heap.size) : RdL w0 lo (w.alloc (.cells #[] 27)) (.slice (some ⟨w.heap.size, 0, none⟩) 0 0) [] :=
  ⟨[], rfl, OwnV.of_owns ((owns_none (e := 27) (Nat.le_refl w.heap.size)) |> fun h => Go.Joins.ownsRow_le h hb), fun i x p hx => by simp at hx⟩
/-- append(out, row) at a plain list of operations. -/
theorem list_app_rl {ops : Array Oper} {rest : List Oper} {o : Oper} {a : Act} {w : World} {Q : Exit → Act → World → Prop} (hgd : o.guard = none) (s x : Operand)
    (ho : o.op = .call { callee := .builtin .append, args := #[s, x], argTypes := #[24, 24] })
    (w0 : World) (lo : Nat) (v u : Value) (pts : List (List Int)) (p : List Int) (hs : a.eval s = v) (hown : RdL w0 lo w v pts) (hu : Sl w0 u (intVals p))
    (H : Nat) (hx : a.eval x = .slice (some ⟨H, 0, none⟩) 1 1) (hnew : w.heap[H]? = some (.cells #[u] 27 (0, 0)))
    (hn : pts.length ≤ 1048576) (hm : lo ≤ w.heap.size)
    (h : ∀ g cap w', RdL w0 lo w' (.slice (some ⟨g, 0, none⟩) (pts.length + 1) cap) (pts ++ [p]) → Below lo w w' → wpList Tryz.prog ops Q rest (a.put o.dst (.slice (some ⟨g, 0, none⟩) (pts.length + 1) cap)) w') :
    wpList Tryz.prog ops Q (o :: rest) a w := by
  obtain ⟨i0, hi, hz0, hz1, hz2⟩ := info_parts info_row
  obtain ⟨vs, h1, h2, h3⟩ := hown
  have hone : ∀ q ∈ [u], q.oneCell' = true := fun q hq => by
    rw [List.mem_singleton.1 hq]
    obtain ⟨ad, cp, rfl, _⟩ := hu.shape
    rfl
  refine wpList_append_lies w hgd s x 24 ho lo 27 i0 _ 1 24 Tryz.underlying24 hi hz0 hz1 hz2 rfl (by omega) v vs.length vs hs h2.owns ⟨H, 0, none⟩ 1 1 [u] hx rfl (World.news_of_block (cs := #[u]) hnew) hone (by omega) (by unfold maxLen; omega) (by omega) hm w.heap.size rfl ?_
  intro g cap w' k1 k2 k3 k4
  rw [h1] at k1 ⊢
  refine h g cap w' ⟨vs ++ [u], by rw [List.length_append, List.length_append, h1]; rfl, OwnV.of_owns (n := pts.length + 1) k1, fun i y q hy hq => ?_⟩ ((Below.refl lo w).grown k2 hm (fun q hq => (h2.place hq).1))
  by_cases hi : i < vs.length
  · rw [List.getElem?_append_left hi] at hy
    rw [List.getElem?_append_left (by omega)] at hq
    exact h3 i y q hy hq
  · have hl := lt_of_get hy
    rw [List.length_append, List.length_singleton] at hl
    rw [List.getElem?_append_right (by omega), show i - vs.length = 0 by omega] at hy
    rw [List.getElem?_append_right (by omega), show i - pts.length = 0 by omega] at hq
    obtain rfl : u = y := by simpa using hy
    obtain rfl : p = q := by simpa using hq
    exact hu

def facL (m : List (List Int)) (x : List Int) : List Int := (List.range m.length).map fun r => detL (m.set r x)
theorem facL_len (m : List (List Int)) (x : List Int) : (facL m x).length = m.length := by simp [facL]
theorem facL_get (m : List (List Int)) (x : List Int) {k : Nat} (h : k < m.length) : (facL m x)[k]? = some (detL (m.set k x)) := by simp [facL, h]
theorem facL_step (m : List (List Int)) (x : List Int) {k : Nat} (h : k < m.length) : (facL m x).take k ++ [detL (m.set k x)] = (facL m x).take (k + 1) := by
  rw [List.take_add_one, facL_get m x h]; rfl
theorem set_take_eq {m : List (List Int)} {x : List Int} {k : Nat} (h : k < m.length) : (m.set k x).take k ++ [x] = (m.set k x).take (k + 1) := by
  rw [List.take_add_one, List.getElem?_set_self h]; rfl
theorem set_take_ne {m : List (List Int)} {x : List Int} {k j : Nat} (h : j < m.length) (hne : j ≠ k) : (m.set k x).take j ++ [m[j]] = (m.set k x).take (j + 1) := by
  rw [List.take_add_one, List.getElem?_set_ne (Ne.symm hne), List.getElem?_eq_getElem h]; rfl
theorem own_cast {e : TypeId} {lo hi : Nat} {w : World} {v : Value} {xs ys : List Int} (h : xs = ys) (k : OwnV e lo hi w v (intVals xs)) : OwnV e lo hi w v (intVals ys) := by subst h; exact k
theorem sq_set {n : Nat} {m : List (List Int)} {x : List Int} {k : Nat} (hs : Sq n 100 m) (hx : x.length = n) (hb : Bd x 500) : Sq n 500 (m.set k x) := by
  refine ⟨by rw [List.length_set]; exact hs.1, fun i hi => ?_⟩
  rw [List.length_set] at hi
  rw [List.getElem_set]
  split
  · exact ⟨hx, hb⟩
  · exact ⟨(hs.2 i hi).1, bd_up (hs.2 i hi).2 (by omega)⟩
set_option maxRecDepth 100000 in
set_option maxHeartbeats 3200000 in
theorem s_factors (m : List (List Int)) (x : List Int) (n : Nat) (h1 : 1 ≤ n) (h3 : n ≤ 3) (hs : Sq n 100 m) (hx : x.length = n) (hxb : Bd x 500) (v u : Value) (w : World) (hv : Rw w v m) (hu : Sl w u (intVals x)) :
    Calls Tryz.prog 80 #[v, u] w (Made w (facL m x)) := by
  have HV := Lib.hid hv
  have HU := Lib.hid hu
  obtain ⟨a, ac, rfl, am, _⟩ := hv.shape
  obtain ⟨b, bc, rfl, bm, _⟩ := hu.shape
  have hml : m.length = n := hs.1
  rw [intVals_len] at bm HU ⊢
  unfold maxLen at am bm
  have CD := Lib.hid (fun k A W hA => s_det n 500 (m.set k x) h1 h3 (by omega) (by omega) (sq_set hs hx hxb) A W hA)
  have hn3 : m.length ≤ 3 := by omega
  have FE := Lib.hid (facL_len m x)
  clear hv hu hs hxb hx
  subst hml
  go_enter Tryz.func80, Tryz.ntmps80
  go_wp2
  go_loopw [5, 6] (fun o i wr => ∃ k : Nat, k ≤ m.length ∧ i = .int .i64 k ∧ OwnV 3 w.heap.size wr.heap.size wr o (intVals ((facL m x).take k)) ∧ Below w.heap.size w wr) (fun _ i _ => m.length - (RowKit.intOf i).toNat)
  case atStart => exact ⟨0, Nat.zero_le _, rfl, by rw [List.take_zero]; exact own_none (Nat.le_refl _), below1 _ _⟩
  case round =>
    obtain ⟨k, hk, rfl, ho, hb⟩ := hrel
    rename World => w1
    have HO := Lib.hid ho
    have HB := Lib.hid hb
    obtain ⟨oa, oc, rfl, _, _⟩ := ho.sl.shape
    clear ho hb
    by_cases hlt : k < m.length
    · have i1 : (0 : Int) ≤ (k : Int) := by omega
      have i2 : (k : Int) < (m.length : Int) := by omega
      have FS := Lib.hid (facL_step m x hlt)
      have HLt := Lib.hid hlt
      obtain ⟨hol, ehol⟩ : ∃ q, (intVals ((facL m x).take k)).length = q := ⟨_, rfl⟩
      have hol3 : hol ≤ 3 := by rw [← ehol, intVals_len, List.length_take, FE.out]; omega
      rw [ehol] at HO ⊢
      have EH := Lib.hid ehol
      clear ehol
      go_wp2
      go_loopw [7, 8] (fun p i ws => ∃ j : Nat, j ≤ m.length ∧ i = .int .i64 j ∧ RdL w w1.heap.size ws p ((m.set k x).take j) ∧ Below w1.heap.size w1 ws) (fun _ i _ => m.length - (RowKit.intOf i).toNat)
      case atStart => exact ⟨0, Nat.zero_le _, rfl, by rw [List.take_zero]; exact RdL.empty (Nat.le_refl _), below1 _ _⟩
      case round =>
        obtain ⟨j, hj, rfl, hp, hb⟩ := hrel
        rename World => w2
        have HP := Lib.hid hp
        have HB2 := Lib.hid hb
        obtain ⟨pa, pc, rfl, _, _⟩ := hp.shape
        have hpl : ((m.set k x).take j).length = j := by rw [List.length_take, List.length_set]; omega
        rw [hpl] at HP ⊢
        clear hp hb
        by_cases hjl : j < m.length
        · have j1 : (0 : Int) ≤ (j : Int) := by omega
          have j2 : (j : Int) < (m.length : Int) := by omega
          have BA := Lib.hid (HB.out.trans (HB2.out.mono HB.out.size))
          have hn2 : ((m.set k x).take j).length ≤ 1048576 := by omega
          by_cases hjk : j = k
          · have e0 : ((j : Int) == (k : Int)) = true := by rw [hjk]; simp
            have HT := Lib.hid (show (m.set k x).take j ++ [x] = (m.set k x).take (j + 1) by rw [hjk]; exact set_take_eq HLt.out)
            have HPL := Lib.hid hpl
            clear hjk hpl
            generalize (m.set k x).take j = L at HP HT hn2 HPL
            go_wp2_with (at_builtin; refine list_app_rl rfl _ _ rfl w w1.heap.size _ (.slice b x.length bc) L x rfl (HP.out.below (below1 w2 _)) HU.out w2.heap.size rfl (heap_alloc_new w2 _) hn2 (by have := HB2.out.size; simp; omega) ?_; intro g7 c7 w7 h7 hb7; rw [HPL.out] at h7 ⊢; have HP7 := Lib.hid h7; have HB7 := Lib.hid (HB2.out.trans (((below1 w2 (.cells #[.slice b x.length bc] 27)).mono HB2.out.size).trans hb7)); clear h7 hb7)
            refine ⟨⟨j + 1, by omega, by go_num, ?_, HB7.out⟩, by simp [RowKit.intOf]; omega⟩
            rw [← HT.out]
            exact HP7.out
          · have e0 : ((j : Int) == (k : Int)) = false := by rw [beq_eq_false_iff_ne]; omega
            have HT := Lib.hid (set_take_ne (x := x) hjl hjk)
            obtain ⟨b1, o1, r, rfl, hl1, hc1, hs1⟩ := HV.out.row j hjl rfl
            rw [← BA.out.cell (p := ⟨b1, o1 + j, none⟩) hl1] at hc1
            have HS1 := Lib.hid hs1
            obtain ⟨ra, rc, rfl, _, _⟩ := hs1.shape
            rw [intVals_len] at hc1 HS1
            have HPL := Lib.hid hpl
            clear hjk hpl hs1
            generalize (m.set k x).take j = L at HP HT hn2 HPL
            generalize m[j] = y at HT hc1 HS1
            go_wp2_with (at_builtin; refine list_app_rl rfl _ _ rfl w w1.heap.size _ (.slice ra y.length rc) L y rfl (HP.out.below (below1 w2 _)) HS1.out w2.heap.size rfl (heap_alloc_new w2 _) hn2 (by have := HB2.out.size; simp; omega) ?_; intro g7 c7 w7 h7 hb7; rw [HPL.out] at h7 ⊢; have HP7 := Lib.hid h7; have HB7 := Lib.hid (HB2.out.trans (((below1 w2 (.cells #[.slice ra y.length rc] 27)).mono HB2.out.size).trans hb7)); clear h7 hb7)
            refine ⟨⟨j + 1, by omega, by go_num, ?_, HB7.out⟩, by simp [RowKit.intOf]; omega⟩
            rw [← HT.out]
            exact HP7.out
        · obtain rfl : j = m.length := by omega
          have HQ := Lib.hid (show Rw w2 (.slice pa m.length pc) (m.set k x) by
            have h := HP.out.rw (HB.out.trans (HB2.out.mono HB.out.size))
            rwa [List.take_of_length_le (by rw [List.length_set]; exact Nat.le_refl _)] at h)
          clear hpl
          go_wp2_with fail
          refine (CD.out k _ _ HQ.out).mono ?_
          rintro e w3 ⟨rfl, hb⟩
          have hw13 : Below w1.heap.size w1 w3 := HB2.out.trans (hb.mono HB2.out.size)
          have HO3 := Lib.hid (HO.out.below hw13)
          have HB3 := Lib.hid (HB.out.trans (hw13.mono HB.out.size))
          have hs3 : w.heap.size ≤ w3.heap.size := HB3.out.size
          have hh0 : hol ≤ 1099511627776 := by omega
          clear hb hw13
          go_wp2_with (at_builtin; refine list_app_int2 rfl _ _ rfl w.heap.size _ hol ((facL m x).take k) (detL (m.set k x)) rfl (show (w3.alloc _).ownsRow w.heap.size 3 1 (.slice oa hol oc) hol (intVals ((facL m x).take k)) by have h4 := HO3.out.owns; rw [EH.out] at h4; exact h4.alloc _) w3.heap.size rfl (heap_alloc_new w3 _) hh0 (by simp; omega) ?_; intro g7 c7 w7 h7 hg7 _; have HO7 := Lib.hid h7; have HB7 := Lib.hid ((HB3.out.alloc HB3.out.size (.cells #[.int .i64 (detL (m.set k x))] 3)).grown hg7 (by simp; omega) (fun b hb => ((HO3.out.place hb).1))); clear h7 hg7)
          refine ⟨⟨k + 1, by omega, by go_num, ?_, HB7.out⟩, by simp [RowKit.intOf]; omega⟩
          rw [← FS.out]
          exact OwnV.of_owns HO7.out
    · obtain rfl : k = m.length := by omega
      go_wp2
      go_ret
      refine ⟨⟨_, rfl, ?_⟩, HB.out⟩
      exact own_cast (List.take_of_length_le (by rw [FE.out]; exact Nat.le_refl _)) HO.out
/-- What the loop of l8Cell meets. -/
structure CellOk (m : List (List Int)) (x : List Int) (n : Nat) : Prop where
  h1 : 1 ≤ n
  h3 : n ≤ 3
  hs : Sq n 100 m
  hx : x.length = n
  hb : Bd x 500
  dn : detL m ≠ 0
  d5 : -500 ≤ detL m ∧ detL m ≤ 500
theorem fac_bd {n : Nat} {m : List (List Int)} (h1 : 1 ≤ n) (h3 : n ≤ 3) (hs : Sq n 500 m) : -3000000000000 ≤ detL m ∧ detL m ≤ 3000000000000 := by
  have p := fun {u v : Int} (hu : -500 ≤ u ∧ u ≤ 500) (hv : -500 ≤ v ∧ v ≤ 500) => mul_bd hu.1 hu.2 hv.1 hv.2
  rcases (by omega : n = 1 ∨ n = 2 ∨ n = 3) with rfl | rfl | rfl
  · obtain ⟨a, rfl, ha⟩ := sq1 hs
    simp only [detL]; omega
  · obtain ⟨a, b, c, d, rfl, ha, hb, hc, hd⟩ := sq2 hs
    have := p ha hd; have := p hb hc
    simp only [detL]; omega
  · obtain ⟨a, b, c, d, e, f, g, h, i, rfl, ha, hb, hc, hd, he, hf, hg, hh, hi⟩ := sq3 hs
    have q1 := p he hi; have q2 := p hf hh; have q3 := p hf hg; have q4 := p hd hi; have q5 := p hd hh; have q6 := p he hg
    have b1 := mul_bd ha.1 ha.2 (show -500000 ≤ e * i - f * h by omega) (show e * i - f * h ≤ 500000 by omega)
    have b2 := mul_bd hb.1 hb.2 (show -500000 ≤ f * g - d * i by omega) (show f * g - d * i ≤ 500000 by omega)
    have b3 := mul_bd hc.1 hc.2 (show -500000 ≤ d * h - e * g by omega) (show d * h - e * g ≤ 500000 by omega)
    simp only [detL]; omega
theorem qD_bd' {d D X : Int} (hd : d ≠ 0) (h1 : -X ≤ D) (h2 : D ≤ X) : -X ≤ qD d D ∧ qD d D ≤ X := by
  rw [← qD_eq hd]
  have hp : 0 < (d.natAbs : Int) := by omega
  split
  · exact floor_bd hp (by omega) (by omega)
  · exact floor_bd hp h1 h2
/-- The bounds of the loop of l8Cell. -/
theorem cell_bd {m : List (List Int)} {x : List Int} {n : Nat} (k : CellOk m x n) : ∀ r, r ≤ n → (cellS m x r).length = n ∧ Bd (cellS m x r) (500 + r * 300000000000000) := by
  intro r
  induction r with
  | zero => intro _; exact ⟨k.hx, by simpa [cellS] using k.hb⟩
  | succ r ih =>
    intro hr
    obtain ⟨i1, i2⟩ := ih (by omega)
    have hml := k.hs.1
    have er : m.getD r [] = m[r] := by rw [List.getD_eq_getElem?_getD, List.getElem?_eq_getElem (by omega)]; rfl
    have hmr := k.hs.2 r (by omega)
    have f := fac_bd k.h1 k.h3 (sq_set (k := r) k.hs k.hx k.hb)
    have q := qD_bd' k.dn f.1 f.2
    show (lessL (cellS m x r) (scaleL (m.getD r []) _)).length = n ∧ _
    rw [er]
    refine ⟨by rw [lessL_len (by simp [scaleL, hmr.1, i1]), i1], ?_⟩
    show Bd (lessL (cellS m x r) (scaleL (m.getD r []) _)) _
    rw [er]
    exact bd_up (less_bd i2 (scale_bd (by omega) (by omega) hmr.2 q.1 q.2)) (by omega)
end Go.Proofs.YtjijgagdaolkcaaGreat
/- The model's l8Cell. -/
namespace Go.Proofs.YtjijgagdaolkcaaGreat
open Go Go.RowKit Go.Lib

set_option maxRecDepth 100000 in
set_option maxHeartbeats 4000000 in
theorem s_cell (m : List (List Int)) (x : List Int) (n : Nat) (hk : CellOk m x n) (v u : Value) (w : World) (hv : Rw w v m) (hu : Sl w u (intVals x)) :
    Calls Tryz.prog 47 #[v, u] w (Made w (cellL m x)) := by
  have HV := Lib.hid hv
  have HU := Lib.hid hu
  obtain ⟨a, ac, rfl, am, _⟩ := hv.shape
  obtain ⟨b, bc, rfl, bm, hb⟩ := hu.shape
  rw [intVals_len] at bm hb HU ⊢
  unfold maxLen at am bm
  have hml : m.length = n := hk.hs.1
  subst hml
  have hx3 : x.length ≤ 3 := by rw [hk.hx]; exact hk.h3
  have hx1 : 0 < x.length := by rw [hk.hx]; exact hk.h1
  obtain ⟨b2, o2, rfl, _, hlt2, hxc⟩ := hb hx1
  have HX := Lib.hid hxc
  have CD := Lib.hid (fun A W hA => s_det m.length 100 m hk.h1 hk.h3 (by omega) (by omega) hk.hs A W hA)
  have CF := Lib.hid (fun A B W hA hB => s_factors m x m.length hk.h1 hk.h3 hk.hs hk.hx hk.hb A B W hA hB)
  have CB := Lib.hid (fun r hr => cell_bd hk r hr)
  have CS := Lib.hid (fun r (hr : r < m.length) => hk.hs.2 r hr)
  have CT := Lib.hid (fun r => fac_bd hk.h1 hk.h3 (sq_set (k := r) hk.hs hk.hx hk.hb))
  have n3 : m.length ≤ 3 := hk.h3
  have n1 : 1 ≤ m.length := hk.h1
  have hdn := hk.dn
  have hd5 := hk.d5
  clear hv hu hb hxc hk
  obtain ⟨d, hd⟩ : ∃ d, detL m = d := ⟨_, rfl⟩
  rw [hd] at CD hdn hd5
  have CST := Lib.hid (fun r (hr : r < m.length) => show cellS m x (r + 1) = lessL (cellS m x r) (scaleL m[r] (qD d (detL (m.set r x)))) by
    show lessL (cellS m x r) (scaleL (m.getD r []) _) = _
    rw [hd, show m.getD r [] = m[r] by rw [List.getD_eq_getElem?_getD, List.getElem?_eq_getElem hr]; rfl])
  have CQ := Lib.hid (fun D => qD_eq hdn D)
  have CQB := Lib.hid (fun D X h1 h2 => qD_bd' (D := D) (X := X) hdn h1 h2)
  clear hd
  unfold cellL
  have CA := Lib.hid (fun W => s_abs d (by omega) (by omega) W)
  go_enter Tryz.func47, Tryz.ntmps47
  go_wp2_with fail
  refine (CD.out _ _ HV.out).mono ?_
  rintro e wa ⟨rfl, hb⟩
  have BA := Lib.hid hb
  clear hb
  go_wp2_with fail
  refine (CF.out _ _ _ (HV.out.below BA.out) (HU.out.below BA.out)).mono ?_
  rintro e wb ⟨⟨fv, rfl, hf⟩, hb⟩
  have BB := Lib.hid (BA.out.trans (hb.mono BA.out.size))
  obtain ⟨fg, fc, rfl, fg1, fg2⟩ := hf.form (by rw [intVals_len, facL_len]; omega)
  rw [intVals_len, facL_len] at hf ⊢
  have HF := Lib.hid hf
  clear hb hf
  have hXb := BB.out
  have C3 := Lib.hid (show wb.heap.size ≤ (wb.alloc (.cells #[] 3)).heap.size by rw [World.size_alloc]; omega)
  have HXB := Lib.hid (show ∀ (j : Nat) u, (intVals x)[j]? = some u → wb.cell? ⟨b2, o2 + j, none⟩ = some u from fun j u hj => (hXb.cell (p := ⟨b2, o2 + j, none⟩) hlt2).trans (HX.out j u hj))
  have hlt3 : b2 < wb.heap.size := Nat.lt_of_lt_of_le hlt2 hXb.size
  clear hXb
  go_wp2_with (at_builtin; refine list_app_sl rfl _ _ rfl wb.heap.size _ 0 [] x rfl (owns_none (Nat.le_refl _)) ⟨b2, o2, none⟩ x.length bc rfl rfl (cells_below ((Below.refl _ _).alloc (Nat.le_refl _) _) hlt3 HXB.out) (by omega) C3.out ?_; intro v1 w1 hown1 hbel1
               have ho : OwnV 3 wb.heap.size w1.heap.size w1 v1 (intVals x) := OwnV.of_owns (by rw [List.nil_append] at hown1; exact hown1)
               have O0 := Lib.hid ho
               have B0 := Lib.hid (((Below.refl _ _).alloc (Nat.le_refl _) (.cells #[] 3)).trans hbel1)
               clear ho hown1 hbel1)
  go_loopw [7, 8] (fun o i wr => ∃ k : Nat, k ≤ m.length ∧ i = .int .i64 k ∧ OwnV 3 wb.heap.size wr.heap.size wr o (intVals (cellS m x k)) ∧ Below wb.heap.size wb wr) (fun _ i _ => m.length - (RowKit.intOf i).toNat)
  case atStart => exact ⟨0, Nat.zero_le _, rfl, O0.out, B0.out⟩
  case round =>
    obtain ⟨k, hk, rfl, ho, hb⟩ := hrel
    rename World => wr
    have HO := Lib.hid ho
    have HB := Lib.hid hb
    clear ho hb
    by_cases hlt : k < m.length
    · have i1 : (0 : Int) ≤ (k : Int) := by omega
      have i2 : (k : Int) < (m.length : Int) := by omega
      have HA := Lib.hid (BB.out.trans (HB.out.mono BB.out.size))
      obtain ⟨il, ib⟩ := CB.out k (by omega)
      have ib2 : Bd (cellS m x k) 1000000000000000 := bd_up ib (by omega)
      obtain ⟨ml, mb⟩ := CS.out k hlt
      obtain ⟨t1, t2⟩ := CT.out k
      have LS := Lib.hid (CST.out k hlt)
      obtain ⟨hb1, hbo, ru, rfl, hrl, hrc, hrs⟩ := HV.out.row k hlt rfl
      have hrl2 : hb1 < wr.heap.size := Nat.lt_of_lt_of_le hrl HA.out.size
      rw [← HA.out.cell (p := ⟨hb1, hbo + k, none⟩) hrl] at hrc
      have hrs2 := hrs.below HA.out
      obtain ⟨ra, rc, rfl, _, _⟩ := hrs2.shape
      rw [intVals_len, ml] at hrc hrs hrs2
      have RS := Lib.hid hrs2
      obtain ⟨og, oc, rfl, og1, og2⟩ := HO.out.form (by rw [intVals_len, il]; omega)
      rw [intVals_len, il] at HO ⊢
      obtain ⟨_, _, ef, _, fx⟩ := (HF.out.below HB.out).sl.get (v := facL m x) k (by rw [facL_len]; exact hlt)
      cases ef
      have hfk : wr.cell? ⟨fg, k, none⟩ = some (.int .i64 (detL (m.set k x))) := by
        rw [Nat.zero_add] at fx
        rw [fx, Option.some.inj ((List.getElem?_eq_getElem (by rw [facL_len]; exact hlt)).symm.trans (facL_get m x hlt))]
      obtain ⟨D, hD⟩ : ∃ D, detL (m.set k x) = D := ⟨_, rfl⟩
      rw [hD] at hfk LS t1 t2
      have QE := Lib.hid (CQ.out D)
      have qb := CQB.out D 3000000000000 t1 t2
      have SB := Lib.hid (scale_bd (u := m[k]) (by omega) (by omega) mb qb.1 qb.2)
      have IL := Lib.hid il
      have IB := Lib.hid ib2
      have ML := Lib.hid ml
      clear il ib ib2 ml mb hrs hrs2 fx hD
      generalize m[k] = r at *
      generalize cellS m x k = l at *
      obtain ⟨Q, hQ⟩ : ∃ Q, qD d D = Q := ⟨_, rfl⟩
      rw [hQ] at QE LS SB qb
      have CSc := Lib.hid (fun W A hA => s_scale2 r (by have := ML.out; omega) Q (bd_up SB.out (by omega)) A W hA)
      have CM := Lib.hid (fun W A B hA hB => s_less l (scaleL r Q) (by have := IL.out; have := ML.out; simp [scaleL]; omega) (by have := IL.out; omega) 1000000000000000 (by omega) IB.out (bd_up SB.out (by omega)) A B W hA hB)
      clear hQ
      by_cases hneg : d < 0
      case pos =>
        have QF := QE.out
        rw [if_pos hneg] at QF
        have CFl := Lib.hid (fun W => s_floor (-D) (d.natAbs : Int) (by omega) (by omega) (by omega) (by omega) W)
        rw [QF] at CFl
        clear QF
        have hwn : IntKind.i64.wrap (-D) = -D := IntWalk.i64_in _ (by omega)
        go_wp2_with fail
        refine wgen ?_
        intro W hW
        obtain rfl := hW
        refine T_begin (z := fun k => 10 < k) (S := fun w' => w'.cell? ⟨hb1, hbo + k, none⟩ = some (.slice ra m.length rc)) (by kernel_rfl) ?_
        show wpAnyT _ _ _ _ _ _ 12 _ _ _
        have HS0 := Lib.hid (show (fun w' : World => w'.cell? ⟨hb1, hbo + k, none⟩ = some (.slice ra m.length rc)) W.drew from hrc)
        refine T_take (i := 0) (v := .slice (some ⟨og, 0, none⟩) m.length oc) rfl (by kernel_rfl) (by kernel_rfl) (by kernel_rfl) (by kernel_rfl) (fun _ _ _ h => h) HS0.out rfl (fun w' hS' => by (try dsimp only at hS'); go_simp) ?_
        try simp only [Act.put, List.setIfInBounds_toArray]
        refine T_take (i := 1) (v := .slice (some ⟨hb1, hbo, none⟩) m.length ac) rfl (by kernel_rfl) (by kernel_rfl) (by kernel_rfl) (by kernel_rfl) (fun _ _ _ h => h) HS0.out rfl (fun w' hS' => by (try dsimp only at hS'); go_simp) ?_
        try simp only [Act.put]
        refine T_take (i := 2) (v := .int .i64 k) rfl (by kernel_rfl) (by kernel_rfl) (by kernel_rfl) (by kernel_rfl) (fun _ _ _ h => h) HS0.out rfl (fun w' hS' => by (try dsimp only at hS'); go_simp) ?_
        try simp only [Act.put]
        refine T_take (i := 3) (v := .pointer (some ⟨hb1, hbo + k, none⟩)) rfl (by kernel_rfl) (by kernel_rfl) (by kernel_rfl) (by kernel_rfl) (fun _ _ _ h => h) HS0.out rfl (fun w' hS' => by (try dsimp only at hS'); go_simp) ?_
        try simp only [Act.put]
        refine T_take (i := 4) (v := .slice ra m.length rc) rfl (by kernel_rfl) (by kernel_rfl) (by kernel_rfl) (by kernel_rfl) (fun _ _ _ h => h) HS0.out rfl (fun w' hS' => by (try dsimp only at hS'); go_simp) ?_
        try simp only [Act.put]
        refine T_take (i := 5) (v := .int .i64 (-D)) rfl (by kernel_rfl) (by kernel_rfl) (by kernel_rfl) (by kernel_rfl) (fun _ _ _ h => h) HS0.out rfl (fun w' hS' => by (try dsimp only at hS'); go_simp) ?_
        try simp only [Act.put]
        refine T_take (i := 6) (v := .int .i64 d) rfl (by kernel_rfl) (by kernel_rfl) (by kernel_rfl) (by kernel_rfl) (fun _ _ _ h => h) HS0.out rfl (fun w' hS' => by (try dsimp only at hS'); go_simp) ?_
        try simp only [Act.put]
        refine T_step (i := 7) rfl (by kernel_rfl) rfl rfl ?_
        intro K hK
        go_simp
        refine (CA.out _).mono ?_
        rintro e w' ⟨rfl, rfl⟩
        refine hK.out _ _ HS0.out ?_
        clear hK K
        try simp only [Act.put, List.setIfInBounds_toArray, List.set_cons_zero, List.set_cons_succ]
        refine T_step (i := 8) rfl (by kernel_rfl) rfl rfl ?_
        intro K hK
        go_simp
        refine (CFl.out _).mono ?_
        rintro e w' ⟨rfl, rfl⟩
        refine hK.out _ _ HS0.out ?_
        clear hK K
        try simp only [Act.put, List.setIfInBounds_toArray, List.set_cons_zero, List.set_cons_succ]
        have hrl3 : hb1 < W.drew.heap.size := hrl2
        refine T_step (i := 9) rfl (by kernel_rfl) rfl rfl ?_
        intro K hK
        go_simp
        refine (CSc.out W.drew _ (RS.out.below (Below.refl _ W).drew)).mono ?_
        rintro e V1 ⟨⟨vs, rfl, hs⟩, hb⟩
        have SO := Lib.hid hs
        have SB1 := Lib.hid (show Below W.heap.size W V1 from (Below.refl _ W).drew.trans hb)
        refine hK.out _ _ ((hb.cell (p := ⟨hb1, hbo + k, none⟩) hrl3).trans hrc) ?_
        have hb0 := hb
        clear hK K hs hb
        try simp only [Act.put, List.setIfInBounds_toArray, List.set_cons_zero, List.set_cons_succ]
        refine T_step (i := 10) rfl (by kernel_rfl) rfl rfl ?_
        intro K hK
        go_simp
        refine (CM.out _ _ _ (HO.out.sl.below SB1.out) SO.out.sl).mono ?_
        rintro e V2 ⟨⟨vm, rfl, hm⟩, hb⟩
        have MO := Lib.hid hm
        have SB2 := Lib.hid (SB1.out.trans (hb.mono SB1.out.size))
        have hb2 := hb0.trans (hb.mono hb0.size)
        refine hK.out _ _ ((hb2.cell (p := ⟨hb1, hbo + k, none⟩) hrl3).trans hrc) ?_
        clear hK K hm hb hb0 hb2
        try simp only [Act.put, List.setIfInBounds_toArray, List.set_cons_zero, List.set_cons_succ]
        refine T_last (i := 11) rfl (by kernel_rfl) (by kernel_rfl) rfl rfl ?_
        go_simp
        go_wp2
        refine ⟨⟨k + 1, by omega, by go_num, ?_, HB.out.trans (SB2.out.mono HB.out.size)⟩, by simp [RowKit.intOf]; omega⟩
        rw [LS.out]
        exact MO.out.mono (Nat.le_trans HB.out.size SB1.out.size) (Nat.le_refl _)
      case neg =>
        have QF := QE.out
        rw [if_neg hneg] at QF
        have CFl := Lib.hid (fun W => s_floor D (d.natAbs : Int) (by omega) (by omega) (by omega) (by omega) W)
        rw [QF] at CFl
        clear QF
        have hge : 0 ≤ d := by omega
        go_wp2_with fail
        refine wgen ?_
        intro W hW
        obtain rfl := hW
        refine T_begin (z := fun k => 10 < k) (S := fun w' => w'.cell? ⟨hb1, hbo + k, none⟩ = some (.slice ra m.length rc)) (by kernel_rfl) ?_
        show wpAnyT _ _ _ _ _ _ 12 _ _ _
        have HS0 := Lib.hid (show (fun w' : World => w'.cell? ⟨hb1, hbo + k, none⟩ = some (.slice ra m.length rc)) W.drew from hrc)
        refine T_take (i := 0) (v := .slice (some ⟨og, 0, none⟩) m.length oc) rfl (by kernel_rfl) (by kernel_rfl) (by kernel_rfl) (by kernel_rfl) (fun _ _ _ h => h) HS0.out rfl (fun w' hS' => by (try dsimp only at hS'); go_simp) ?_
        try simp only [Act.put, List.setIfInBounds_toArray]
        refine T_take (i := 1) (v := .slice (some ⟨hb1, hbo, none⟩) m.length ac) rfl (by kernel_rfl) (by kernel_rfl) (by kernel_rfl) (by kernel_rfl) (fun _ _ _ h => h) HS0.out rfl (fun w' hS' => by (try dsimp only at hS'); go_simp) ?_
        try simp only [Act.put]
        refine T_take (i := 2) (v := .int .i64 k) rfl (by kernel_rfl) (by kernel_rfl) (by kernel_rfl) (by kernel_rfl) (fun _ _ _ h => h) HS0.out rfl (fun w' hS' => by (try dsimp only at hS'); go_simp) ?_
        try simp only [Act.put]
        refine T_take (i := 3) (v := .pointer (some ⟨hb1, hbo + k, none⟩)) rfl (by kernel_rfl) (by kernel_rfl) (by kernel_rfl) (by kernel_rfl) (fun _ _ _ h => h) HS0.out rfl (fun w' hS' => by (try dsimp only at hS'); go_simp) ?_
        try simp only [Act.put]
        refine T_take (i := 4) (v := .slice ra m.length rc) rfl (by kernel_rfl) (by kernel_rfl) (by kernel_rfl) (by kernel_rfl) (fun _ _ _ h => h) HS0.out rfl (fun w' hS' => by (try dsimp only at hS'); go_simp) ?_
        try simp only [Act.put]
        refine T_take (i := 5) (v := .int .i64 D) rfl (by kernel_rfl) (by kernel_rfl) (by kernel_rfl) (by kernel_rfl) (fun _ _ _ h => h) HS0.out rfl (fun w' hS' => by (try dsimp only at hS'); go_simp) ?_
        try simp only [Act.put]
        refine T_take (i := 6) (v := .int .i64 d) rfl (by kernel_rfl) (by kernel_rfl) (by kernel_rfl) (by kernel_rfl) (fun _ _ _ h => h) HS0.out rfl (fun w' hS' => by (try dsimp only at hS'); go_simp) ?_
        try simp only [Act.put]
        refine T_step (i := 7) rfl (by kernel_rfl) rfl rfl ?_
        intro K hK
        go_simp
        refine (CA.out _).mono ?_
        rintro e w' ⟨rfl, rfl⟩
        refine hK.out _ _ HS0.out ?_
        clear hK K
        try simp only [Act.put, List.setIfInBounds_toArray, List.set_cons_zero, List.set_cons_succ]
        refine T_step (i := 8) rfl (by kernel_rfl) rfl rfl ?_
        intro K hK
        go_simp
        refine (CFl.out _).mono ?_
        rintro e w' ⟨rfl, rfl⟩
        refine hK.out _ _ HS0.out ?_
        clear hK K
        try simp only [Act.put, List.setIfInBounds_toArray, List.set_cons_zero, List.set_cons_succ]
        have hrl3 : hb1 < W.drew.heap.size := hrl2
        refine T_step (i := 9) rfl (by kernel_rfl) rfl rfl ?_
        intro K hK
        go_simp
        refine (CSc.out W.drew _ (RS.out.below (Below.refl _ W).drew)).mono ?_
        rintro e V1 ⟨⟨vs, rfl, hs⟩, hb⟩
        have SO := Lib.hid hs
        have SB1 := Lib.hid (show Below W.heap.size W V1 from (Below.refl _ W).drew.trans hb)
        refine hK.out _ _ ((hb.cell (p := ⟨hb1, hbo + k, none⟩) hrl3).trans hrc) ?_
        have hb0 := hb
        clear hK K hs hb
        try simp only [Act.put, List.setIfInBounds_toArray, List.set_cons_zero, List.set_cons_succ]
        refine T_step (i := 10) rfl (by kernel_rfl) rfl rfl ?_
        intro K hK
        go_simp
        refine (CM.out _ _ _ (HO.out.sl.below SB1.out) SO.out.sl).mono ?_
        rintro e V2 ⟨⟨vm, rfl, hm⟩, hb⟩
        have MO := Lib.hid hm
        have SB2 := Lib.hid (SB1.out.trans (hb.mono SB1.out.size))
        have hb2 := hb0.trans (hb.mono hb0.size)
        refine hK.out _ _ ((hb2.cell (p := ⟨hb1, hbo + k, none⟩) hrl3).trans hrc) ?_
        clear hK K hm hb hb0 hb2
        try simp only [Act.put, List.setIfInBounds_toArray, List.set_cons_zero, List.set_cons_succ]
        refine T_last (i := 11) rfl (by kernel_rfl) (by kernel_rfl) rfl rfl ?_
        go_simp
        go_wp2
        refine ⟨⟨k + 1, by omega, by go_num, ?_, HB.out.trans (SB2.out.mono HB.out.size)⟩, by simp [RowKit.intOf]; omega⟩
        rw [LS.out]
        exact MO.out.mono (Nat.le_trans HB.out.size SB1.out.size) (Nat.le_refl _)
    · obtain rfl : k = m.length := by omega
      go_wp2
      go_ret
      exact ⟨⟨_, rfl, HO.out.mono BB.out.size (Nat.le_refl _)⟩, BB.out.trans (HB.out.mono BB.out.size)⟩
end Go.Proofs.YtjijgagdaolkcaaGreat
/- The model's CellPoints. -/
namespace Go.Proofs.YtjijgagdaolkcaaGreat
open Go Go.RowKit Go.Lib

theorem cellOk_mk {m : List (List Int)} (h1 : 1 ≤ indexR m) (h5 : indexR m ≤ 500) {x : List Int} (hx : x ∈ boxL (hermL m)) : CellOk m x m.length := by
  have hd := det_of_index h1
  obtain ⟨hM, hd2⟩ := isM_of_det hd
  obtain ⟨n1, n3, _⟩ := isM_t hM
  obtain ⟨h, _, _, hp, _, ok, hix, _, _⟩ := herm_pad6 hd
  have p0 := ok.p0; have p1 := ok.p1; have p2 := ok.p2
  have a1 : 1 * 1 ≤ h.d0 * h.d1 := Int.mul_le_mul (by omega) (by omega) (by omega) (by omega)
  have a2 : h.d0 * 1 ≤ h.d0 * h.d1 := Int.mul_le_mul_of_nonneg_left (by omega) (by omega)
  have a3 : 1 * h.d1 ≤ h.d0 * h.d1 := Int.mul_le_mul_of_nonneg_right (by omega) (by omega)
  have a4 : h.d0 * h.d1 * 1 ≤ h.d0 * h.d1 * h.d2 := Int.mul_le_mul_of_nonneg_left (by omega) (by omega)
  have a5 : 1 * h.d2 ≤ h.d0 * h.d1 * h.d2 := Int.mul_le_mul_of_nonneg_right (by omega) (by omega)
  rw [← box_cut hd hp] at hx
  obtain ⟨t, ht, rfl⟩ := List.mem_map.1 hx
  have i := mem_boxT.1 ht
  obtain ⟨x0, y0, z0⟩ := t
  obtain ⟨i0, i1, i2, i3, i4, i5⟩ := i
  simp only at i0 i1 i2 i3 i4 i5
  have hb3 : Bd (rowT (x0, y0, z0)) 500 := fun k hk => by
    simp only [rowT, List.length_cons, List.length_nil] at hk
    match k, hk with
    | 0, _ => exact ⟨by simp [rowT]; omega, by simp [rowT]; omega⟩
    | 1, _ => exact ⟨by simp [rowT]; omega, by simp [rowT]; omega⟩
    | 2, _ => exact ⟨by simp [rowT]; omega, by simp [rowT]; omega⟩
  have hdm : ((detL m).natAbs : Int) ≤ 500 := by
    have e1 : detR m = detL m := if_pos hM
    unfold indexR at h5
    rw [e1] at h5
    exact h5
  refine ⟨n1, n3, isM_sq hM, by rw [List.length_take]; simp [rowT]; omega, fun k hk => ?_, hd2, by omega⟩
  have hk2 : k < (rowT (x0, y0, z0)).length := by rw [List.length_take] at hk; omega
  rw [List.getElem_take]
  exact hb3 k hk2
/-- The points put so far. -/
def putS (m : List (List Int)) (l : List (List Int)) (k : Nat) : List (List Int) := ((l.take k).map (cellL m)).foldl putL []
theorem putS_step (m : List (List Int)) {l : List (List Int)} {k : Nat} (h : k < l.length) : putS m l (k + 1) = putL (putS m l k) (cellL m l[k]) := by
  unfold putS
  rw [List.take_succ_eq_append_getElem h, List.map_append, List.foldl_append]
  rfl
theorem cellL_len {m : List (List Int)} {x : List Int} (k : CellOk m x m.length) : (cellL m x).length = m.length := (cell_bd k m.length (Nat.le_refl _)).1
theorem putS_two {m l : List (List Int)} (h : ∀ x ∈ l, CellOk m x m.length) (k : Nat) : (∀ q ∈ putS m l k, q.length = m.length) ∧ (putS m l k).length ≤ k := by
  have hc : ∀ q ∈ (l.take k).map (cellL m), q.length = m.length := fun q hq => by
    obtain ⟨x, hx, rfl⟩ := List.mem_map.1 hq
    exact cellL_len (h x (List.mem_of_mem_take hx))
  obtain ⟨_, f2⟩ := foldL_put ((l.take k).map (cellL m)) [] hc (by simp) (by simp [LessL])
  refine ⟨fun q hq => hc q (by simpa using (f2 q).1 hq), ?_⟩
  have := foldL_len ((l.take k).map (cellL m)) []
  rw [List.length_map, List.length_take, List.length_nil] at this
  unfold putS
  omega
theorem cellsR_tot (m : List (List Int)) : tot (cellsR m) ≤ 1500 := by
  unfold cellsR
  split
  · rename_i h
    have hd := det_of_index h.1
    have hl := boxL_len hd h.2
    have h2 := putS_two (m := m) (l := boxL (hermL m)) (fun x hx => cellOk_mk h.1 h.2 hx) (boxL (hermL m)).length
    have e : ((boxL (hermL m)).map (cellL m)).foldl putL [] = putS m (boxL (hermL m)) (boxL (hermL m)).length := by unfold putS; rw [List.take_length]
    rw [e]
    unfold tot
    rw [sum_const List.length m.length _ h2.1]
    have n3 := (isM_t (isM_of_det hd).1).2.1
    have := Nat.mul_le_mul (Nat.le_trans h2.2 hl) n3
    omega
  · simp [tot]
set_option maxRecDepth 100000 in
set_option maxHeartbeats 4000000 in
theorem s_cells8 (m : List (List Int)) (v : Value) (w : World) (hv : Rw w v m) :
    Calls Tryz.prog 13 #[v] w (MadeR w (cellsR m)) := by
  have HM := Lib.hid hv
  obtain ⟨a, ac, rfl, am, _⟩ := hv.shape
  unfold maxLen at am
  clear hv
  have CI := Lib.hid (fun A W hA => s_index8 m A W hA)
  by_cases hin : 1 ≤ indexR m ∧ indexR m ≤ 500
  · obtain ⟨h1, h5⟩ := hin
    have hd := det_of_index h1
    obtain ⟨hM, hd2⟩ := isM_of_det hd
    have CF := Lib.hid (fun A W hA => s_herm m (isM_t hM).1 (isM_t hM).2.1 (isM_sq hM) hd2 A W hA)
    have hk := box_ok' hd h5
    have hbl := boxL_len hd h5
    have COK := Lib.hid (fun x hx => cellOk_mk (m := m) h1 h5 (x := x) hx)
    have CIN := Lib.hid (inR_mk h1 h5)
    have HR := Lib.hid (show cellsR m = putS m (boxL (hermL m)) (boxL (hermL m)).length by unfold cellsR putS; rw [if_pos ⟨h1, h5⟩, List.take_length])
    have hlen : (hermL m).length = m.length := by
      obtain ⟨_, _, _, _, _, _, _, hlen, _⟩ := herm_pad6 hd
      exact hlen
    have h3 : (hermL m).length ≤ 3 := by have := (isM_t hM).2.1; omega
    clear hd hM hd2 hlen
    unfold boxL at HR COK hbl
    generalize hermL m = h at CF HR hk h3 COK hbl
    have HK := Lib.hid hk
    have HBL := Lib.hid hbl
    clear hk hbl
    generalize indexR m = ix at CI CIN
    clear h1 h5
    have BZ := Lib.hid (below1 w (.cells #[] 27))
    have KO := Lib.hid (owr_none0 (T := 27) (e := 3) (owns_none (w := w) (e := 27) (Nat.le_refl w.heap.size)))
    go_enter Tryz.func13, Tryz.ntmps13
    go_wp2_with fail
    refine (CI.out _ _ (HM.out.below BZ.out)).mono ?_
    rintro e wa ⟨rfl, hb⟩
    have BA := Lib.hid (BZ.out.trans (hb.mono BZ.out.size))
    have KO1 := Lib.hid (KO.out.below hb)
    have hwa : w.heap.size < wa.heap.size := by have h1 := hb.size; have h3 := alloc_lt w (.cells #[] 27); omega
    clear hb
    go_wp2_with fail
    refine (s_in _ _ _ _).mono ?_
    rintro e w' ⟨rfl, rfl⟩
    rw [CIN.out]
    go_wp2_with fail
    refine (CF.out _ _ (HM.out.below BA.out)).mono ?_
    rintro e wb ⟨⟨r0, rfl, ho⟩, hb⟩
    have BB := Lib.hid (BA.out.trans (hb.mono BA.out.size))
    have KO2 := Lib.hid (KO1.out.below hb)
    have hwb : w.heap.size < wb.heap.size := Nat.lt_of_lt_of_le hwa hb.size
    have HV := Lib.hid ho.rw
    obtain ⟨ha, hac, rfl, _, _⟩ := ho.rw.shape
    clear hb ho
    go_wp2
    go_loopw [5, 6] (fun o k wr => ∃ kk : Nat, kk ≤ h.length ∧ k = .int .i64 kk ∧ OwR 27 3 wb.heap.size wr.heap.size wr o (boxS h kk) ∧ Below wb.heap.size wb wr) (fun _ k _ => h.length - (RowKit.intOf k).toNat)
    case atStart => exact ⟨0, Nat.zero_le _, rfl, owr_one (Nat.le_refl _), below2 _ _ _⟩
    case round =>
      obtain ⟨k, hk, rfl, how, hbr⟩ := hrel
      rename World => w1
      have HW := Lib.hid how
      have HB := Lib.hid hbr
      obtain ⟨oa, oc, rfl, _, _⟩ := how.rw.shape
      clear how hbr
      by_cases hlt : k < h.length
      · obtain ⟨r, er, rl, rp, rp5, hout, hls⟩ := HK.out k hlt
        have HST := Lib.hid (boxS_step er)
        have HL3 := Lib.hid hls
        obtain ⟨hb1, hbo, ru, rfl, hrl, hrc, hrs⟩ := HV.out.row k hlt rfl
        have eh : h[k] = r := by rw [List.getElem?_eq_getElem hlt] at er; exact Option.some.inj er
        rw [eh] at hrs
        obtain ⟨ra, rc, rfl, rm, rsh⟩ := hrs.shape
        rw [intVals_len, rl] at rsh hrc hrs
        obtain ⟨rb, ro, rfl, rcl, rlt, rx⟩ := rsh (by omega)
        have ek : r[k]? = some (colA k r) := by rw [colA_get (by omega)]; exact List.getElem?_eq_getElem (by omega)
        have hrk := rx k (.int .i64 (colA k r)) (by simp [intVals, ek])
        obtain ⟨L, hL⟩ : ∃ L : Nat, colA k r = (L : Int) := ⟨(colA k r).toNat, by omega⟩
        rw [hL] at hrk rp rp5 HST
        rw [show ((L : Nat) : Int).toNat = L from by omega] at HST
        have hL5 : L ≤ 500 := by omega
        have hRl := rngI_len 0 L
        clear er rl rm rsh rcl rx ek hL eh hrs hls rp rp5
        have HRC := Lib.hid hrc
        have HRK := Lib.hid hrk
        clear hrc hrk
        have IL := Lib.hid (boxS_lens h k)
        obtain ⟨out, hO⟩ : ∃ out, boxS h k = out := ⟨_, rfl⟩
        rw [hO] at HW hout HST HL3 ⊢
        clear hO IL
        have i1h : (0 : Int) ≤ (k : Int) := by omega
        have i2h : (k : Int) < (h.length : Int) := by omega
        go_wp2
        go_loopw [7, 8] (fun nx i ws => ∃ ii : Nat, ii ≤ out.length ∧ i = .int .i64 ii ∧ OwR 27 3 w1.heap.size ws.heap.size ws nx (nextL (rngI 0 L) out ii 0) ∧ Below w1.heap.size w1 ws) (fun _ i _ => out.length - (RowKit.intOf i).toNat)
        case atStart => exact ⟨0, Nat.zero_le _, rfl, by rw [nextL_zero]; exact owr_empty (Nat.le_refl _), below1 _ _⟩
        case round =>
          obtain ⟨i, hi, rfl, how, hbr⟩ := hrel
          have HX := Lib.hid how
          have HS := Lib.hid hbr
          clear how hbr
          by_cases hli : i < out.length
          case neg =>
            obtain rfl : i = out.length := by omega
            have HN := Lib.hid ((nextL_all (rngI 0 L) out).trans (stepB_rng out L))
            go_wp2
            refine ⟨⟨k + 1, by omega, by go_num, ?_, HB.out.trans (HS.out.mono HB.out.size)⟩, by simp [RowKit.intOf]; omega⟩
            rw [HST.out, ← HN.out]
            exact HX.out.mono HB.out.size (Nat.le_refl _)
          rename World => w2
          go_wp2
          go_loopw [7, 9] (fun nx x ws => ∃ jj : Nat, jj ≤ L ∧ x = .int .i64 jj ∧ OwR 27 3 w1.heap.size ws.heap.size ws nx (nextL (rngI 0 L) out i jj) ∧ Below w1.heap.size w1 ws) (fun _ x _ => L - (RowKit.intOf x).toNat)
          case atStart => exact ⟨0, Nat.zero_le _, rfl, HX.out, HS.out⟩
          case round =>
            obtain ⟨j, hj, rfl, how, hbr⟩ := hrel
            have HX2 := Lib.hid how
            have HS2 := Lib.hid hbr
            clear how hbr
            rename World => w3
            have HA := Lib.hid (HB.out.trans (HS2.out.mono HB.out.size))
            have hcr := (HA.out.cell (p := ⟨hb1, hbo + k, none⟩) hrl).trans HRC.out
            have hck := (HA.out.cell (p := ⟨rb, ro + k, none⟩) rlt).trans HRK.out
            by_cases hlj : j < L
            case neg =>
              obtain rfl : j = L := by omega
              have HN := Lib.hid (nextL_row (R := rngI 0 j) hli)
              rw [hRl] at HN
              go_wp2
              exact ⟨⟨i + 1, by omega, by go_num, by rw [← HN.out]; exact HX2.out, HS2.out⟩, by simp [RowKit.intOf]; omega⟩
            obtain ⟨b1, r, rfl, _, _, hlt1, hcell, _, hor, _, _⟩ := (HW.out.below HS2.out).at i hli rfl
            have hcell4 : (w3.alloc (.cells #[] 3)).cell? ⟨b1, i, none⟩ = some r := ((below1 w3 (.cells #[] 3)).cell (p := ⟨b1, i, none⟩) hlt1).trans hcell
            have HR := Lib.hid (hor.below (below1 w3 (.cells #[] 3)))
            have hl3 : out[i].length ≤ 3 := HL3.out _ (List.getElem_mem hli)
            have HNx := Lib.hid (nextL_step (R := rngI 0 L) hli (by rw [hRl]; exact hlj))
            have hnl := nextL_le (R := rngI 0 L) hi (show j ≤ (rngI 0 L).length by omega) (by omega) (show out.length ≤ 1000000 by omega)
            have hnb : 0 + out[i].length ≤ 1099511627776 := by omega
            clear hcell hor
            have i1 : (0 : Int) ≤ (i : Int) := by omega
            have i3 : (j : Int) < (L : Int) := by omega
            go_wp2_with (first | (at_builtin; refine list_app_ints rfl _ _ rfl w3.heap.size (.slice (some ⟨w3.heap.size, 0, none⟩) 0 0) 0 [] out[i] r wb.heap.size w1.heap.size rfl (owns_none (Nat.le_refl _)) rfl HR.out hnb (by simp) ?_; intro v5 w5 hown5 hbel5; have HO5 := Lib.hid hown5; have HB5 := Lib.hid ((below1 w3 (.cells #[] 3)).trans hbel5); have hs5 := HB5.out.size; clear hown5 hbel5) | (at_builtin; refine list_app_int2 rfl _ _ rfl w3.heap.size v5 (0 + out[i].length) ([] ++ out[i]) j rfl (HO5.out.alloc _) w5.heap.size rfl (heap_alloc_new w5 _) hnb (by rw [World.size_alloc]; omega) ?_; intro g6 c6 w6 hown6 hgr6 hpl6; simp only [Nat.zero_add, List.nil_append] at hown6; have HO6 := Lib.hid hown6; have HB6 := Lib.hid (HB5.out.trans (((Below.refl w3.heap.size w5).alloc hs5 (.cells #[.int .i64 j] 3)).grown hgr6 (by rw [World.size_alloc]; omega) (fun b e => (HO5.out.lt b e).1))); clear hown6 hgr6 hpl6) | (at_builtin; refine list_app_row2 rfl _ _ rfl w1.heap.size w3.heap.size u7 (.slice (some ⟨g6, 0, none⟩) (out[i].length + 1) c6) (nextL (rngI 0 L) out i j) (out[i] ++ [(j : Int)]) rfl ((HX2.out.below HB6.out).below (below1 w6 _)) (((OwnV.of_owns HO6.out).below (below1 w6 _)).mono (Nat.le_refl _) (by simp)) w6.heap.size rfl (heap_alloc_new w6 _) hnl HS2.out.size (by have := HB6.out.size; rw [World.size_alloc]; omega) ?_; intro g7 c7 w7 hown7 hbel7 _ _; have HO7 := Lib.hid hown7; have HB7 := Lib.hid (HS2.out.trans (((HB6.out.mono HS2.out.size).trans ((below1 w6 _).mono (Nat.le_trans HS2.out.size HB6.out.size))).trans hbel7)); clear hown7 hbel7))
            refine ⟨⟨j + 1, by omega, by go_num, ?_, HB7.out⟩, by simp [RowKit.intOf]; omega⟩
            have h7 := HO7.out
            rw [show out[i] ++ [(j : Int)] = out[i] ++ [(rngI 0 L)[j]'(by rw [hRl]; exact hlj)] by rw [rngI_get]; simp, HNx.out] at h7
            exact h7
      · obtain rfl : k = h.length := by omega
        have hsz1 : wb.heap.size ≤ w1.heap.size := HB.out.size
        have BW := Lib.hid (BB.out.trans (HB.out.mono BB.out.size))
        have KO3 := Lib.hid (show OwR 27 3 w.heap.size w1.heap.size w1 (.slice (some ⟨w.heap.size, 0, none⟩) 0 0) [] from (KO2.out.below HB.out).mono (Nat.le_refl _) (by simp; omega))
        obtain ⟨Lb, hLb⟩ : ∃ Lb, boxS h h.length = Lb := ⟨_, rfl⟩
        rw [hLb] at HW HR COK HBL ⊢
        obtain ⟨nl, hnl⟩ : ∃ nl, Lb.length = nl := ⟨_, rfl⟩
        rw [hnl] at HW HR HBL ⊢
        have HNL := Lib.hid hnl
        have hnl5 : nl ≤ 500 := HBL.out
        clear hLb hnl
        go_wp2
        go_loopw [3, 10] (fun o i wr => ∃ k : Nat, k ≤ nl ∧ i = .int .i64 k ∧ OwR 27 3 w.heap.size wr.heap.size wr o (putS m Lb k) ∧ (∀ b, o.ownBlock = some b → b < wb.heap.size ∨ w1.heap.size ≤ b) ∧ Mid wb.heap.size w1.heap.size w1 wr ∧ w1.heap.size ≤ wr.heap.size ∧ Below w.heap.size w wr) (fun _ i _ => nl - (RowKit.intOf i).toNat)
        case atStart =>
          refine ⟨0, Nat.zero_le _, rfl, ?_, fun b hb => .inl ?_, Mid.refl _ _ _, Nat.le_refl _, BW.out⟩
          · exact KO3.out
          · have e : w.heap.size = b := by simpa [Value.ownBlock] using hb
            omega
        case round =>
          obtain ⟨k, hk, rfl, ho, hob, hmid, hsz, hb⟩ := hrel
          rename World => wr
          have HK2 := Lib.hid ho
          have HOB := Lib.hid hob
          have HMID := Lib.hid hmid
          have HB2 := Lib.hid hb
          obtain ⟨ua, uc, rfl, _, _⟩ := ho.rw.shape
          clear ho hob hmid hb
          obtain ⟨S, hS⟩ : ∃ S, putS m Lb k = S := ⟨_, rfl⟩
          have HS := Lib.hid hS
          have HT := Lib.hid (putS_two (m := m) (l := Lb) (fun x hx => COK.out x hx) k)
          rw [hS] at HK2 HT HOB ⊢
          clear hS
          by_cases hlt : k < nl
          · have i1 : (0 : Int) ≤ (k : Int) := by omega
            have i2 : (k : Int) < (nl : Int) := by omega
            have hkl : k < Lb.length := by rw [HNL.out]; exact hlt
            obtain ⟨y, hy⟩ : ∃ y, Lb[k] = y := ⟨_, rfl⟩
            have hok : CellOk m y m.length := by rw [← hy]; exact COK.out _ (List.getElem_mem hkl)
            have CC := Lib.hid (fun A B W hA hB => s_cell m y m.length hok A B W hA hB)
            have HP := Lib.hid (putS_step m hkl)
            rw [hy] at HP
            have HCL := Lib.hid (cellL_len hok)
            have hm3 := hok.h3
            rw [HS.out] at HP
            obtain ⟨b1, r, e1, _, _, hl1, hcell, _, hor, _, _⟩ := (HW.out.mid HMID.out).at k hkl rfl
            cases e1
            rw [hy] at hor
            have HRW := Lib.hid hor.sl
            obtain ⟨ra, rc, rfl, _, _⟩ := hor.sl.shape
            have HMW := Lib.hid (HM.out.below HB2.out)
            clear hor hkl hok hy
            generalize cellL m y = p at CC HP HCL
            go_wp2_with fail
            refine (CC.out _ _ _ HMW.out HRW.out).mono ?_
            rintro e w3 ⟨⟨pv, rfl, hp⟩, hb⟩
            have HPS := Lib.hid hp.sl
            have HK3 := Lib.hid (HK2.out.below hb)
            have HM3 := Lib.hid (HMID.out.trans (Mid.of_below hb hsz))
            have HB3 := Lib.hid (HB2.out.trans (hb.mono HB2.out.size))
            have hs3 : wr.heap.size ≤ w3.heap.size := hb.size
            have hwr : w.heap.size ≤ wr.heap.size := HB2.out.size
            obtain ⟨qa, qc, rfl, _, _⟩ := hp.sl.shape
            clear hp hb hcell
            go_wp2_with fail
            refine (s_putl S p _ _ w.heap.size wr.heap.size w3 HK3.out HPS.out (fun q hq => by rw [HT.out.1 q hq, HCL.out]) (by have := HCL.out; omega) hwr hs3 (by have := HT.out.2; omega)).mono ?_
            rintro e w4 ⟨⟨u2, rfl, h2, h2b⟩, g2⟩
            have O4 := Lib.hid h2
            have B4 := Lib.hid (HB3.out.grown g2 HB3.out.size (fun q hq => (HK3.out.place0 hq)))
            have M4 := Lib.hid (HM3.out.trans (Mid.grown g2 (Nat.le_trans hsz hs3) (fun q hq => HOB.out q hq)))
            have OB4 := Lib.hid (show ∀ b, u2.ownBlock = some b → b < wb.heap.size ∨ w1.heap.size ≤ b from fun b hb => (h2b b hb).elim (fun h => HOB.out b h) (fun h => .inr (by omega)))
            have hs4 : w3.heap.size ≤ w4.heap.size := g2.size
            obtain ⟨a2, c2, rfl, _, _⟩ := h2.rw.shape
            clear h2 g2 h2b
            go_wp2
            exact ⟨⟨k + 1, by omega, by go_num, by rw [HP.out]; exact O4.out, OB4.out, M4.out, by omega, B4.out⟩, by simp [RowKit.intOf]; omega⟩
          · obtain rfl : k = nl := by omega
            go_wp2
            go_ret
            rw [HR.out, HS.out]
            exact ⟨⟨_, rfl, HK2.out⟩, HB2.out⟩
  · have HR := Lib.hid (show cellsR m = [] from if_neg hin)
    have CIN := Lib.hid (inR_f (x := indexR m) (lo := 1) (hi := 500) hin)
    generalize indexR m = ix at CI CIN
    clear hin
    have BZ := Lib.hid (below1 w (.cells #[] 27))
    have KO := Lib.hid (owr_none0 (T := 27) (e := 3) (owns_none (w := w) (e := 27) (Nat.le_refl w.heap.size)))
    go_enter Tryz.func13, Tryz.ntmps13
    go_wp2_with fail
    refine (CI.out _ _ (HM.out.below BZ.out)).mono ?_
    rintro e wa ⟨rfl, hb⟩
    have BA := Lib.hid (BZ.out.trans (hb.mono BZ.out.size))
    have KO1 := Lib.hid ((KO.out.below hb).mono (Nat.le_refl _) hb.size)
    clear hb
    go_wp2_with fail
    refine (s_in _ _ _ _).mono ?_
    rintro e w' ⟨rfl, rfl⟩
    rw [CIN.out]
    go_wp2_with fail
    go_ret
    rw [HR.out]
    exact ⟨⟨_, rfl, KO1.out⟩, BA.out⟩
end Go.Proofs.YtjijgagdaolkcaaGreat
