/- The model's LatticeIndex, ClassLeader, SameClass. -/
import Derived.Test.YteenheidomfpkaaMaq
import Derived.Test.YteenheidomfpkaaHerC
import Derived.Test.YteenheidomfpkaaMah
import Derived.Test.YteenheidomfpkaaMaj
namespace Go.Proofs.Yteenheidomfpkaa
open Go Go.RowKit Go.Lib

set_option maxRecDepth 100000 in
set_option maxHeartbeats 800000 in
theorem s_index8 (m : List (List Int)) (v : Value) (w : World) (hv : Rw w v m) :
    Calls Try.prog 25 #[v] w (Quiet w (.int .i64 (indexR m))) := by
  have HV := Lib.hid hv
  obtain ⟨v, cc, rfl, _, _⟩ := hv.shape
  clear hv
  have hb := detR_bd m
  unfold indexR
  have CD := Lib.hid (fun W h => s_detof m (.slice v m.length cc) W h)
  generalize detR m = d at hb CD
  have CA := Lib.hid (fun W => s_abs d (by omega) (by omega) W)
  clear hb
  go_enter Try.func25, Try.ntmps25
  go_wp2_with fail
  refine (CD.out _ HV.out).mono ?_
  rintro e w1 ⟨rfl, hb⟩
  have HB := Lib.hid hb
  clear hb
  go_wp2_with fail
  refine (CA.out _).mono ?_
  rintro e w2 ⟨rfl, rfl⟩
  go_wp2_with fail
  go_ret
  exact ⟨rfl, HB.out⟩
/-- A matrix whose Hermite form is one: its rows serve the leaders. -/
theorem lead_rows {m : List (List Int)} (h1 : (hermR m).2 = true) {x : List Int} (h2 : isV x = true) (h3 : x.length = m.length) : 1 ≤ (hermL m).length ∧ (hermL m).length ≤ 3 ∧ LeadOk (hermL m) x ∧ (hermL m).length = m.length := by
  obtain ⟨hd, hm2, hl2⟩ := herm_mat h1
  obtain ⟨h, n1, n3, hp, _, ok, _, hlen, hc⟩ := herm_pad6 hd
  refine ⟨by omega, by omega, leadOk_mk (by omega) (by omega) (small_bd (isV_t h2).2.2) ?_, hlen⟩
  have hq := isM_sq hm2
  intro k hk
  refine ⟨(hermL m)[k], List.getElem?_eq_getElem hk, (hq.2 k hk).1, ?_, bd_up (hq.2 k hk).2 (by omega)⟩
  have p0 := ok.p0; have p1 := ok.p1; have p2 := ok.p2
  rcases hc with ⟨hn, e, _⟩ | ⟨hn, e, _⟩ | ⟨hn, e⟩
  · obtain rfl : k = 0 := by omega
    simpa [e, colA] using p0
  · rcases (by omega : k = 0 ∨ k = 1) with rfl | rfl
    · simpa [e, colA] using p0
    · simpa [e, colA] using p1
  · rcases (by omega : k = 0 ∨ k = 1 ∨ k = 2) with rfl | rfl | rfl
    · simpa [e, colA, H6.rows] using p0
    · simpa [e, colA, H6.rows] using p1
    · simpa [e, colA, H6.rows] using p2
theorem leadS_no {m : List (List Int)} {x : List Int} (h : ¬ ((hermR m).2 = true ∧ isV x = true ∧ x.length = m.length)) : leadR m x = ([], false) := if_neg h
theorem own_none {w : World} {lo : Nat} (h : lo ≤ w.heap.size) : OwnV 3 lo (w.alloc (.cells #[] 3)).heap.size (w.alloc (.cells #[] 3)) (.slice (some ⟨w.heap.size, 0, none⟩) 0 0) (intVals []) := (OwnV.of_owns (owns_none (Nat.le_refl _))).mono h (Nat.le_refl _)
set_option maxRecDepth 100000 in
set_option maxHeartbeats 1600000 in
theorem s_clead (m : List (List Int)) (x : List Int) (v u : Value) (w : World) (hv : Rw w v m) (hu : Sl w u (intVals x)) :
    Calls Try.prog 27 #[v, u] w (Got w (leadR m x)) := by
  have HV := Lib.hid hv
  have HU := Lib.hid hu
  obtain ⟨a, ac, rfl, am, _⟩ := hv.shape
  obtain ⟨b, bc, rfl, bm, _⟩ := hu.shape
  rw [intVals_len] at bm HU ⊢
  unfold maxLen at am bm
  clear hv hu
  by_cases h1 : (hermR m).2 = true
  · have H1 := Lib.hid h1
    by_cases h2 : isV x = true
    · by_cases h3 : x.length = m.length
      · obtain ⟨g1, g3, gok, gl⟩ := lead_rows h1 h2 h3
        obtain ⟨_, _, hl2⟩ := herm_mat h1
        have HR := Lib.hid (show leadR m x = (leadL (hermL m) x, true) from (if_pos ⟨h1, h2, h3⟩).trans (by rw [hl2]))
        have HE := Lib.hid h2
        have CF := Lib.hid (show ∀ W A, Rw W A m → Calls Try.prog 19 #[A] W (GotR W (hermL m, true)) from fun W A hW => by have h0 := s_hermof m A W hW; rwa [show hermR m = (hermL m, true) from Prod.ext hl2 h1] at h0)
        have CL := Lib.hid (fun W A B hA hB => s_leader (hermL m) x g1 g3 gok A B W hA hB)
        have hne : ((x.length : Int) != (m.length : Int)) = false := by rw [h3]; simp
        clear h3 h2 h1 hl2 g1 g3 gok gl
        go_enter Try.func27, Try.ntmps27
        go_wp2_with fail
        refine (CF.out _ _ HV.out).mono ?_
        rintro e w1 ⟨⟨r, rfl, ho⟩, hb⟩
        have B1 := Lib.hid hb
        have O1 := Lib.hid ho.rw
        obtain ⟨ra, rc, rfl, _, _⟩ := ho.rw.shape
        clear hb ho
        go_wp2_with fail
        refine (s_isv x _ _ (HU.out.below B1.out)).mono ?_
        rintro e w2 ⟨rfl, hb⟩
        have B2 := Lib.hid (B1.out.trans (hb.mono B1.out.size))
        have O2 := Lib.hid (O1.out.below hb)
        rw [HE.out]
        clear hb
        go_wp2_with fail
        refine (CL.out _ _ _ O2.out (HU.out.below B2.out)).mono ?_
        rintro e w3 ⟨⟨q, rfl, ho⟩, hb⟩
        have B3 := Lib.hid (B2.out.trans (hb.mono B2.out.size))
        have O3 := Lib.hid (ho.mono (lo' := w.heap.size) B2.out.size (Nat.le_refl _))
        clear hb ho
        go_wp2_with fail
        go_ret2
        rw [HR.out]
        exact ⟨⟨_, rfl, O3.out⟩, B3.out⟩
      · have HR := Lib.hid (leadS_no (m := m) (x := x) (fun h => h3 h.2.2))
        have HE := Lib.hid h2
        have hne : ((x.length : Int) != (m.length : Int)) = true := by simp; omega
        clear h3 h2 h1
        go_enter Try.func27, Try.ntmps27
        go_wp2_with fail
        refine (s_hermof m _ _ HV.out).mono ?_
        rintro e w1 ⟨⟨r, rfl, ho⟩, hb⟩
        have B1 := Lib.hid hb
        obtain ⟨ra, rc, rfl, _, _⟩ := ho.rw.shape
        rw [H1.out]
        clear hb ho
        go_wp2_with fail
        refine (s_isv x _ _ (HU.out.below B1.out)).mono ?_
        rintro e w2 ⟨rfl, hb⟩
        have B2 := Lib.hid (B1.out.trans (hb.mono B1.out.size))
        rw [HE.out]
        clear hb
        go_wp2_with fail
        go_ret2
        rw [HR.out]
        exact ⟨⟨_, rfl, own_none B2.out.size⟩, B2.out.alloc B2.out.size _⟩
    · have HR := Lib.hid (leadS_no (m := m) (x := x) (fun h => h2 h.2.1))
      have HE := Lib.hid (bool_f h2)
      clear h2 h1
      go_enter Try.func27, Try.ntmps27
      go_wp2_with fail
      refine (s_hermof m _ _ HV.out).mono ?_
      rintro e w1 ⟨⟨r, rfl, ho⟩, hb⟩
      have B1 := Lib.hid hb
      obtain ⟨ra, rc, rfl, _, _⟩ := ho.rw.shape
      rw [H1.out]
      clear hb ho
      go_wp2_with fail
      refine (s_isv x _ _ (HU.out.below B1.out)).mono ?_
      rintro e w2 ⟨rfl, hb⟩
      have B2 := Lib.hid (B1.out.trans (hb.mono B1.out.size))
      rw [HE.out]
      clear hb
      go_wp2_with fail
      go_ret2
      rw [HR.out]
      exact ⟨⟨_, rfl, own_none B2.out.size⟩, B2.out.alloc B2.out.size _⟩
  · have HR := Lib.hid (leadS_no (m := m) (x := x) (fun h => h1 h.1))
    have HE := Lib.hid (bool_f h1)
    clear h1
    go_enter Try.func27, Try.ntmps27
    go_wp2_with fail
    refine (s_hermof m _ _ HV.out).mono ?_
    rintro e w1 ⟨⟨r, rfl, ho⟩, hb⟩
    have B1 := Lib.hid hb
    obtain ⟨ra, rc, rfl, _, _⟩ := ho.rw.shape
    rw [HE.out]
    clear hb ho
    go_wp2_with fail
    go_ret2
    rw [HR.out]
    exact ⟨⟨_, rfl, own_none B1.out.size⟩, B1.out.alloc B1.out.size _⟩
set_option maxRecDepth 100000 in
set_option maxHeartbeats 1600000 in
theorem s_same8 (m : List (List Int)) (x y : List Int) (v u t : Value) (w : World) (hv : Rw w v m) (hu : Sl w u (intVals x)) (ht : Sl w t (intVals y)) :
    Calls Try.prog 35 #[v, u, t] w (Quiet w (.bool (sameR m x y))) := by
  have HV := Lib.hid hv
  have HU := Lib.hid hu
  have HT := Lib.hid ht
  obtain ⟨a, ac, rfl, am, _⟩ := hv.shape
  obtain ⟨b, bc, rfl, bm, _⟩ := hu.shape
  obtain ⟨d, dc, rfl, dm, _⟩ := ht.shape
  rw [intVals_len] at bm dm HU HT ⊢
  rw [intVals_len]
  unfold maxLen at am bm dm
  clear hv hu ht
  have C1 := Lib.hid (fun W A B h k => s_clead m x A B W h k)
  have C2 := Lib.hid (fun W A B h k => s_clead m y A B W h k)
  unfold sameR
  generalize leadR m x = p at C1
  generalize leadR m y = q at C2
  obtain ⟨p1, p2⟩ := p
  obtain ⟨q1, q2⟩ := q
  simp only
  go_enter Try.func35, Try.ntmps35
  go_wp2_with fail
  refine (C1.out _ _ _ HV.out HU.out).mono ?_
  rintro e w1 ⟨⟨r, rfl, ho⟩, hb⟩
  have B1 := Lib.hid hb
  have O1 := Lib.hid ho.sl
  obtain ⟨ra, rc, rfl, _, _⟩ := ho.sl.shape
  clear hb ho
  go_wp2_with fail
  refine (C2.out _ _ _ (HV.out.below B1.out) (HT.out.below B1.out)).mono ?_
  rintro e w2 ⟨⟨r2, rfl, ho⟩, hb⟩
  have B2 := Lib.hid (B1.out.trans (hb.mono B1.out.size))
  have O2 := Lib.hid (O1.out.below hb)
  have O3 := Lib.hid ho.sl
  obtain ⟨sa, sc, rfl, _, _⟩ := ho.sl.shape
  clear hb ho
  cases p2 with
  | false =>
    go_wp2_with fail
    go_ret
    exact ⟨rfl, B2.out⟩
  | true =>
    cases q2 with
    | false =>
      go_wp2_with fail
      go_ret
      exact ⟨rfl, B2.out⟩
    | true =>
      go_wp2_with fail
      refine (s_sameP p1 q1 _ _ _ O2.out O3.out).mono ?_
      rintro e w3 ⟨rfl, hb⟩
      have B3 := Lib.hid (B2.out.trans (hb.mono B2.out.size))
      clear hb
      go_wp2_with fail
      go_ret
      exact ⟨rfl, B3.out⟩
end Go.Proofs.Yteenheidomfpkaa
/- The model's ClassLeaders. -/
namespace Go.Proofs.Yteenheidomfpkaa
open Go Go.RowKit Go.Lib

theorem rngI_range (d : Nat) : rngI 0 d = (List.range d).map fun i : Nat => (i : Int) := by unfold rngI; exact List.map_congr_left fun i _ => by omega
theorem stepB_rng (l : List (List Int)) (d : Nat) : (l.flatMap fun p => (rngI 0 d).map fun x => p ++ [x]) = stepB l d := by
  unfold stepB
  rw [rngI_range]
  simp only [List.map_map]
  rfl
/-- What the loops over the leaders meet: the numbers on the diagonal, and how many there are so far. -/
def BoxOk (h : List (List Int)) : Prop := ∀ k, k < h.length → ∃ r, h[k]? = some r ∧ r.length = h.length ∧ 0 < colA k r ∧ colA k r ≤ 500 ∧ (boxS h k).length ≤ 500 ∧ ∀ p ∈ boxS h k, p.length ≤ 3
theorem boxS_lens (h : List (List Int)) : ∀ (k : Nat), ∀ p ∈ boxS h k, p.length = k
  | 0, p, hp => by simp [boxS] at hp; subst hp; rfl
  | k + 1, p, hp => by
    simp only [boxS, stepB, List.mem_flatMap, List.mem_map] at hp
    obtain ⟨q, hq, x, _, rfl⟩ := hp
    simp [boxS_lens h k q hq]
theorem stepB_len (l : List (List Int)) (d : Nat) : (stepB l d).length = l.length * d := by
  unfold stepB
  induction l with
  | nil => simp
  | cons p l ih => rw [List.flatMap_cons, List.length_append, ih, List.length_map, List.length_range, List.length_cons, Nat.succ_mul, Nat.add_comm]
theorem boxS_step {h : List (List Int)} {k : Nat} {r : List Int} (e : h[k]? = some r) : boxS h (k + 1) = stepB (boxS h k) (colA k r).toNat := by
  show stepB (boxS h k) (colA k (h.getD k [])).toNat = _
  rw [show h.getD k [] = r by rw [List.getD_eq_getElem?_getD, e]; rfl]
/-- Positive diagonals whose product is at most 500. -/
theorem boxOk_mk {h : List (List Int)} (h3 : h.length ≤ 3) (hr : ∀ k, k < h.length → ∃ r, h[k]? = some r ∧ r.length = h.length ∧ 0 < colA k r) (hc : (boxL h).length ≤ 500) : BoxOk h := by
  have up : ∀ k, k ≤ h.length → (boxS h k).length ≤ 500 ∧ 0 < (boxS h k).length := by
    have key : ∀ j, j ≤ h.length → (boxS h (h.length - j)).length ≤ 500 := by
      intro j
      induction j with
      | zero => intro _; exact hc
      | succ j ih =>
        intro hj
        have i1 := ih (by omega)
        obtain ⟨r, e, _, rp⟩ := hr (h.length - (j + 1)) (by omega)
        rw [show h.length - j = h.length - (j + 1) + 1 by omega, boxS_step e, stepB_len] at i1
        have : 1 ≤ (colA (h.length - (j + 1)) r).toNat := by omega
        have := Nat.mul_le_mul_left (boxS h (h.length - (j + 1))).length this
        omega
    have pos : ∀ k, k ≤ h.length → 0 < (boxS h k).length := by
      intro k
      induction k with
      | zero => intro _; simp [boxS]
      | succ k ih =>
        intro hk
        obtain ⟨r, e, _, rp⟩ := hr k (by omega)
        rw [boxS_step e, stepB_len]
        exact Nat.mul_pos (ih (by omega)) (by omega)
    exact fun k hk => ⟨by have := key (h.length - k) (by omega); rwa [show h.length - (h.length - k) = k by omega] at this, pos k hk⟩
  intro k hk
  obtain ⟨r, e, rl, rp⟩ := hr k hk
  have a := up (k + 1) (by omega)
  have b := up k (by omega)
  rw [boxS_step e, stepB_len] at a
  have c : 1 * (colA k r).toNat ≤ (boxS h k).length * (colA k r).toNat := Nat.mul_le_mul_right _ b.2
  exact ⟨r, e, rl, rp, by omega, b.1, fun p hp => by rw [boxS_lens h k p hp]; omega⟩
theorem boxL_len {m : List (List Int)} (hd : detR m ≠ 0) (h2 : indexR m ≤ 500) : (boxL (hermL m)).length ≤ 500 := by
  obtain ⟨h, n1, n3, hp, _, ok, hix, hlen, hc⟩ := herm_pad6 hd
  have p0 := ok.p0; have p1 := ok.p1; have p2 := ok.p2
  rw [← box_cut hd hp, List.length_map]
  have hs : (((boxT h).length : Nat) : Int) = h.d0 * h.d1 * h.d2 := by
    rw [boxT_len]
    simp only [Int.natCast_mul]
    rw [Int.toNat_of_nonneg (by omega), Int.toNat_of_nonneg (by omega), Int.toNat_of_nonneg (by omega), Int.mul_assoc]
  omega
theorem leadersR_tot (m : List (List Int)) : tot (leadersR m) ≤ 1500 := by
  unfold leadersR
  split
  · rename_i h
    obtain ⟨hd, hm2, hl2⟩ := herm_mat h.1
    have h5 := boxL_len hd h.2
    obtain ⟨_, _, n3, _, _, _, _, hlen, _⟩ := herm_pad6 hd
    rw [hl2]
    unfold tot
    rw [sum_const List.length (hermL m).length (boxL (hermL m)) (fun x hx => boxS_lens _ _ x hx)]
    have := Nat.mul_le_mul h5 (show (hermL m).length ≤ 3 by omega)
    omega
  · simp [tot]
theorem box_ok' {m : List (List Int)} (hd : detR m ≠ 0) (h2 : indexR m ≤ 500) : BoxOk (hermL m) := by
  obtain ⟨h, n1, n3, hp, _, ok, hix, hlen, hc⟩ := herm_pad6 hd
  have p0 := ok.p0; have p1 := ok.p1; have p2 := ok.p2
  refine boxOk_mk (by omega) ?_ ?_
  · intro k hk
    refine ⟨(hermL m)[k], List.getElem?_eq_getElem hk, ?_, ?_⟩
    · rcases hc with ⟨hn, e, _⟩ | ⟨hn, e, _⟩ | ⟨hn, e⟩
      · obtain rfl : k = 0 := by omega
        simp [e]
      · rcases (by omega : k = 0 ∨ k = 1) with rfl | rfl <;> simp [e]
      · rcases (by omega : k = 0 ∨ k = 1 ∨ k = 2) with rfl | rfl | rfl <;> simp [e, H6.rows]
    · rcases hc with ⟨hn, e, _⟩ | ⟨hn, e, _⟩ | ⟨hn, e⟩
      · obtain rfl : k = 0 := by omega
        simpa [e, colA] using p0
      · rcases (by omega : k = 0 ∨ k = 1) with rfl | rfl
        · simpa [e, colA] using p0
        · simpa [e, colA] using p1
      · rcases (by omega : k = 0 ∨ k = 1 ∨ k = 2) with rfl | rfl | rfl
        · simpa [e, colA, H6.rows] using p0
        · simpa [e, colA, H6.rows] using p1
        · simpa [e, colA, H6.rows] using p2
  · exact boxL_len hd h2
/-- The leaders' box of a matrix that has leaders. -/
theorem box_ok {m : List (List Int)} (h1 : (hermR m).2 = true) (h2 : indexR m ≤ 500) : BoxOk (hermL m) := by
  obtain ⟨hd, hm2, _⟩ := herm_mat h1
  exact box_ok' hd h2
set_option maxRecDepth 100000 in
set_option maxHeartbeats 4000000 in
theorem s_leaders8 (m : List (List Int)) (v : Value) (w : World) (hv : Rw w v m) :
    Calls Try.prog 33 #[v] w (MadeR w (leadersR m)) := by
  have HM := Lib.hid hv
  obtain ⟨a, ac, rfl, am, _⟩ := hv.shape
  unfold maxLen at am
  clear hv
  by_cases h1 : (hermR m).2 = true
  · have H1 := Lib.hid h1
    have CF := Lib.hid (show ∀ W A, Rw W A m → Calls Try.prog 19 #[A] W (GotR W (hermL m, true)) from fun W A hW => by have h0 := s_hermof m A W hW; rwa [show hermR m = (hermL m, true) from Prod.ext (herm_mat h1).2.2 h1] at h0)
    have CI := Lib.hid (fun A W hA => s_index8 m A W hA)
    by_cases h2 : indexR m ≤ 500
    · have HR := Lib.hid (show leadersR m = boxS (hermL m) (hermL m).length from (if_pos ⟨h1, h2⟩).trans (by rw [(herm_mat h1).2.2]; rfl))
      have hk := box_ok h1 h2
      have h3 : (hermL m).length ≤ 3 := by
        obtain ⟨hd, _⟩ := herm_mat h1
        obtain ⟨_, _, n3, _, _, _, _, hlen, _⟩ := herm_pad6 hd
        omega
      generalize hermL m = h at CF HR hk h3
      have HK := Lib.hid hk
      clear hk h1
      generalize indexR m = ix at CI h2
      go_enter Try.func33, Try.ntmps33
      go_wp2_with fail
      refine (CF.out _ _ HM.out).mono ?_
      rintro e wa ⟨⟨r0, rfl, ho⟩, hb⟩
      have BA := Lib.hid hb
      have HV0 := Lib.hid ho.rw
      obtain ⟨ha, hac, rfl, _, _⟩ := ho.rw.shape
      clear hb ho
      go_wp2_with fail
      refine (CI.out _ _ (HM.out.below BA.out)).mono ?_
      rintro e wb ⟨rfl, hb⟩
      have BB := Lib.hid (BA.out.trans (hb.mono BA.out.size))
      have HV := Lib.hid (HV0.out.below hb)
      clear hb HV0
      go_wp2
      go_loopw [5, 6] (fun o k wr => ∃ kk : Nat, kk ≤ h.length ∧ k = .int .i64 kk ∧ OwR 31 3 w.heap.size wr.heap.size wr o (boxS h kk) ∧ Below wb.heap.size wb wr) (fun _ k _ => h.length - (RowKit.intOf k).toNat)
      case atStart => exact ⟨0, Nat.zero_le _, rfl, (owr_one (Nat.le_refl _)).mono BB.out.size (Nat.le_refl _), below2 _ _ _⟩
      case round =>
        obtain ⟨k, hk, rfl, how, hbr⟩ := hrel
        rename World => w1
        have HW := Lib.hid how
        have HB := Lib.hid hbr
        obtain ⟨oa, oc, rfl, _, _⟩ := how.rw.shape
        clear how hbr
        by_cases hlt : k < h.length
        · obtain ⟨r, er, rl, rp, rp5, hout, hls⟩ := HK.out k hlt
          have HST := Lib.hid (boxS_step er)
          have HL3 := Lib.hid hls
          obtain ⟨hb1, hbo, ru, rfl, hrl, hrc, hrs⟩ := HV.out.row k hlt rfl
          have eh : h[k] = r := by rw [List.getElem?_eq_getElem hlt] at er; exact Option.some.inj er
          rw [eh] at hrs
          obtain ⟨ra, rc, rfl, rm, rsh⟩ := hrs.shape
          rw [intVals_len, rl] at rsh hrc hrs
          obtain ⟨rb, ro, rfl, rcl, rlt, rx⟩ := rsh (by omega)
          have ek : r[k]? = some (colA k r) := by rw [colA_get (by omega)]; exact List.getElem?_eq_getElem (by omega)
          have hrk := rx k (.int .i64 (colA k r)) (by simp [intVals, ek])
          obtain ⟨L, hL⟩ : ∃ L : Nat, colA k r = (L : Int) := ⟨(colA k r).toNat, by omega⟩
          rw [hL] at hrk rp rp5 HST
          rw [show ((L : Nat) : Int).toNat = L from by omega] at HST
          have hL5 : L ≤ 500 := by omega
          have hRl := rngI_len 0 L
          clear er rl rm rsh rcl rx ek hL eh hrs hls rp rp5
          have HRC := Lib.hid hrc
          have HRK := Lib.hid hrk
          clear hrc hrk
          have IL := Lib.hid (boxS_lens h k)
          obtain ⟨out, hO⟩ : ∃ out, boxS h k = out := ⟨_, rfl⟩
          rw [hO] at HW hout HST HL3 ⊢
          clear hO IL
          have i1h : (0 : Int) ≤ (k : Int) := by omega
          have i2h : (k : Int) < (h.length : Int) := by omega
          go_wp2
          go_loopw [7, 8] (fun nx i ws => ∃ ii : Nat, ii ≤ out.length ∧ i = .int .i64 ii ∧ OwR 31 3 w1.heap.size ws.heap.size ws nx (nextL (rngI 0 L) out ii 0) ∧ Below w1.heap.size w1 ws) (fun _ i _ => out.length - (RowKit.intOf i).toNat)
          case atStart => exact ⟨0, Nat.zero_le _, rfl, by rw [nextL_zero]; exact owr_empty (Nat.le_refl _), below1 _ _⟩
          case round =>
            obtain ⟨i, hi, rfl, how, hbr⟩ := hrel
            have HX := Lib.hid how
            have HS := Lib.hid hbr
            clear how hbr
            by_cases hli : i < out.length
            case neg =>
              obtain rfl : i = out.length := by omega
              have HN := Lib.hid ((nextL_all (rngI 0 L) out).trans (stepB_rng out L))
              go_wp2
              refine ⟨⟨k + 1, by omega, by go_num, ?_, HB.out.trans (HS.out.mono HB.out.size)⟩, by simp [RowKit.intOf]; omega⟩
              rw [HST.out, ← HN.out]
              exact HX.out.mono (Nat.le_trans BB.out.size HB.out.size) (Nat.le_refl _)
            rename World => w2
            go_wp2
            go_loopw [7, 9] (fun nx x ws => ∃ jj : Nat, jj ≤ L ∧ x = .int .i64 jj ∧ OwR 31 3 w1.heap.size ws.heap.size ws nx (nextL (rngI 0 L) out i jj) ∧ Below w1.heap.size w1 ws) (fun _ x _ => L - (RowKit.intOf x).toNat)
            case atStart => exact ⟨0, Nat.zero_le _, rfl, HX.out, HS.out⟩
            case round =>
              obtain ⟨j, hj, rfl, how, hbr⟩ := hrel
              have HX2 := Lib.hid how
              have HS2 := Lib.hid hbr
              clear how hbr
              rename World => w3
              have HA := Lib.hid (HB.out.trans (HS2.out.mono HB.out.size))
              have hcr := (HA.out.cell (p := ⟨hb1, hbo + k, none⟩) hrl).trans HRC.out
              have hck := (HA.out.cell (p := ⟨rb, ro + k, none⟩) rlt).trans HRK.out
              by_cases hlj : j < L
              case neg =>
                obtain rfl : j = L := by omega
                have HN := Lib.hid (nextL_row (R := rngI 0 j) hli)
                rw [hRl] at HN
                go_wp2
                exact ⟨⟨i + 1, by omega, by go_num, by rw [← HN.out]; exact HX2.out, HS2.out⟩, by simp [RowKit.intOf]; omega⟩
              obtain ⟨b1, r, rfl, _, _, hlt1, hcell, _, hor, _, _⟩ := (HW.out.below HS2.out).at i hli rfl
              have hcell4 : (w3.alloc (.cells #[] 3)).cell? ⟨b1, i, none⟩ = some r := ((below1 w3 (.cells #[] 3)).cell (p := ⟨b1, i, none⟩) hlt1).trans hcell
              have HR := Lib.hid (hor.below (below1 w3 (.cells #[] 3)))
              have hl3 : out[i].length ≤ 3 := HL3.out _ (List.getElem_mem hli)
              have HNx := Lib.hid (nextL_step (R := rngI 0 L) hli (by rw [hRl]; exact hlj))
              have hnl := nextL_le (R := rngI 0 L) hi (show j ≤ (rngI 0 L).length by omega) (by omega) (show out.length ≤ 1000000 by omega)
              have hnb : 0 + out[i].length ≤ 1099511627776 := by omega
              clear hcell hor
              have i1 : (0 : Int) ≤ (i : Int) := by omega
              have i3 : (j : Int) < (L : Int) := by omega
              go_wp2_with (first | (at_builtin; refine list_app_ints rfl _ _ rfl w3.heap.size (.slice (some ⟨w3.heap.size, 0, none⟩) 0 0) 0 [] out[i] r w.heap.size w1.heap.size rfl (owns_none (Nat.le_refl _)) rfl HR.out hnb (by simp) ?_; intro v5 w5 hown5 hbel5; have HO5 := Lib.hid hown5; have HB5 := Lib.hid ((below1 w3 (.cells #[] 3)).trans hbel5); have hs5 := HB5.out.size; clear hown5 hbel5) | (at_builtin; refine list_app_int2 rfl _ _ rfl w3.heap.size v5 (0 + out[i].length) ([] ++ out[i]) j rfl (HO5.out.alloc _) w5.heap.size rfl (heap_alloc_new w5 _) hnb (by rw [World.size_alloc]; omega) ?_; intro g6 c6 w6 hown6 hgr6 hpl6; simp only [Nat.zero_add, List.nil_append] at hown6; have HO6 := Lib.hid hown6; have HB6 := Lib.hid (HB5.out.trans (((Below.refl w3.heap.size w5).alloc hs5 (.cells #[.int .i64 j] 3)).grown hgr6 (by rw [World.size_alloc]; omega) (fun b e => (HO5.out.lt b e).1))); clear hown6 hgr6 hpl6) | (at_builtin; refine list_app_row2 rfl _ _ rfl w1.heap.size w3.heap.size u7 (.slice (some ⟨g6, 0, none⟩) (out[i].length + 1) c6) (nextL (rngI 0 L) out i j) (out[i] ++ [(j : Int)]) rfl ((HX2.out.below HB6.out).below (below1 w6 _)) (((OwnV.of_owns HO6.out).below (below1 w6 _)).mono (Nat.le_refl _) (by simp)) w6.heap.size rfl (heap_alloc_new w6 _) hnl HS2.out.size (by have := HB6.out.size; rw [World.size_alloc]; omega) ?_; intro g7 c7 w7 hown7 hbel7 _ _; have HO7 := Lib.hid hown7; have HB7 := Lib.hid (HS2.out.trans (((HB6.out.mono HS2.out.size).trans ((below1 w6 _).mono (Nat.le_trans HS2.out.size HB6.out.size))).trans hbel7)); clear hown7 hbel7))
              refine ⟨⟨j + 1, by omega, by go_num, ?_, HB7.out⟩, by simp [RowKit.intOf]; omega⟩
              have h7 := HO7.out
              rw [show out[i] ++ [(j : Int)] = out[i] ++ [(rngI 0 L)[j]'(by rw [hRl]; exact hlj)] by rw [rngI_get]; simp, HNx.out] at h7
              exact h7
        · obtain rfl : k = h.length := by omega
          go_wp2
          go_ret
          rw [HR.out]
          exact ⟨⟨_, rfl, HW.out⟩, BB.out.trans (HB.out.mono BB.out.size)⟩
    · have HR := Lib.hid (show leadersR m = [] from if_neg (fun h => h2 h.2))
      clear h1
      generalize indexR m = ix at CI h2
      have hle : 500 < ix := by omega
      clear h2
      go_enter Try.func33, Try.ntmps33
      go_wp2_with fail
      refine (CF.out _ _ HM.out).mono ?_
      rintro e w1 ⟨⟨r, rfl, ho⟩, hb⟩
      have B1 := Lib.hid hb
      obtain ⟨ra, rc, rfl, _, _⟩ := ho.rw.shape
      clear hb ho
      go_wp2_with fail
      refine (CI.out _ _ (HM.out.below B1.out)).mono ?_
      rintro e w2 ⟨rfl, hb⟩
      have B2 := Lib.hid (B1.out.trans (hb.mono B1.out.size))
      clear hb
      go_wp2_with fail
      go_ret
      rw [HR.out]
      exact ⟨⟨_, rfl, (owr_empty (Nat.le_refl _)).mono B2.out.size (Nat.le_refl _)⟩, B2.out.alloc B2.out.size _⟩
  · have HR := Lib.hid (show leadersR m = [] from if_neg (fun h => h1 h.1))
    have HE := Lib.hid (bool_f h1)
    clear h1
    go_enter Try.func33, Try.ntmps33
    go_wp2_with fail
    refine (s_hermof m _ _ HM.out).mono ?_
    rintro e w1 ⟨⟨r, rfl, ho⟩, hb⟩
    have B1 := Lib.hid hb
    obtain ⟨ra, rc, rfl, _, _⟩ := ho.rw.shape
    rw [HE.out]
    clear hb ho
    go_wp2_with fail
    go_ret
    rw [HR.out]
    exact ⟨⟨_, rfl, (owr_empty (Nat.le_refl _)).mono B1.out.size (Nat.le_refl _)⟩, B1.out.alloc B1.out.size _⟩
end Go.Proofs.Yteenheidomfpkaa
