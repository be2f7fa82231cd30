/- The model's LatticeIndex, ClassLeader, SameClass. -/
import Derived.Test.YteenheidomfpkaaMaq
import Derived.Test.YteenheidomfpkaaHerC
import Derived.Test.YteenheidomfpkaaMah
namespace Go.Proofs.Yteenheidomfpkaa
open Go Go.RowKit Go.Lib

set_option maxRecDepth 100000 in
set_option maxHeartbeats 800000 in
theorem s_index8 (m : List (List Int)) (v : Value) (w : World) (hv : Rw w v m) :
    Calls Try.prog 25 #[v] w (Quiet w (.int .i64 (indexR m))) := by
  have HV := Lib.hid hv
  obtain ⟨v, cc, rfl, _, _⟩ := hv.shape
  clear hv
  have hb := detR_bd m
  unfold indexR
  have CD := Lib.hid (fun W h => s_detof m (.slice v m.length cc) W h)
  generalize detR m = d at hb CD
  have CA := Lib.hid (fun W => s_abs d (by omega) (by omega) W)
  clear hb
  go_enter Try.func25, Try.ntmps25
  go_wp2_with fail
  refine (CD.out _ HV.out).mono ?_
  rintro e w1 ⟨rfl, hb⟩
  have HB := Lib.hid hb
  clear hb
  go_wp2_with fail
  refine (CA.out _).mono ?_
  rintro e w2 ⟨rfl, rfl⟩
  go_wp2_with fail
  go_ret
  exact ⟨rfl, HB.out⟩
/-- A matrix whose Hermite form is one: its rows serve the leaders. -/
theorem lead_rows {m : List (List Int)} (h1 : (hermR m).2 = true) {x : List Int} (h2 : isV x = true) (h3 : x.length = m.length) : 1 ≤ (hermL m).length ∧ (hermL m).length ≤ 3 ∧ LeadOk (hermL m) x ∧ (hermL m).length = m.length := by
  obtain ⟨hd, hm2, hl2⟩ := herm_mat h1
  obtain ⟨h, n1, n3, hp, _, ok, _, hlen, hc⟩ := herm_pad6 hd
  refine ⟨by omega, by omega, leadOk_mk (by omega) (by omega) (small_bd (isV_t h2).2.2) ?_, hlen⟩
  have hq := isM_sq hm2
  intro k hk
  refine ⟨(hermL m)[k], List.getElem?_eq_getElem hk, (hq.2 k hk).1, ?_, bd_up (hq.2 k hk).2 (by omega)⟩
  have p0 := ok.p0; have p1 := ok.p1; have p2 := ok.p2
  rcases hc with ⟨hn, e, _⟩ | ⟨hn, e, _⟩ | ⟨hn, e⟩
  · obtain rfl : k = 0 := by omega
    simpa [e, colA] using p0
  · rcases (by omega : k = 0 ∨ k = 1) with rfl | rfl
    · simpa [e, colA] using p0
    · simpa [e, colA] using p1
  · rcases (by omega : k = 0 ∨ k = 1 ∨ k = 2) with rfl | rfl | rfl
    · simpa [e, colA, H6.rows] using p0
    · simpa [e, colA, H6.rows] using p1
    · simpa [e, colA, H6.rows] using p2
theorem leadS_no {m : List (List Int)} {x : List Int} (h : ¬ ((hermR m).2 = true ∧ isV x = true ∧ x.length = m.length)) : leadR m x = ([], false) := if_neg h
theorem own_none {w : World} {lo : Nat} (h : lo ≤ w.heap.size) : OwnV 3 lo (w.alloc (.cells #[] 3)).heap.size (w.alloc (.cells #[] 3)) (.slice (some ⟨w.heap.size, 0, none⟩) 0 0) (intVals []) := (OwnV.of_owns (owns_none (Nat.le_refl _))).mono h (Nat.le_refl _)
set_option maxRecDepth 100000 in
set_option maxHeartbeats 1600000 in
theorem s_clead (m : List (List Int)) (x : List Int) (v u : Value) (w : World) (hv : Rw w v m) (hu : Sl w u (intVals x)) :
    Calls Try.prog 27 #[v, u] w (Got w (leadR m x)) := by
  have HV := Lib.hid hv
  have HU := Lib.hid hu
  obtain ⟨a, ac, rfl, am, _⟩ := hv.shape
  obtain ⟨b, bc, rfl, bm, _⟩ := hu.shape
  rw [intVals_len] at bm HU ⊢
  unfold maxLen at am bm
  clear hv hu
  by_cases h1 : (hermR m).2 = true
  · have H1 := Lib.hid h1
    by_cases h2 : isV x = true
    · by_cases h3 : x.length = m.length
      · obtain ⟨g1, g3, gok, gl⟩ := lead_rows h1 h2 h3
        obtain ⟨_, _, hl2⟩ := herm_mat h1
        have HR := Lib.hid (show leadR m x = (leadL (hermL m) x, true) from (if_pos ⟨h1, h2, h3⟩).trans (by rw [hl2]))
        have HE := Lib.hid h2
        have CF := Lib.hid (show ∀ W A, Rw W A m → Calls Try.prog 19 #[A] W (GotR W (hermL m, true)) from fun W A hW => by have h0 := s_hermof m A W hW; rwa [show hermR m = (hermL m, true) from Prod.ext hl2 h1] at h0)
        have CL := Lib.hid (fun W A B hA hB => s_leader (hermL m) x g1 g3 gok A B W hA hB)
        have hne : ((x.length : Int) != (m.length : Int)) = false := by rw [h3]; simp
        clear h3 h2 h1 hl2 g1 g3 gok gl
        go_enter Try.func27, Try.ntmps27
        go_wp2_with fail
        refine (CF.out _ _ HV.out).mono ?_
        rintro e w1 ⟨⟨r, rfl, ho⟩, hb⟩
        have B1 := Lib.hid hb
        have O1 := Lib.hid ho.rw
        obtain ⟨ra, rc, rfl, _, _⟩ := ho.rw.shape
        clear hb ho
        go_wp2_with fail
        refine (s_isv x _ _ (HU.out.below B1.out)).mono ?_
        rintro e w2 ⟨rfl, hb⟩
        have B2 := Lib.hid (B1.out.trans (hb.mono B1.out.size))
        have O2 := Lib.hid (O1.out.below hb)
        rw [HE.out]
        clear hb
        go_wp2_with fail
        refine (CL.out _ _ _ O2.out (HU.out.below B2.out)).mono ?_
        rintro e w3 ⟨⟨q, rfl, ho⟩, hb⟩
        have B3 := Lib.hid (B2.out.trans (hb.mono B2.out.size))
        have O3 := Lib.hid (ho.mono (lo' := w.heap.size) B2.out.size (Nat.le_refl _))
        clear hb ho
        go_wp2_with fail
        go_ret2
        rw [HR.out]
        exact ⟨⟨_, rfl, O3.out⟩, B3.out⟩
      · have HR := Lib.hid (leadS_no (m := m) (x := x) (fun h => h3 h.2.2))
        have HE := Lib.hid h2
        have hne : ((x.length : Int) != (m.length : Int)) = true := by simp; omega
        clear h3 h2 h1
        go_enter Try.func27, Try.ntmps27
        go_wp2_with fail
        refine (s_hermof m _ _ HV.out).mono ?_
        rintro e w1 ⟨⟨r, rfl, ho⟩, hb⟩
        have B1 := Lib.hid hb
        obtain ⟨ra, rc, rfl, _, _⟩ := ho.rw.shape
        rw [H1.out]
        clear hb ho
        go_wp2_with fail
        refine (s_isv x _ _ (HU.out.below B1.out)).mono ?_
        rintro e w2 ⟨rfl, hb⟩
        have B2 := Lib.hid (B1.out.trans (hb.mono B1.out.size))
        rw [HE.out]
        clear hb
        go_wp2_with fail
        go_ret2
        rw [HR.out]
        exact ⟨⟨_, rfl, own_none B2.out.size⟩, B2.out.alloc B2.out.size _⟩
    · have HR := Lib.hid (leadS_no (m := m) (x := x) (fun h => h2 h.2.1))
      have HE := Lib.hid (bool_f h2)
      clear h2 h1
      go_enter Try.func27, Try.ntmps27
      go_wp2_with fail
      refine (s_hermof m _ _ HV.out).mono ?_
      rintro e w1 ⟨⟨r, rfl, ho⟩, hb⟩
      have B1 := Lib.hid hb
      obtain ⟨ra, rc, rfl, _, _⟩ := ho.rw.shape
      rw [H1.out]
      clear hb ho
      go_wp2_with fail
      refine (s_isv x _ _ (HU.out.below B1.out)).mono ?_
      rintro e w2 ⟨rfl, hb⟩
      have B2 := Lib.hid (B1.out.trans (hb.mono B1.out.size))
      rw [HE.out]
      clear hb
      go_wp2_with fail
      go_ret2
      rw [HR.out]
      exact ⟨⟨_, rfl, own_none B2.out.size⟩, B2.out.alloc B2.out.size _⟩
  · have HR := Lib.hid (leadS_no (m := m) (x := x) (fun h => h1 h.1))
    have HE := Lib.hid (bool_f h1)
    clear h1
    go_enter Try.func27, Try.ntmps27
    go_wp2_with fail
    refine (s_hermof m _ _ HV.out).mono ?_
    rintro e w1 ⟨⟨r, rfl, ho⟩, hb⟩
    have B1 := Lib.hid hb
    obtain ⟨ra, rc, rfl, _, _⟩ := ho.rw.shape
    rw [HE.out]
    clear hb ho
    go_wp2_with fail
    go_ret2
    rw [HR.out]
    exact ⟨⟨_, rfl, own_none B1.out.size⟩, B1.out.alloc B1.out.size _⟩
set_option maxRecDepth 100000 in
set_option maxHeartbeats 1600000 in
theorem s_same8 (m : List (List Int)) (x y : List Int) (v u t : Value) (w : World) (hv : Rw w v m) (hu : Sl w u (intVals x)) (ht : Sl w t (intVals y)) :
    Calls Try.prog 35 #[v, u, t] w (Quiet w (.bool (sameR m x y))) := by
  have HV := Lib.hid hv
  have HU := Lib.hid hu
  have HT := Lib.hid ht
  obtain ⟨a, ac, rfl, am, _⟩ := hv.shape
  obtain ⟨b, bc, rfl, bm, _⟩ := hu.shape
  obtain ⟨d, dc, rfl, dm, _⟩ := ht.shape
  rw [intVals_len] at bm dm HU HT ⊢
  rw [intVals_len]
  unfold maxLen at am bm dm
  clear hv hu ht
  have C1 := Lib.hid (fun W A B h k => s_clead m x A B W h k)
  have C2 := Lib.hid (fun W A B h k => s_clead m y A B W h k)
  unfold sameR
  generalize leadR m x = p at C1
  generalize leadR m y = q at C2
  obtain ⟨p1, p2⟩ := p
  obtain ⟨q1, q2⟩ := q
  simp only
  go_enter Try.func35, Try.ntmps35
  go_wp2_with fail
  refine (C1.out _ _ _ HV.out HU.out).mono ?_
  rintro e w1 ⟨⟨r, rfl, ho⟩, hb⟩
  have B1 := Lib.hid hb
  have O1 := Lib.hid ho.sl
  obtain ⟨ra, rc, rfl, _, _⟩ := ho.sl.shape
  clear hb ho
  go_wp2_with fail
  refine (C2.out _ _ _ (HV.out.below B1.out) (HT.out.below B1.out)).mono ?_
  rintro e w2 ⟨⟨r2, rfl, ho⟩, hb⟩
  have B2 := Lib.hid (B1.out.trans (hb.mono B1.out.size))
  have O2 := Lib.hid (O1.out.below hb)
  have O3 := Lib.hid ho.sl
  obtain ⟨sa, sc, rfl, _, _⟩ := ho.sl.shape
  clear hb ho
  cases p2 with
  | false =>
    go_wp2_with fail
    go_ret
    exact ⟨rfl, B2.out⟩
  | true =>
    cases q2 with
    | false =>
      go_wp2_with fail
      go_ret
      exact ⟨rfl, B2.out⟩
    | true =>
      go_wp2_with fail
      refine (s_sameP p1 q1 _ _ _ O2.out O3.out).mono ?_
      rintro e w3 ⟨rfl, hb⟩
      have B3 := Lib.hid (B2.out.trans (hb.mono B2.out.size))
      clear hb
      go_wp2_with fail
      go_ret
      exact ⟨rfl, B3.out⟩
end Go.Proofs.Yteenheidomfpkaa
