/- The program's LatticeIndex, ClassLeader, SameClass. -/
import Derived.Test.YteenheidomfpkaaMbc
import Derived.Test.YteenheidomfpkaaMaq
import Derived.Test.YteenheidomfpkaaMbe
import Derived.Test.YteenheidomfpkaaVecJ
import Derived.Test.YteenheidomfpkaaMag
import Derived.Test.YteenheidomfpkaaMah
namespace Go.Proofs.Yteenheidomfpkaa
open Go Go.RowKit Go.Lib

set_option maxRecDepth 100000 in
set_option maxHeartbeats 800000 in
theorem i_index8 (m : List (List Int)) (v : Value) (w : World) (hv : Rw w v m) :
    Calls Try.prog 26 #[v] w (Quiet w (.int .i64 (indexR m))) := by
  have HV := Lib.hid hv
  obtain ⟨v, cc, rfl, _, _⟩ := hv.shape
  clear hv
  have hb := detR_bd m
  unfold indexR
  have CD := Lib.hid (fun W h => i_detof m (.slice v m.length cc) W h)
  generalize detR m = d at hb CD
  obtain ⟨b1, b2⟩ := hb
  have hn : IntKind.i64.wrap (-d) = -d := IntWalk.i64_in _ (by omega)
  have HE := Lib.hid (show max d (-d) = (d.natAbs : Int) by omega)
  go_enter Try.func26, Try.ntmps26
  go_wp2_with fail
  refine (CD.out _ HV.out).mono ?_
  rintro e w1 ⟨rfl, hb⟩
  have HB := Lib.hid hb
  clear hb
  by_cases h : -d ≤ d
  · have E := Lib.hid (show (d.natAbs : Int) = d by omega)
    go_wp2
    go_ret
    exact ⟨by rw [E.out]; rfl, HB.out⟩
  · have E := Lib.hid (show (d.natAbs : Int) = -d by omega)
    go_wp2
    go_ret
    exact ⟨by rw [E.out]; rfl, HB.out⟩
theorem splice_pad {x : List Int} (h1 : 1 ≤ x.length) (h3 : x.length ≤ 3) : splice [Value.int .i64 0, .int .i64 0, .int .i64 0] 0 (intVals x) = [.int .i64 (padV x).1, .int .i64 (padV x).2.1, .int .i64 (padV x).2.2] := by
  match x, h1, h3 with
  | [a], _, _ => rfl
  | [a, b], _, _ => rfl
  | [a, b, c], _, _ => rfl
theorem pad_small {x : List Int} (h : isV x = true) : (-1000 ≤ (padV x).1 ∧ (padV x).1 ≤ 1000) ∧ (-1000 ≤ (padV x).2.1 ∧ (padV x).2.1 ≤ 1000) ∧ (-1000 ≤ (padV x).2.2 ∧ (padV x).2.2 ≤ 1000) := by
  unfold isV at h
  rw [Bool.and_eq_true] at h
  have hb := small_bd h.2
  have g : ∀ k, -1000 ≤ x.getD k 0 ∧ x.getD k 0 ≤ 1000 := fun k => by
    by_cases hk : k < x.length
    · rw [List.getD_eq_getElem?_getD, List.getElem?_eq_getElem hk]; exact hb k hk
    · rw [List.getD_eq_getElem?_getD, List.getElem?_eq_none (by omega)]; simp
  exact ⟨g 0, g 1, g 2⟩
theorem sm_of {m : List (List Int)} (hm : isM m = true) {h : H6} (_k : h.Ok) (hp : padM m = h.rows) : h.Sm := by
  have hq := pad_sq (by omega) (isM_t hm).1 (isM_t hm).2.1 (isM_sq hm)
  rw [hp] at hq
  have q0 := (hq.2 0 (by simp [H6.rows])).2 0 (by simp [H6.rows])
  have q1 := (hq.2 1 (by simp [H6.rows])).2 1 (by simp [H6.rows])
  have q2 := (hq.2 2 (by simp [H6.rows])).2 2 (by simp [H6.rows])
  simp [H6.rows] at q0 q1 q2
  exact ⟨by omega, by omega, by omega⟩
theorem isV_cut {t : T3} {n : Nat} (h1 : 1 ≤ n) (h3 : n ≤ 3) (hx : 0 ≤ t.1 ∧ t.1 ≤ 500) (hy : 0 ≤ t.2.1 ∧ t.2.1 ≤ 500) (hz : 0 ≤ t.2.2 ∧ t.2.2 ≤ 500) : isV ((rowT t).take n) = true := by
  obtain ⟨x, y, z⟩ := t
  simp only at hx hy hz
  match n, h1, h3 with
  | 1, _, _ => simp [isV, rowT, inR, small]; omega
  | 2, _, _ => simp [isV, rowT, inR, small]; omega
  | 3, _, _ => simp [isV, rowT, inR, small]; omega
theorem leadR_no {m : List (List Int)} {x : List Int} (h : ¬ ((hermR m).2 = true ∧ isV x = true ∧ x.length = m.length)) : leadR m x = ([], false) := if_neg h
theorem got_mk {w : World} {r r' : List Int × Bool} {e : Ending} {w' : World} (h : r' = r) (g : Got w r e w') : Got w r' e w' := by subst h; exact g
set_option maxRecDepth 100000 in
set_option maxHeartbeats 1600000 in
theorem i_clead (m : List (List Int)) (x : List Int) (v u : Value) (w : World) (hv : Rw w v m) (hu : Sl w u (intVals x)) :
    Calls Try.prog 29 #[v, u] w (Got w (leadR m x)) := by
  have HV := Lib.hid hv
  have HU := Lib.hid hu
  obtain ⟨a, ac, rfl, am, _⟩ := hv.shape
  obtain ⟨b, bc, rfl, bm, _⟩ := hu.shape
  rw [intVals_len] at bm HU ⊢
  unfold maxLen at am bm
  clear hv hu
  by_cases h1 : (hermR m).2 = true
  · obtain ⟨hd, hm2, hl2⟩ := herm_mat h1
    obtain ⟨h, n1, n3, hp, _, ok, _, hlen, _⟩ := herm_pad6 hd
    have sm := sm_of hm2 ok hp
    have H1 := Lib.hid h1
    have HL := Lib.hid hl2
    by_cases h2 : isV x = true
    · by_cases h3 : x.length = m.length
      · have HR := Lib.hid (show leadR m x = (leadL (hermL m) x, true) from (if_pos ⟨h1, h2, h3⟩).trans (by rw [hl2]))
        have CR := (lead_cut hd hp h3).1
        have HE := Lib.hid h2
        have hx1 : 1 ≤ x.length := by omega
        have hx3 : x.length ≤ 3 := by omega
        have ps := pad_small h2
        have CN := Lib.hid (fun W A hW => i_num x _ _ _ (splice_pad hx1 hx3) hx1 hx3 A W hW)
        have CG := Lib.hid (fun W A hW => i_gridof (m := hermL m) (n := m.length) (M := 100) n1 n3 (by rw [← hlen]; exact isM_sq hm2) hp A W hW)
        have CL := Lib.hid (fun W => i_leader h ok sm (padV x) (by omega) (by omega) (by omega) W)
        have hin := lead_in ok (padV x)
        have hbd := lead_bd sm hin
        have CV := Lib.hid (fun W => i_vecof (leadT h (padV x)).1 (leadT h (padV x)).2.1 (leadT h (padV x)).2.2 x.length hx1 hx3 W)
        have hcut := isV_cut (n := m.length) n1 n3 hbd.1 hbd.2.1 hbd.2.2
        have HC := Lib.hid (show vecR ([(leadT h (padV x)).1, (leadT h (padV x)).2.1, (leadT h (padV x)).2.2].take x.length) = leadR m x by
          rw [HR.out, ← CR, h3]
          exact if_pos hcut)
        have CF := Lib.hid (show ∀ W A, Rw W A m → Calls Try.prog 20 #[A] W (GotR W (hermL m, true)) from fun W A hW => by have h0 := i_hermof m A W hW; rwa [show hermR m = (hermL m, true) from Prod.ext hl2 h1] at h0)
        have HZ := Lib.hid h3
        have HLN := Lib.hid hlen
        have hne : ((x.length : Int) != (m.length : Int)) = false := by rw [h3]; simp
        clear ps hbd hcut hin CR h2 h1 hm2 hl2 hp hd ok sm h3 hlen
        have hg : gridV h = .agg #[.int .i64 h.d0, .int .i64 h.a, .int .i64 h.b, .int .i64 0, .int .i64 h.d1, .int .i64 h.c, .int .i64 0, .int .i64 0, .int .i64 h.d2] := rfl
        rw [hg] at CL
        unfold encV at CL
        clear hg
        generalize padV x = t at CN CL CV HC
        generalize leadT h t = l at CL CV HC
        obtain ⟨t0, t1, t2⟩ := t
        obtain ⟨l0, l1, l2⟩ := l
        simp only at CN CL CV HC
        go_enter Try.func29, Try.ntmps29
        go_wp2_with fail
        refine (CF.out _ _ HV.out).mono ?_
        rintro e w1 ⟨⟨r, rfl, ho⟩, hb⟩
        have B1 := Lib.hid hb
        have O1 := Lib.hid ho.rw
        obtain ⟨ra, rc, rfl, _, _⟩ := ho.rw.shape
        clear hb ho
        go_wp2_with fail
        refine (i_isv x _ _ (HU.out.below B1.out)).mono ?_
        rintro e w2 ⟨rfl, hb⟩
        have B2 := Lib.hid (B1.out.trans (hb.mono B1.out.size))
        have O2 := Lib.hid (O1.out.below hb)
        rw [HE.out]
        clear hb
        go_wp2_with fail
        refine (CG.out _ _ O2.out).mono ?_
        rintro e w3 ⟨rfl, hb⟩
        have B3 := Lib.hid (B2.out.trans (hb.mono B2.out.size))
        clear hb
        go_wp2_with fail
        refine (CN.out _ _ (HU.out.below B3.out)).mono ?_
        rintro e w4 ⟨rfl, hb⟩
        have B4 := Lib.hid (B3.out.trans (hb.mono B3.out.size))
        clear hb
        go_wp2_with fail
        refine (CL.out _).mono ?_
        rintro e w5 ⟨rfl, hb⟩
        have B5 := Lib.hid (B4.out.trans (hb.mono B4.out.size))
        clear hb
        go_wp2_with fail
        refine (CV.out _).mono ?_
        rintro e w6 ⟨⟨q, rfl, ho⟩, hb⟩
        rw [HC.out] at ho ⊢
        have B6 := Lib.hid (B5.out.trans (hb.mono B5.out.size))
        have O6 := Lib.hid (ho.mono (lo' := w.heap.size) B5.out.size (Nat.le_refl _))
        clear hb ho
        go_wp2_with fail
        go_ret2
        exact ⟨⟨_, rfl, O6.out⟩, B6.out⟩
      · have HR := Lib.hid (leadR_no (m := m) (x := x) (fun h => h3 h.2.2))
        have HE := Lib.hid h2
        have hne : ((x.length : Int) != (m.length : Int)) = true := by simp; omega
        clear h3 h2 h1 hm2 hd hp ok sm hlen hl2 n1 n3
        go_enter Try.func29, Try.ntmps29
        go_wp2_with fail
        refine (i_hermof m _ _ HV.out).mono ?_
        rintro e w1 ⟨⟨r, rfl, ho⟩, hb⟩
        have B1 := Lib.hid hb
        obtain ⟨ra, rc, rfl, _, _⟩ := ho.rw.shape
        rw [H1.out]
        clear hb ho
        go_wp2_with fail
        refine (i_isv x _ _ (HU.out.below B1.out)).mono ?_
        rintro e w2 ⟨rfl, hb⟩
        have B2 := Lib.hid (B1.out.trans (hb.mono B1.out.size))
        rw [HE.out]
        clear hb
        go_wp2_with fail
        go_ret2
        rw [HR.out]
        exact ⟨⟨_, rfl, OwnV.nil⟩, B2.out⟩
    · have HR := Lib.hid (leadR_no (m := m) (x := x) (fun h => h2 h.2.1))
      have HE := Lib.hid (bool_f h2)
      clear h2 h1 hm2 hd hp ok sm hlen hl2 n1 n3
      go_enter Try.func29, Try.ntmps29
      go_wp2_with fail
      refine (i_hermof m _ _ HV.out).mono ?_
      rintro e w1 ⟨⟨r, rfl, ho⟩, hb⟩
      have B1 := Lib.hid hb
      obtain ⟨ra, rc, rfl, _, _⟩ := ho.rw.shape
      rw [H1.out]
      clear hb ho
      go_wp2_with fail
      refine (i_isv x _ _ (HU.out.below B1.out)).mono ?_
      rintro e w2 ⟨rfl, hb⟩
      have B2 := Lib.hid (B1.out.trans (hb.mono B1.out.size))
      rw [HE.out]
      clear hb
      go_wp2_with fail
      go_ret2
      rw [HR.out]
      exact ⟨⟨_, rfl, OwnV.nil⟩, B2.out⟩
  · have HR := Lib.hid (leadR_no (m := m) (x := x) (fun h => h1 h.1))
    have HE := Lib.hid (bool_f h1)
    clear h1
    go_enter Try.func29, Try.ntmps29
    go_wp2_with fail
    refine (i_hermof m _ _ HV.out).mono ?_
    rintro e w1 ⟨⟨r, rfl, ho⟩, hb⟩
    have B1 := Lib.hid hb
    obtain ⟨ra, rc, rfl, _, _⟩ := ho.rw.shape
    rw [HE.out]
    clear hb ho
    go_wp2_with fail
    go_ret2
    rw [HR.out]
    exact ⟨⟨_, rfl, OwnV.nil⟩, B1.out⟩
set_option maxRecDepth 100000 in
set_option maxHeartbeats 1600000 in
theorem i_same8 (m : List (List Int)) (x y : List Int) (v u t : Value) (w : World) (hv : Rw w v m) (hu : Sl w u (intVals x)) (ht : Sl w t (intVals y)) :
    Calls Try.prog 36 #[v, u, t] w (Quiet w (.bool (sameR m x y))) := by
  have HV := Lib.hid hv
  have HU := Lib.hid hu
  have HT := Lib.hid ht
  obtain ⟨a, ac, rfl, am, _⟩ := hv.shape
  obtain ⟨b, bc, rfl, bm, _⟩ := hu.shape
  obtain ⟨d, dc, rfl, dm, _⟩ := ht.shape
  rw [intVals_len] at bm dm HU HT ⊢
  rw [intVals_len]
  unfold maxLen at am bm dm
  clear hv hu ht
  have C1 := Lib.hid (fun W A B h k => i_clead m x A B W h k)
  have C2 := Lib.hid (fun W A B h k => i_clead m y A B W h k)
  unfold sameR
  generalize leadR m x = p at C1
  generalize leadR m y = q at C2
  obtain ⟨p1, p2⟩ := p
  obtain ⟨q1, q2⟩ := q
  simp only
  go_enter Try.func36, Try.ntmps36
  go_wp2_with fail
  refine (C1.out _ _ _ HV.out HU.out).mono ?_
  rintro e w1 ⟨⟨r, rfl, ho⟩, hb⟩
  have B1 := Lib.hid hb
  have O1 := Lib.hid ho.sl
  obtain ⟨ra, rc, rfl, _, _⟩ := ho.sl.shape
  clear hb ho
  go_wp2_with fail
  refine (C2.out _ _ _ (HV.out.below B1.out) (HT.out.below B1.out)).mono ?_
  rintro e w2 ⟨⟨r2, rfl, ho⟩, hb⟩
  have B2 := Lib.hid (B1.out.trans (hb.mono B1.out.size))
  have O2 := Lib.hid (O1.out.below hb)
  have O3 := Lib.hid ho.sl
  obtain ⟨sa, sc, rfl, _, _⟩ := ho.sl.shape
  clear hb ho
  cases p2 with
  | false =>
    go_wp2_with fail
    go_ret
    exact ⟨rfl, B2.out⟩
  | true =>
    cases q2 with
    | false =>
      go_wp2_with fail
      go_ret
      exact ⟨rfl, B2.out⟩
    | true =>
      go_wp2_with fail
      refine (i_sameP p1 q1 _ _ _ O2.out O3.out).mono ?_
      rintro e w3 ⟨rfl, hb⟩
      have B3 := Lib.hid (B2.out.trans (hb.mono B2.out.size))
      clear hb
      go_wp2_with fail
      go_ret
      exact ⟨rfl, B3.out⟩
end Go.Proofs.Yteenheidomfpkaa
