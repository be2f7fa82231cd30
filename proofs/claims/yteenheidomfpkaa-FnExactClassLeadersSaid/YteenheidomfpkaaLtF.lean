/- The program's ClassLeaders. -/
import Derived.Test.YteenheidomfpkaaLtD
import Derived.Test.YteenheidomfpkaaLtI
namespace Go.Proofs.Yteenheidomfpkaa
open Go Go.RowKit Go.Lib

theorem OwE.rd3 {lo hi : Nat} {w : World} {v : Value} {l : List T3} (h : Ow3 lo hi w v l) : Rd3 w v l := by
  obtain ⟨a, c, rfl, h1, h2⟩ := h.shape
  refine ⟨a, c, rfl, h1, h2, fun j hj => ?_⟩
  obtain ⟨b, rfl, _, _, _, hb, _, hc, _⟩ := OwE.at enc3_len h j hj (by omega) rfl
  refine ⟨b, 0, rfl, hb, ?_, ?_, ?_⟩
  · have := hc 0 (by omega); rw [Nat.zero_add]; exact this
  · have := hc 1 (by omega); rw [Nat.zero_add]; exact this
  · have := hc 2 (by omega); rw [Nat.zero_add]; exact this
theorem i_vecsn (l : List T3) (n : Nat) (h1 : 1 ≤ n) (h3 : n ≤ 3) (hlen : l.length ≤ 1048576) (v : Value) (w : World) (hv : Rd3 w v l) :
    Calls Try.prog 58 #[v, .int .i64 n] w (MadeR w (cutT n l)) := by
  match n, h1, h3 with
  | 1, _, _ => exact i_vecs1 l hlen v w hv
  | 2, _, _ => exact i_vecs2 l hlen v w hv
  | 3, _, _ => exact i_vecs3 l hlen v w hv
theorem box_size {h : H6} (k : h.Ok) : (((boxT h).length : Nat) : Int) = h.d0 * h.d1 * h.d2 := by
  have p0 := k.p0; have p1 := k.p1; have p2 := k.p2
  rw [boxT_len]
  simp only [Int.natCast_mul]
  rw [Int.toNat_of_nonneg (by omega), Int.toNat_of_nonneg (by omega), Int.toNat_of_nonneg (by omega), Int.mul_assoc]
theorem leadersR_no {m : List (List Int)} (h : ¬ ((hermR m).2 = true ∧ indexR m ≤ 500)) : leadersR m = [] := if_neg h
theorem madeR_of {w : World} {r r' : List (List Int)} {e : Ending} {w' : World} (h : r' = r) (g : MadeR w r e w') : MadeR w r' e w' := by subst h; exact g
set_option maxRecDepth 100000 in
set_option maxHeartbeats 1600000 in
theorem i_leaders8 (m : List (List Int)) (v : Value) (w : World) (hv : Rw w v m) :
    Calls Try.prog 34 #[v] w (MadeR w (leadersR m)) := by
  have HV := Lib.hid hv
  obtain ⟨a, ac, rfl, am, _⟩ := hv.shape
  unfold maxLen at am
  clear hv
  by_cases h1 : (hermR m).2 = true
  · have H1 := Lib.hid h1
    have CF := Lib.hid (show ∀ W A, Rw W A m → Calls Try.prog 20 #[A] W (GotR W (hermL m, true)) from fun W A hW => by have h0 := i_hermof m A W hW; rwa [show hermR m = (hermL m, true) from Prod.ext (herm_mat h1).2.2 h1] at h0)
    by_cases h2 : indexR m ≤ 500
    · obtain ⟨hd, hm2, hl2⟩ := herm_mat h1
      obtain ⟨h, n1, n3, hp, _, ok, hix, hlen, _⟩ := herm_pad6 hd
      have sm := sm_of hm2 ok hp
      have hcn : (boxT h).length ≤ 500 := by have := box_size ok; omega
      have HR := Lib.hid (show leadersR m = cutT m.length (boxT h) from ((if_pos ⟨h1, h2⟩).trans (by rw [hl2])).trans (box_cut hd hp).symm)
      have CG := Lib.hid (fun W A hW => i_gridof (m := hermL m) (n := m.length) (M := 100) n1 n3 (by rw [← hlen]; exact isM_sq hm2) hp A W hW)
      have CL := Lib.hid (fun W => i_leaders h ok sm (by omega) W)
      have CV := Lib.hid (fun A W hA => i_vecsn (boxT h) m.length n1 n3 (by omega) A W hA)
      have hgt : (decide (500 < indexR m)) = false := decide_eq_false (by omega)
      unfold gridV at CL
      clear hd hm2 hl2 hp ok hix hlen sm hcn h1 h2
      have CI := Lib.hid (fun A W hA => i_index8 m A W hA)
      generalize indexR m = ix at CI hgt
      have HG := Lib.hid hgt
      have hle : ix ≤ 500 := by simpa using hgt
      clear hgt
      go_enter Try.func34, Try.ntmps34
      go_wp2_with fail
      refine (CF.out _ _ HV.out).mono ?_
      rintro e w1 ⟨⟨r, rfl, ho⟩, hb⟩
      have B1 := Lib.hid hb
      have O1 := Lib.hid ho.rw
      obtain ⟨ra, rc, rfl, _, _⟩ := ho.rw.shape
      clear hb ho
      go_wp2_with fail
      refine (CI.out _ _ (HV.out.below B1.out)).mono ?_
      rintro e w2 ⟨rfl, hb⟩
      have B2 := Lib.hid (B1.out.trans (hb.mono B1.out.size))
      have O2 := Lib.hid (O1.out.below hb)
      clear hb
      go_wp2_with fail
      refine (CG.out _ _ O2.out).mono ?_
      rintro e w3 ⟨rfl, hb⟩
      have B3 := Lib.hid (B2.out.trans (hb.mono B2.out.size))
      clear hb
      go_wp2_with fail
      refine (CL.out _).mono ?_
      rintro e w4 ⟨u, rfl, ho, hb⟩
      have B4 := Lib.hid (B3.out.trans (hb.mono B3.out.size))
      have O4 := Lib.hid ho.rd3
      obtain ⟨ua, uc, rfl, _, _⟩ := ho.rd3
      clear hb ho
      go_wp2_with fail
      refine (CV.out _ _ O4.out).mono ?_
      rintro e w5 ⟨⟨q, rfl, ho⟩, hb⟩
      have B5 := Lib.hid (B4.out.trans (hb.mono B4.out.size))
      have O5 := Lib.hid (ho.mono (lo' := w.heap.size) B4.out.size (Nat.le_refl _))
      clear hb ho
      go_wp2_with fail
      go_ret
      rw [HR.out]
      exact ⟨⟨_, rfl, O5.out⟩, B5.out⟩
    · have HR := Lib.hid (leadersR_no (fun h => h2 h.2))
      have CI := Lib.hid (fun A W hA => i_index8 m A W hA)
      clear h1
      generalize indexR m = ix at CI h2
      have hle : 500 < ix := by omega
      clear h2
      go_enter Try.func34, Try.ntmps34
      go_wp2_with fail
      refine (CF.out _ _ HV.out).mono ?_
      rintro e w1 ⟨⟨r, rfl, ho⟩, hb⟩
      have B1 := Lib.hid hb
      obtain ⟨ra, rc, rfl, _, _⟩ := ho.rw.shape
      clear hb ho
      go_wp2_with fail
      refine (CI.out _ _ (HV.out.below B1.out)).mono ?_
      rintro e w2 ⟨rfl, hb⟩
      have B2 := Lib.hid (B1.out.trans (hb.mono B1.out.size))
      clear hb
      go_wp2_with fail
      go_ret
      rw [HR.out]
      exact ⟨⟨_, rfl, OwR.nil⟩, B2.out⟩
  · have HR := Lib.hid (leadersR_no (fun h => h1 h.1))
    have HE := Lib.hid (bool_f h1)
    clear h1
    go_enter Try.func34, Try.ntmps34
    go_wp2_with fail
    refine (i_hermof m _ _ HV.out).mono ?_
    rintro e w1 ⟨⟨r, rfl, ho⟩, hb⟩
    have B1 := Lib.hid hb
    obtain ⟨ra, rc, rfl, _, _⟩ := ho.rw.shape
    rw [HE.out]
    clear hb ho
    go_wp2_with fail
    go_ret
    rw [HR.out]
    exact ⟨⟨_, rfl, OwR.nil⟩, B1.out⟩
end Go.Proofs.Yteenheidomfpkaa
