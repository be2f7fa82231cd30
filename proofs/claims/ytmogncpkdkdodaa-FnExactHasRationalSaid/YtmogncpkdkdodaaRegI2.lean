/- The program's regions: which points one has. -/
import Derived.Test.YtmogncpkdkdodaaRegI
import Derived.Test.YtmogncpkdkdodaaRegS2
namespace Go.Proofs.Ytmogncpkdkdodaa
open Go.RowKit Go.Lib

set_option maxRecDepth 100000 in
set_option maxHeartbeats 800000 in
theorem i_pointfor (r : Rgn) (x : List Int) (v a : Value) (w : World) (hv : Rg w v r) (ha : Sl w a (intVals x)) :
    Calls Try.prog 53 #[v, a] w (Quiet w (.bool (ptR r x))) := by
  have HR := Lib.hid hv
  have HX := Lib.hid ha
  obtain ⟨u, rfl, _⟩ := hv
  obtain ⟨p, c, rfl, hm, _⟩ := ha.shape
  rw [intVals_len] at hm HX ⊢
  unfold maxLen at hm
  have K := Lib.hid (Bk.new w #[.int .i64 r.1, u] 26)
  have B0 := Lib.hid (below1 w (.cells #[.int .i64 r.1, u] 26))
  clear ha
  by_cases c1 : regOk r.1 r.2 = true
  case neg =>
    have C1 := Lib.hid (bool_f c1)
    have E := Lib.hid (ptR_f1 (x := x) (bool_f c1))
    clear c1
    go_enter Try.func53, Try.ntmps53
    go_wp2_with fail
    refine (i_isreg r _ _ (HR.out.below B0.out)).mono ?_
    rintro e w1 ⟨rfl, hb⟩
    rw [C1.out]
    have B1 := Lib.hid (B0.out.trans (hb.mono B0.out.size))
    clear hb
    go_wp2_with fail
    go_ret
    exact ⟨ret_bool E.out.symm, B1.out⟩
  have C1 := Lib.hid c1
  by_cases c2 : isV x = true
  case neg =>
    have C2 := Lib.hid (bool_f c2)
    have E := Lib.hid (ptR_f2 (r := r) (bool_f c2))
    clear c1 c2
    go_enter Try.func53, Try.ntmps53
    go_wp2_with fail
    refine (i_isreg r _ _ (HR.out.below B0.out)).mono ?_
    rintro e w1 ⟨rfl, hb⟩
    rw [C1.out]
    have B1 := Lib.hid (B0.out.trans (hb.mono B0.out.size))
    clear hb
    go_wp2_with fail
    refine (i_isv x _ _ (HX.out.below B1.out)).mono ?_
    rintro e w2 ⟨rfl, hb⟩
    rw [C2.out]
    have B2 := Lib.hid (B1.out.trans (hb.mono B1.out.size))
    clear hb
    go_wp2_with fail
    go_ret
    exact ⟨ret_bool E.out.symm, B2.out⟩
  have C2 := Lib.hid c2
  have E := Lib.hid (show ptR r x = ((x.length : Int) == r.1) by unfold ptR; rw [c1, c2]; rfl)
  clear c1 c2
  go_enter Try.func53, Try.ntmps53
  go_wp2_with fail
  refine (i_isreg r _ _ (HR.out.below B0.out)).mono ?_
  rintro e w1 ⟨rfl, hb⟩
  rw [C1.out]
  have B1 := Lib.hid (B0.out.trans (hb.mono B0.out.size))
  have K1 := Lib.hid (K.out.below hb)
  clear hb
  go_wp2_with fail
  refine (i_isv x _ _ (HX.out.below B1.out)).mono ?_
  rintro e w2 ⟨rfl, hb⟩
  rw [C2.out]
  have B2 := Lib.hid (B1.out.trans (hb.mono B1.out.size))
  obtain ⟨⟨l0, -⟩, -⟩ := (K1.out.below hb).two
  clear hb
  go_wp2_with fail
  go_ret
  exact ⟨ret_bool E.out.symm, B2.out⟩

theorem dotR_half {r : Rgn} {x : List Int} (h : ptR r x = true) (k : Nat) (hk : k < r.2.length) : dotR r.2[k].1 x = dotL r.2[k].1 x := by
  obtain ⟨h1, h2, h3⟩ := ptR_t h
  obtain ⟨a1, a2, a3, a4, _⟩ := halfOk_t ((regOk_t h1).2.2.2 k hk)
  refine if_pos ⟨?_, h2, by omega⟩
  rw [isV_mk (by omega) (by omega)]
  exact small_mk fun i hi => ⟨by have := (a4 i hi).1; omega, by have := (a4 i hi).2; omega⟩

set_option maxRecDepth 100000 in
set_option maxHeartbeats 1600000 in
theorem i_hasp (r : Rgn) (x : List Int) (v a : Value) (w : World) (hv : Rg w v r) (ha : Sl w a (intVals x)) :
    Calls Try.prog 26 #[v, a] w (Quiet w (.bool (hasP r.1 r.2 x))) := by
  obtain ⟨n, hs'⟩ := r
  have HR := Lib.hid hv
  have HX0 := Lib.hid ha
  obtain ⟨u, rfl, hss⟩ := hv
  simp only at hss ⊢
  have HV := Lib.hid hss
  obtain ⟨p, c, rfl, hm⟩ := hss.shape
  unfold maxLen at hm
  have K := Lib.hid (Bk.new w #[.int .i64 n, .slice p hs'.length c] 26)
  have B0 := Lib.hid (below1 w (.cells #[.int .i64 n, .slice p hs'.length c] 26))
  clear hss ha
  by_cases hp : ptR (n, hs') x = true
  case neg =>
    have C1 := Lib.hid (bool_f hp)
    have E := Lib.hid (hasP_f (bool_f hp))
    clear hp
    go_enter Try.func26, Try.ntmps26
    go_wp2_with fail
    refine (i_pointfor (n, hs') x _ _ _ (HR.out.below B0.out) (HX0.out.below B0.out)).mono ?_
    rintro e w1 ⟨rfl, hb⟩
    rw [C1.out]
    have B1 := Lib.hid (B0.out.trans (hb.mono B0.out.size))
    clear hb
    go_wp2_with fail
    go_ret
    exact ⟨ret_bool E.out.symm, B1.out⟩
  have C1 := Lib.hid hp
  have HD := Lib.hid (dotR_half hp)
  have E := Lib.hid (hasP_t hp)
  simp only at HD E
  clear hp
  go_enter Try.func26, Try.ntmps26
  go_wp2_with fail
  refine (i_pointfor (n, hs') x _ _ _ (HR.out.below B0.out) (HX0.out.below B0.out)).mono ?_
  rintro e w1 ⟨rfl, hb⟩
  rw [C1.out]
  have B1 := Lib.hid (B0.out.trans (hb.mono B0.out.size))
  obtain ⟨⟨-, l1⟩, -⟩ := (K.out.below hb).two
  clear hb
  go_wp2
  clear l1
  go_loopw [14] (fun i wr => ∃ k : Nat, k ≤ hs'.length ∧ i = .int .i64 k ∧ hasL (hs'.take k) x = true ∧ Below w1.heap.size w1 wr) (fun i _ => hs'.length - (RowKit.intOf i).toNat)
  case atStart => exact ⟨0, Nat.zero_le _, rfl, rfl, Below.refl _ _⟩
  case round =>
    obtain ⟨k, hk, rfl, ht, hbr⟩ := hrel
    have HT := Lib.hid ht
    have HA := Lib.hid (B1.out.trans (hbr.mono B1.out.size))
    have HBr := Lib.hid hbr
    clear ht hbr
    by_cases hlt : k < hs'.length
    · obtain ⟨b, off, y, rfl, _, hb2, hcell, hcell1, hsx⟩ := HV.out.half k hlt rfl
      rw [← HA.out.cell (p := ⟨b, off + k * 2, none⟩) hb2] at hcell
      rw [← HA.out.cell (p := ⟨b, off + k * 2 + 1, none⟩) hb2] at hcell1
      have HX := Lib.hid hsx
      obtain ⟨xa, xc, rfl, _, _⟩ := hsx.shape
      have hnb := below1 wr (.cells #[.slice xa (intVals hs'[k].1).length xc, .int .i64 hs'[k].2] 48)
      have HN := Lib.hid (HA.out.trans (hnb.mono HA.out.size))
      have KH := Lib.hid (Bk.new wr #[.slice xa (intVals hs'[k].1).length xc, .int .i64 hs'[k].2] 48)
      obtain ⟨⟨m0, m1⟩, -⟩ := KH.out.two
      have hbl := KH.out.lt
      have hM := HN.out
      have HB1 := Lib.hid (HBr.out.trans (hnb.mono HBr.out.size))
      clear hsx hnb
      obtain ⟨q, hq⟩ : ∃ q : Int, dotR hs'[k].1 x = q := ⟨_, rfl⟩
      have HQ := Lib.hid hq
      have HQ2 := Lib.hid ((HD.out k hlt).symm.trans hq)
      clear hq
      go_wp2_with fail
      go_region_held3 (fun w' => w'.cell? ⟨wr.heap.size, 0, none⟩ = some (.slice xa (intVals hs'[k].1).length xc) ∧ w'.cell? ⟨wr.heap.size, 1, none⟩ = some (.int .i64 hs'[k].2) ∧ Below (wr.alloc (.cells #[.slice xa (intVals hs'[k].1).length xc, .int .i64 hs'[k].2] 48)).heap.size (wr.alloc (.cells #[.slice xa (intVals hs'[k].1).length xc, .int .i64 hs'[k].2] 48)) w')
        (first
          | with_reducible exact keepF m0 m1 (Below.refl _ _)
          | (go_split_ands; with_reducible exact keepE hbl hbl (by assumption) (by assumption) (by assumption) (by assumption))
          | go_keep)
        (first | (go_at_call 71; refine (i_dotof hs'[k].1 x _ _ _ (HX.out.below HN.out.drew) (HX0.out.below HN.out.drew)).mono ?_; rintro e w2 ⟨rfl, hb1⟩; rw [HQ.out]))
      rename_i hH
      have HB2 := Lib.hid (HB1.out.trans (hH.2.2.mono HB1.out.size))
      clear hH m0 m1 hcell hcell1
      have HA1 := Lib.hid (B1.out.trans (HB2.out.mono B1.out.size))
      by_cases hd : q ≤ hs'[k].2
      · have hd2 : ¬ hs'[k].2 < q := by omega
        go_wp2
        exact ⟨⟨k + 1, by omega, by go_num, all_take' hlt HT.out (by rw [decide_eq_true_eq, HQ2.out]; exact hd), HB2.out⟩, by simp [RowKit.intOf]; omega⟩
      · have hd2 : hs'[k].2 < q := by omega
        go_wp2
        go_ret
        exact ⟨ret_bool (E.out.trans (all_not' hlt (by rw [decide_eq_false_iff_not, HQ2.out]; omega))).symm, HA1.out⟩
    · obtain rfl : k = hs'.length := by omega
      have E2 := Lib.hid (show hasL hs' x = true by have h := HT.out; rw [List.take_length] at h; exact h)
      go_wp2
      go_ret
      exact ⟨ret_bool (E.out.trans E2.out).symm, HA.out⟩
end Go.Proofs.Ytmogncpkdkdodaa
