/- The model's halves and regions: what is one, which points it has. -/
import Derived.Test.YtmogncpkdkdodaaDoorVecU
import Derived.Test.YtmogncpkdkdodaaDoorHfA
import Derived.Test.YtmogncpkdkdodaaDoorBk
import Derived.Test.YtmogncpkdkdodaaDoorHfEq
namespace Go.Proofs.YtmogncpkdkdodaaDoor
open Go.RowKit Go.Lib

theorem halfOk_f1 {n : Int} {h : Hf} (c : inR n 1 3 = false) : halfOk n h = false := by unfold halfOk; rw [c]; rfl
theorem halfOk_f2 {n : Int} {h : Hf} (c : ¬ (h.1.length : Int) = n) : halfOk n h = false := by unfold halfOk; rw [decide_eq_false c]; simp
theorem halfOk_f3 {n : Int} {h : Hf} (c : small h.1 20 = false) : halfOk n h = false := by unfold halfOk; rw [c]; simp
theorem halfOk_f4 {n : Int} {h : Hf} (c : ¬ 0 < allG h.1) : halfOk n h = false := by unfold halfOk; rw [decide_eq_false c]; simp
theorem halfOk_e {n : Int} {h : Hf} (c1 : inR n 1 3 = true) (c2 : (h.1.length : Int) = n) (c3 : small h.1 20 = true) (c4 : 0 < allG h.1) : halfOk n h = inR h.2 (-200) 200 := by
  unfold halfOk; rw [c1, c3, decide_eq_true c2, decide_eq_true c4]; rfl

set_option maxRecDepth 100000 in
set_option maxHeartbeats 800000 in
theorem s_ishalf (n : Int) (h : Hf) (v : Value) (w : World) (hv : Hv w v h) :
    Calls Tryd.prog 107 #[.int .i64 n, v] w (Quiet w (.bool (halfOk n h))) := by
  obtain ⟨u, rfl, hs⟩ := hv
  have HS := Lib.hid hs
  obtain ⟨a, c, rfl, hm, _⟩ := hs.shape
  rw [intVals_len] at hm HS ⊢
  unfold maxLen at hm
  have K := Lib.hid (Bk.new w #[.slice a h.1.length c, .int .i64 h.2] 105)
  have B0 := Lib.hid (below1 w (.cells #[.slice a h.1.length c, .int .i64 h.2] 105))
  clear hs
  by_cases c1 : inR n 1 3 = true
  · have C1 := Lib.hid c1
    by_cases c2 : (h.1.length : Int) = n
    · subst c2
      by_cases c3 : small h.1 20 = true
      · have C3 := Lib.hid c3
        have BD := Lib.hid (small_bd c3)
        by_cases c4 : 0 < allG h.1
        · have E := Lib.hid (halfOk_e (h := h) c1 rfl c3 c4)
          clear c1 c3
          go_enter Tryd.func107, Tryd.ntmps107
          go_wp2_with fail
          refine (s_in _ _ _ _).mono ?_
          rintro e w1 ⟨rfl, rfl⟩
          rw [C1.out]
          go_wp2_with fail
          refine (s_small h.1 20 (by omega) (by omega) _ _ (HS.out.below B0.out)).mono ?_
          rintro e w1 ⟨rfl, hb⟩
          rw [C3.out]
          have K1 := Lib.hid (K.out.below hb)
          have B1 := Lib.hid (B0.out.trans (hb.mono B0.out.size))
          clear hb
          obtain ⟨⟨l0, _⟩, -⟩ := K1.out.two
          go_wp2_with fail
          refine (s_all h.1 20 (by omega) (by omega) BD.out _ _ (HS.out.below B1.out)).mono ?_
          rintro e w2 ⟨rfl, hb⟩
          have K2 := Lib.hid (K1.out.below hb)
          have B2 := Lib.hid (B1.out.trans (hb.mono B1.out.size))
          clear hb l0
          obtain ⟨⟨_, l1⟩, -⟩ := K2.out.two
          go_wp2_with fail
          refine (s_in _ _ _ _).mono ?_
          rintro e w3 ⟨rfl, rfl⟩
          go_wp2_with fail
          go_ret
          exact ⟨ret_bool E.out.symm, B2.out⟩
        · have E := Lib.hid (halfOk_f4 (n := h.1.length) (h := h) c4)
          clear c1 c3
          go_enter Tryd.func107, Tryd.ntmps107
          go_wp2_with fail
          refine (s_in _ _ _ _).mono ?_
          rintro e w1 ⟨rfl, rfl⟩
          rw [C1.out]
          go_wp2_with fail
          refine (s_small h.1 20 (by omega) (by omega) _ _ (HS.out.below B0.out)).mono ?_
          rintro e w1 ⟨rfl, hb⟩
          rw [C3.out]
          have K1 := Lib.hid (K.out.below hb)
          have B1 := Lib.hid (B0.out.trans (hb.mono B0.out.size))
          clear hb
          obtain ⟨⟨l0, _⟩, -⟩ := K1.out.two
          go_wp2_with fail
          refine (s_all h.1 20 (by omega) (by omega) BD.out _ _ (HS.out.below B1.out)).mono ?_
          rintro e w2 ⟨rfl, hb⟩
          have B2 := Lib.hid (B1.out.trans (hb.mono B1.out.size))
          clear hb l0
          go_wp2_with fail
          go_ret
          exact ⟨ret_bool E.out.symm, B2.out⟩
      · have C3 := Lib.hid (bool_f c3)
        have E := Lib.hid (halfOk_f3 (n := h.1.length) (h := h) (bool_f c3))
        clear c1 c3
        go_enter Tryd.func107, Tryd.ntmps107
        go_wp2_with fail
        refine (s_in _ _ _ _).mono ?_
        rintro e w1 ⟨rfl, rfl⟩
        rw [C1.out]
        go_wp2_with fail
        refine (s_small h.1 20 (by omega) (by omega) _ _ (HS.out.below B0.out)).mono ?_
        rintro e w1 ⟨rfl, hb⟩
        rw [C3.out]
        have B1 := Lib.hid (B0.out.trans (hb.mono B0.out.size))
        clear hb
        go_wp2_with fail
        go_ret
        exact ⟨ret_bool E.out.symm, B1.out⟩
    · have E := Lib.hid (halfOk_f2 (h := h) c2)
      have hne : ((h.1.length : Int) == n) = false := by rw [beq_eq_false_iff_ne]; exact c2
      clear c1 c2
      go_enter Tryd.func107, Tryd.ntmps107
      go_wp2_with fail
      refine (s_in _ _ _ _).mono ?_
      rintro e w1 ⟨rfl, rfl⟩
      rw [C1.out]
      go_wp2_with fail
      go_ret
      exact ⟨ret_bool E.out.symm, B0.out⟩
  · have C1 := Lib.hid (bool_f c1)
    have E := Lib.hid (halfOk_f1 (h := h) (bool_f c1))
    clear c1
    go_enter Tryd.func107, Tryd.ntmps107
    go_wp2_with fail
    refine (s_in _ _ _ _).mono ?_
    rintro e w1 ⟨rfl, rfl⟩
    rw [C1.out]
    go_wp2_with fail
    go_ret
    exact ⟨ret_bool E.out.symm, B0.out⟩

theorem regOk_in {n : Int} {hs : List Hf} (h : inR n 1 3 = false) : regOk n hs = false := by unfold regOk; rw [h]; simp
theorem regOk_long {n : Int} {hs : List Hf} (h : ¬ hs.length ≤ 8) : regOk n hs = false := by unfold regOk; rw [decide_eq_false h]; simp
theorem regOk_e {n : Int} {hs : List Hf} (h1 : hs.all (halfOk n) = true) (h2 : inR n 1 3 = true) (h3 : hs.length ≤ 8) : regOk n hs = true := by unfold regOk; rw [h1, h2, decide_eq_true h3]; rfl

theorem regOk_i {n : Int} {hs : List Hf} (h1 : hs.all (halfOk n) = true) (h2 : inR n 1 3 = true) : regOk n hs = decide ((hs.length : Int) ≤ 8) := by
  unfold regOk
  rw [h1, h2]
  simp only [Bool.true_and]
  exact decide_eq_decide.2 (by omega)
set_option maxRecDepth 100000 in
set_option maxHeartbeats 800000 in
theorem s_isreg (r : Rgn) (v : Value) (w : World) (hv : Rg w v r) :
    Calls Tryd.prog 79 #[v] w (Quiet w (.bool (regOk r.1 r.2))) := by
  obtain ⟨n, hs'⟩ := r
  obtain ⟨u, rfl, hss⟩ := hv
  simp only at hss ⊢
  have HV := Lib.hid hss
  obtain ⟨a, c, rfl, hm⟩ := hss.shape
  unfold maxLen at hm
  have K := Lib.hid (Bk.new w #[.int .i64 n, .slice a hs'.length c] 51)
  have B0 := Lib.hid (below1 w (.cells #[.int .i64 n, .slice a hs'.length c] 51))
  clear hss
  go_enter Tryd.func79, Tryd.ntmps79
  go_wp2
  go_loopw [3] (fun i wr => ∃ k : Nat, k ≤ hs'.length ∧ i = .int .i64 k ∧ (hs'.take k).all (halfOk n) = true ∧ Below (w.alloc (.cells #[.int .i64 n, .slice a hs'.length c] 51)).heap.size (w.alloc (.cells #[.int .i64 n, .slice a hs'.length c] 51)) wr) (fun i _ => hs'.length - (RowKit.intOf i).toNat)
  case atStart => exact ⟨0, Nat.zero_le _, rfl, rfl, Below.refl _ _⟩
  case round =>
    obtain ⟨k, hk, rfl, ht, hbr⟩ := hrel
    have HB := Lib.hid hbr
    have HT := Lib.hid ht
    have HA := Lib.hid (B0.out.trans (hbr.mono B0.out.size))
    obtain ⟨⟨l0, l1⟩, -⟩ := (K.out.below hbr).two
    clear ht
    by_cases hlt : k < hs'.length
    · obtain ⟨b, off, x, rfl, _, hb2, hcell, hcell1, hsx⟩ := HV.out.half k hlt rfl
      rw [← HA.out.cell (p := ⟨b, off + k * 2, none⟩) hb2] at hcell
      rw [← HA.out.cell (p := ⟨b, off + k * 2 + 1, none⟩) hb2] at hcell1
      have HX := Lib.hid hsx
      have i1 : (0 : Int) ≤ (k : Int) := by omega
      have i2 : (k : Int) < (hs'.length : Int) := by omega
      have hb3 : b < (w.alloc (.cells #[.int .i64 n, .slice (some ⟨b, off, none⟩) hs'.length c] 51)).heap.size := by simp; omega
      have hb4 : w.heap.size < (w.alloc (.cells #[.int .i64 n, .slice (some ⟨b, off, none⟩) hs'.length c] 51)).heap.size := alloc_lt _ _
      clear hsx
      obtain ⟨q, hq⟩ : ∃ q : Bool, halfOk n hs'[k] = q := ⟨_, rfl⟩
      have HQ := Lib.hid hq
      clear hq
      go_wp2_with fail
      go_region_held3 (fun w' => w'.cell? ⟨w.heap.size, 0, none⟩ = some (.int .i64 n) ∧ w'.cell? ⟨w.heap.size, 1, none⟩ = some (.slice (some ⟨b, off, none⟩) hs'.length c) ∧ w'.cell? ⟨b, off + k * 2, none⟩ = some x ∧ w'.cell? ⟨b, off + k * 2 + 1, none⟩ = some (.int .i64 hs'[k].2) ∧ Below (w.alloc (.cells #[.int .i64 n, .slice (some ⟨b, off, none⟩) hs'.length c] 51)).heap.size (w.alloc (.cells #[.int .i64 n, .slice (some ⟨b, off, none⟩) hs'.length c] 51)) w')
        (first
          | with_reducible exact keepF4 l0 l1 hcell hcell1 hbr
          | (go_split_ands; with_reducible exact keepE4 hb4 hb4 hb3 hb3 (by assumption) (by assumption) (by assumption) (by assumption) (by assumption) (by assumption))
          | go_keep)
        (first | (go_at_call 107; refine (s_ishalf n hs'[k] _ _ ⟨x, rfl, HX.out.below HA.out.drew⟩).mono ?_; rintro e w1 ⟨rfl, hb1⟩; rw [HQ.out]))
      rename_i hH
      have HB1 := Lib.hid hH.2.2.2.2
      clear hH hbr l0 l1 hcell hcell1
      have HA1 := Lib.hid (B0.out.trans (HB1.out.mono B0.out.size))
      cases q with
      | true =>
        go_wp2
        exact ⟨⟨k + 1, by omega, by go_num, all_take' hlt HT.out HQ.out, HB1.out⟩, by simp [RowKit.intOf]; omega⟩
      | false =>
        go_wp2
        go_ret
        exact ⟨ret_bool (regOk_half hlt HQ.out).symm, HA1.out⟩
    · obtain rfl : k = hs'.length := by omega
      have HAll := Lib.hid (show hs'.all (halfOk n) = true by have h := HT.out; rw [List.take_length] at h; exact h)
      by_cases c1 : inR n 1 3 = true
      · have C1 := Lib.hid c1
        have E := Lib.hid (regOk_i HAll.out c1)
        clear c1 hbr
        go_wp2_with fail
        refine (s_in _ _ _ _).mono ?_
        rintro e w1 ⟨rfl, rfl⟩
        rw [C1.out]
        go_wp2_with fail
        go_ret
        exact ⟨ret_bool E.out.symm, HA.out⟩
      · have C1 := Lib.hid (bool_f c1)
        have E := Lib.hid (regOk_in (hs := hs') (bool_f c1))
        clear c1 hbr
        go_wp2_with fail
        refine (s_in _ _ _ _).mono ?_
        rintro e w1 ⟨rfl, rfl⟩
        rw [C1.out]
        go_wp2_with fail
        go_ret
        exact ⟨ret_bool E.out.symm, HA.out⟩
end Go.Proofs.YtmogncpkdkdodaaDoor
