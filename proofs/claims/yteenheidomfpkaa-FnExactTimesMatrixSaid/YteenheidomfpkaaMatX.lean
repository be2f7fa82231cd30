/- The model's TimesMatrix. -/
import Derived.Test.YteenheidomfpkaaMatW
namespace Go.Proofs.Yteenheidomfpkaa
open Go.RowKit Go.Lib

set_option linter.unusedVariables false in
set_option maxRecDepth 100000 in
set_option maxHeartbeats 400000 in
theorem s_timesm (a b : List (List Int)) (u v : Value) (w : World) (ha : Rw w u a) (hb : Rw w v b) :
    Calls Try.prog 13 #[u, v] w (GotR w (timesR a b)) := by
  have HA := Lib.hid ha
  obtain ⟨va, c, rfl, hm, _⟩ := ha.shape
  unfold maxLen at hm
  clear ha
  have HB := Lib.hid hb
  obtain ⟨vb, d, rfl, hm1, _⟩ := hb.shape
  unfold maxLen at hm1
  clear hb
  have B0 := Lib.hid (Below.refl w.heap.size w)
  go_enter Try.func13, Try.ntmps13
  go_wp2_with fail
  refine (s_ismat a _ _ (HA.out.below B0.out)).mono ?_
  rintro e w1 ⟨rfl, hb1⟩
  have B1 := Lib.hid (B0.out.trans (hb1.mono B0.out.size))
  have S1 := Lib.hid hb1.size
  clear hb1
  by_cases h1 : isM a = true
  · have E1 := Lib.hid h1
    have HT := Lib.hid (isM_t h1)
    have HS := Lib.hid (isM_sq h1)
    rw [h1]
    clear h1
    go_wp2_with fail
    refine (s_ismat b _ _ (HB.out.below B1.out)).mono ?_
    rintro e w2 ⟨rfl, hb2⟩
    have B2 := Lib.hid (B1.out.trans (hb2.mono B1.out.size))
    have S2 := Lib.hid hb2.size
    clear hb2
    by_cases h2 : isM b = true
    · have E2 := Lib.hid h2
      have HU := Lib.hid (isM_sq h2)
      rw [h2]
      clear h2
      by_cases h3 : a.length = b.length
      · have E3 := Lib.hid h3
        have hne : ((a.length : Int) != (b.length : Int)) = false := by simp [h3]
        clear h3
        go_wp2_with fail
        refine (s_times a.length a b (by have := HT.out.2.1; omega) HS.out (by have h := HU.out; rw [← E3.out] at h; exact h) _ _ _ (HA.out.below B2.out) (HB.out.below B2.out)).mono ?_
        rintro e w3 ⟨⟨r, rfl, ho⟩, hb3⟩
        have B3 := Lib.hid (B2.out.trans (hb3.mono B2.out.size))
        have S3 := Lib.hid hb3.size
        have O_3 := Lib.hid ho
        clear hb3 ho
        go_wp2_with fail
        refine (s_ismat (timesL a b) _ _ O_3.out.rw).mono ?_
        rintro e w4 ⟨rfl, hb4⟩
        have B4 := Lib.hid (B3.out.trans (hb4.mono B3.out.size))
        have S4 := Lib.hid hb4.size
        have O_4 := Lib.hid (O_3.out.below hb4)
        clear hb4 O_3
        by_cases h4 : isM (timesL a b) = true
        · have ER := Lib.hid (show timesR a b = (timesL a b, true) from if_pos ⟨E1.out, E2.out, E3.out, h4⟩)
          rw [h4]
          clear h4
          go_wp2_with fail
          go_ret2
          rw [ER.out]
          exact ⟨⟨_, rfl, O_4.out.mono (by have := S1.out; have := S2.out; have := S3.out; have := S4.out; omega) (by have := S1.out; have := S2.out; have := S3.out; have := S4.out; omega)⟩, B4.out⟩
        · have ER := Lib.hid (show timesR a b = ([], false) from if_neg (fun h => h4 (h.2.2.2)))
          try rw [bool_f h4]
          clear h4
          go_wp2_with fail
          go_ret2
          rw [ER.out]
          exact ⟨⟨_, rfl, owr_empty B4.out.size⟩, B4.out.alloc B4.out.size _⟩
      · have hne : ((a.length : Int) != (b.length : Int)) = true := by rw [bne_iff_ne]; omega
        have ER := Lib.hid (show timesR a b = ([], false) from if_neg (fun h => h3 (h.2.2.1)))
        try rw [bool_f h3]
        clear h3
        go_wp2_with fail
        go_ret2
        rw [ER.out]
        exact ⟨⟨_, rfl, owr_empty B2.out.size⟩, B2.out.alloc B2.out.size _⟩
    · have ER := Lib.hid (show timesR a b = ([], false) from if_neg (fun h => h2 (h.2.1)))
      try rw [bool_f h2]
      clear h2
      go_wp2_with fail
      go_ret2
      rw [ER.out]
      exact ⟨⟨_, rfl, owr_empty B2.out.size⟩, B2.out.alloc B2.out.size _⟩
  · have ER := Lib.hid (show timesR a b = ([], false) from if_neg (fun h => h1 (h.1)))
    try rw [bool_f h1]
    clear h1
    go_wp2_with fail
    go_ret2
    rw [ER.out]
    exact ⟨⟨_, rfl, owr_empty B1.out.size⟩, B1.out.alloc B1.out.size _⟩

end Go.Proofs.Yteenheidomfpkaa
