/- The model's vectors: the exported functions, out of the loops' contracts. -/
import Derived.Test.YtmogncpkdkdodaaGreatDoorVecT
namespace Go.Proofs.YtmogncpkdkdodaaGreatDoor
open Go.RowKit Go.Lib

set_option linter.unusedVariables false in
set_option maxRecDepth 100000 in
set_option maxHeartbeats 400000 in
theorem s_addv (u v : List Int) (a b : Value) (w : World) (ha : Sl w a (intVals u)) (hb : Sl w b (intVals v)) :
    Calls Tryz.prog 13 #[a, b] w (Got w (addR u v)) := by
  have HA := Lib.hid ha
  obtain ⟨a, c, rfl, hm, _⟩ := ha.shape
  rw [intVals_len] at hm HA ⊢
  unfold maxLen at hm
  clear ha
  have HB := Lib.hid hb
  obtain ⟨b, d, rfl, hm1, _⟩ := hb.shape
  rw [intVals_len] at hm1 HB ⊢
  unfold maxLen at hm1
  clear hb
  have B0 := Lib.hid (Below.refl w.heap.size w)
  go_enter Tryz.func13, Tryz.ntmps13
  go_wp2_with fail
  refine (s_isv u _ _ (HA.out.below B0.out)).mono ?_
  rintro e w1 ⟨rfl, hb1⟩
  have B1 := Lib.hid (B0.out.trans (hb1.mono B0.out.size))
  have S1 := Lib.hid hb1.size
  clear hb1
  by_cases h1 : isV u = true
  · have E1 := Lib.hid h1
    obtain ⟨l1, l2, l3⟩ := isV_t h1
    have L3 := Lib.hid (small_bd l3)
    rw [h1]
    clear h1 l3
    go_wp2_with fail
    refine (s_isv v _ _ (HB.out.below B1.out)).mono ?_
    rintro e w2 ⟨rfl, hb2⟩
    have B2 := Lib.hid (B1.out.trans (hb2.mono B1.out.size))
    have S2 := Lib.hid hb2.size
    clear hb2
    by_cases h2 : isV v = true
    · have E2 := Lib.hid h2
      obtain ⟨m1, m2, m3⟩ := isV_t h2
      have M3 := Lib.hid (small_bd m3)
      rw [h2]
      clear h2 m3
      by_cases h3 : u.length = v.length
      · have E3 := Lib.hid h3
        have hne : ((u.length : Int) != (v.length : Int)) = false := by simp [h3]
        clear h3
        go_wp2_with fail
        refine (s_add u v E3.out (by omega) 1000 (by omega) L3.out M3.out _ _ _ (HA.out.below B2.out) (HB.out.below B2.out)).mono ?_
        rintro e w3 ⟨⟨r, rfl, ho⟩, hb3⟩
        have B3 := Lib.hid (B2.out.trans (hb3.mono B2.out.size))
        have S3 := Lib.hid hb3.size
        have O_3 := Lib.hid ho
        clear hb3 ho
        go_wp2_with fail
        refine (s_isv (addL u v) _ _ O_3.out.sl).mono ?_
        rintro e w4 ⟨rfl, hb4⟩
        have B4 := Lib.hid (B3.out.trans (hb4.mono B3.out.size))
        have S4 := Lib.hid hb4.size
        have O_4 := Lib.hid (O_3.out.below hb4)
        clear hb4
        by_cases h4 : isV (addL u v) = true
        · have ER := Lib.hid (show addR u v = (addL u v, true) from if_pos ⟨E1.out, E2.out, E3.out, h4⟩)
          rw [h4]
          clear h4
          go_wp2_with fail
          go_ret2
          rw [ER.out]
          exact ⟨⟨_, rfl, O_4.out.mono (by have := S1.out; have := S2.out; have := S3.out; have := S4.out; omega) (by have := S1.out; have := S2.out; have := S3.out; have := S4.out; omega)⟩, B4.out⟩
        · have ER := Lib.hid (show addR u v = ([], false) from if_neg (fun h => h4 (h.2.2.2)))
          try rw [bool_f h4]
          clear h4
          go_wp2_with fail
          go_ret2
          rw [ER.out]
          exact ⟨⟨_, rfl, own_empty B4.out.size⟩, B4.out.alloc B4.out.size _⟩
      · have hne : ((u.length : Int) != (v.length : Int)) = true := by rw [bne_iff_ne]; omega
        have ER := Lib.hid (show addR u v = ([], false) from if_neg (fun h => h3 (h.2.2.1)))
        try rw [bool_f h3]
        clear h3
        go_wp2_with fail
        go_ret2
        rw [ER.out]
        exact ⟨⟨_, rfl, own_empty B2.out.size⟩, B2.out.alloc B2.out.size _⟩
    · have ER := Lib.hid (show addR u v = ([], false) from if_neg (fun h => h2 (h.2.1)))
      try rw [bool_f h2]
      clear h2
      go_wp2_with fail
      go_ret2
      rw [ER.out]
      exact ⟨⟨_, rfl, own_empty B2.out.size⟩, B2.out.alloc B2.out.size _⟩
  · have ER := Lib.hid (show addR u v = ([], false) from if_neg (fun h => h1 (h.1)))
    try rw [bool_f h1]
    clear h1
    go_wp2_with fail
    go_ret2
    rw [ER.out]
    exact ⟨⟨_, rfl, own_empty B1.out.size⟩, B1.out.alloc B1.out.size _⟩

set_option linter.unusedVariables false in
set_option maxRecDepth 100000 in
set_option maxHeartbeats 400000 in
theorem s_scalev (u : List Int) (k : Int) (a : Value) (w : World) (ha : Sl w a (intVals u)) :
    Calls Tryz.prog 16 #[a, .int .i64 k] w (Got w (scaleR u k)) := by
  have HA := Lib.hid ha
  obtain ⟨a, c, rfl, hm, _⟩ := ha.shape
  rw [intVals_len] at hm HA ⊢
  unfold maxLen at hm
  clear ha
  have B0 := Lib.hid (Below.refl w.heap.size w)
  go_enter Tryz.func16, Tryz.ntmps16
  go_wp2_with fail
  refine (s_isv u _ _ (HA.out.below B0.out)).mono ?_
  rintro e w1 ⟨rfl, hb1⟩
  have B1 := Lib.hid (B0.out.trans (hb1.mono B0.out.size))
  have S1 := Lib.hid hb1.size
  clear hb1
  by_cases h1 : isV u = true
  · have E1 := Lib.hid h1
    obtain ⟨l1, l2, l3⟩ := isV_t h1
    have L3 := Lib.hid (small_bd l3)
    rw [h1]
    clear h1 l3
    go_wp2_with fail
    refine (s_in _ _ _ _).mono ?_
    rintro e w2 ⟨rfl, rfl⟩
    by_cases h2 : inR k (-1000) 1000 = true
    · have E2 := Lib.hid h2
      have k1 := inR_t h2
      have K1 := Lib.hid k1
      rw [h2]
      clear h2 k1
      go_wp2_with fail
      refine (s_scale u (by omega) 1000 1000 k L3.out K1.out.1 K1.out.2 (by omega) _ _ (HA.out.below B1.out)).mono ?_
      rintro e w2 ⟨⟨r, rfl, ho⟩, hb2⟩
      have B2 := Lib.hid (B1.out.trans (hb2.mono B1.out.size))
      have S2 := Lib.hid hb2.size
      have O_2 := Lib.hid ho
      clear hb2 ho
      go_wp2_with fail
      refine (s_isv (scaleL u k) _ _ O_2.out.sl).mono ?_
      rintro e w3 ⟨rfl, hb3⟩
      have B3 := Lib.hid (B2.out.trans (hb3.mono B2.out.size))
      have S3 := Lib.hid hb3.size
      have O_3 := Lib.hid (O_2.out.below hb3)
      clear hb3
      by_cases h3 : isV (scaleL u k) = true
      · have ER := Lib.hid (show scaleR u k = (scaleL u k, true) from if_pos ⟨E1.out, E2.out, h3⟩)
        rw [h3]
        clear h3
        go_wp2_with fail
        go_ret2
        rw [ER.out]
        exact ⟨⟨_, rfl, O_3.out.mono (by have := S1.out; have := S2.out; have := S3.out; omega) (by have := S1.out; have := S2.out; have := S3.out; omega)⟩, B3.out⟩
      · have ER := Lib.hid (show scaleR u k = ([], false) from if_neg (fun h => h3 (h.2.2)))
        try rw [bool_f h3]
        clear h3
        go_wp2_with fail
        go_ret2
        rw [ER.out]
        exact ⟨⟨_, rfl, own_empty B3.out.size⟩, B3.out.alloc B3.out.size _⟩
    · have ER := Lib.hid (show scaleR u k = ([], false) from if_neg (fun h => h2 (h.2.1)))
      try rw [bool_f h2]
      clear h2
      go_wp2_with fail
      go_ret2
      rw [ER.out]
      exact ⟨⟨_, rfl, own_empty B1.out.size⟩, B1.out.alloc B1.out.size _⟩
  · have ER := Lib.hid (show scaleR u k = ([], false) from if_neg (fun h => h1 (h.1)))
    try rw [bool_f h1]
    clear h1
    go_wp2_with fail
    go_ret2
    rw [ER.out]
    exact ⟨⟨_, rfl, own_empty B1.out.size⟩, B1.out.alloc B1.out.size _⟩

set_option linter.unusedVariables false in
set_option maxRecDepth 100000 in
set_option maxHeartbeats 400000 in
theorem s_dotof (u v : List Int) (a b : Value) (w : World) (ha : Sl w a (intVals u)) (hb : Sl w b (intVals v)) :
    Calls Tryz.prog 26 #[a, b] w (Quiet w (.int .i64 (dotR u v))) := by
  have HA := Lib.hid ha
  obtain ⟨a, c, rfl, hm, _⟩ := ha.shape
  rw [intVals_len] at hm HA ⊢
  unfold maxLen at hm
  clear ha
  have HB := Lib.hid hb
  obtain ⟨b, d, rfl, hm1, _⟩ := hb.shape
  rw [intVals_len] at hm1 HB ⊢
  unfold maxLen at hm1
  clear hb
  have B0 := Lib.hid (Below.refl w.heap.size w)
  go_enter Tryz.func26, Tryz.ntmps26
  go_wp2_with fail
  refine (s_isv u _ _ (HA.out.below B0.out)).mono ?_
  rintro e w1 ⟨rfl, hb1⟩
  have B1 := Lib.hid (B0.out.trans (hb1.mono B0.out.size))
  have S1 := Lib.hid hb1.size
  clear hb1
  by_cases h1 : isV u = true
  · have E1 := Lib.hid h1
    obtain ⟨l1, l2, l3⟩ := isV_t h1
    have L3 := Lib.hid (small_bd l3)
    rw [h1]
    clear h1 l3
    go_wp2_with fail
    refine (s_isv v _ _ (HB.out.below B1.out)).mono ?_
    rintro e w2 ⟨rfl, hb2⟩
    have B2 := Lib.hid (B1.out.trans (hb2.mono B1.out.size))
    have S2 := Lib.hid hb2.size
    clear hb2
    by_cases h2 : isV v = true
    · have E2 := Lib.hid h2
      obtain ⟨m1, m2, m3⟩ := isV_t h2
      have M3 := Lib.hid (small_bd m3)
      rw [h2]
      clear h2 m3
      by_cases h3 : u.length = v.length
      · have E3 := Lib.hid h3
        have hne : ((u.length : Int) != (v.length : Int)) = false := by simp [h3]
        clear h3
        have ER := Lib.hid (show dotR u v = dotL u v from if_pos ⟨E1.out, E2.out, E3.out⟩)
        go_wp2_with fail
        refine (s_dot u v E3.out (by omega) 1000 1000 (by omega) (by omega) L3.out M3.out _ _ _ (HA.out.below B2.out) (HB.out.below B2.out)).mono ?_
        rintro e w3 ⟨rfl, hb3⟩
        have B3 := Lib.hid (B2.out.trans (hb3.mono B2.out.size))
        have S3 := Lib.hid hb3.size
        clear hb3
        go_wp2_with fail
        go_ret
        exact ⟨ret_int ER.out.symm, B3.out⟩
      · have hne : ((u.length : Int) != (v.length : Int)) = true := by rw [bne_iff_ne]; omega
        have ER := Lib.hid (show dotR u v = 0 from if_neg (fun h => h3 (h.2.2)))
        try rw [bool_f h3]
        clear h3
        go_wp2_with fail
        go_ret
        exact ⟨ret_int ER.out.symm, B2.out⟩
    · have ER := Lib.hid (show dotR u v = 0 from if_neg (fun h => h2 (h.2.1)))
      try rw [bool_f h2]
      clear h2
      go_wp2_with fail
      go_ret
      exact ⟨ret_int ER.out.symm, B2.out⟩
  · have ER := Lib.hid (show dotR u v = 0 from if_neg (fun h => h1 (h.1)))
    try rw [bool_f h1]
    clear h1
    go_wp2_with fail
    go_ret
    exact ⟨ret_int ER.out.symm, B1.out⟩

set_option linter.unusedVariables false in
set_option maxRecDepth 100000 in
set_option maxHeartbeats 400000 in
theorem s_beforev (u v : List Int) (a b : Value) (w : World) (ha : Sl w a (intVals u)) (hb : Sl w b (intVals v)) :
    Calls Tryz.prog 24 #[a, b] w (Quiet w (.bool (beforeR u v))) := by
  have HA := Lib.hid ha
  obtain ⟨a, c, rfl, hm, _⟩ := ha.shape
  rw [intVals_len] at hm HA ⊢
  unfold maxLen at hm
  clear ha
  have HB := Lib.hid hb
  obtain ⟨b, d, rfl, hm1, _⟩ := hb.shape
  rw [intVals_len] at hm1 HB ⊢
  unfold maxLen at hm1
  clear hb
  have B0 := Lib.hid (Below.refl w.heap.size w)
  go_enter Tryz.func24, Tryz.ntmps24
  go_wp2_with fail
  refine (s_isv u _ _ (HA.out.below B0.out)).mono ?_
  rintro e w1 ⟨rfl, hb1⟩
  have B1 := Lib.hid (B0.out.trans (hb1.mono B0.out.size))
  have S1 := Lib.hid hb1.size
  clear hb1
  by_cases h1 : isV u = true
  · have E1 := Lib.hid h1
    obtain ⟨l1, l2, l3⟩ := isV_t h1
    have L3 := Lib.hid (small_bd l3)
    rw [h1]
    clear h1 l3
    go_wp2_with fail
    refine (s_isv v _ _ (HB.out.below B1.out)).mono ?_
    rintro e w2 ⟨rfl, hb2⟩
    have B2 := Lib.hid (B1.out.trans (hb2.mono B1.out.size))
    have S2 := Lib.hid hb2.size
    clear hb2
    by_cases h2 : isV v = true
    · have E2 := Lib.hid h2
      obtain ⟨m1, m2, m3⟩ := isV_t h2
      have M3 := Lib.hid (small_bd m3)
      rw [h2]
      clear h2 m3
      by_cases h3 : u.length = v.length
      · have E3 := Lib.hid h3
        have hne : ((u.length : Int) == (v.length : Int)) = true := by simp [h3]
        clear h3
        have ER := Lib.hid (show beforeR u v = beforeL u v from if_pos ⟨E1.out, E2.out, E3.out⟩)
        go_wp2_with fail
        refine (s_before u v E3.out _ _ _ (HA.out.below B2.out) (HB.out.below B2.out)).mono ?_
        rintro e w3 ⟨rfl, hb3⟩
        have B3 := Lib.hid (B2.out.trans (hb3.mono B2.out.size))
        have S3 := Lib.hid hb3.size
        clear hb3
        go_wp2_with fail
        go_ret
        exact ⟨ret_bool ER.out.symm, B3.out⟩
      · have hne : ((u.length : Int) == (v.length : Int)) = false := by rw [beq_eq_false_iff_ne]; omega
        have ER := Lib.hid (show beforeR u v = false from if_neg (fun h => h3 (h.2.2)))
        try rw [bool_f h3]
        clear h3
        go_wp2_with fail
        go_ret
        exact ⟨ret_bool ER.out.symm, B2.out⟩
    · have ER := Lib.hid (show beforeR u v = false from if_neg (fun h => h2 (h.2.1)))
      try rw [bool_f h2]
      clear h2
      go_wp2_with fail
      go_ret
      exact ⟨ret_bool ER.out.symm, B2.out⟩
  · have ER := Lib.hid (show beforeR u v = false from if_neg (fun h => h1 (h.1)))
    try rw [bool_f h1]
    clear h1
    go_wp2_with fail
    go_ret
    exact ⟨ret_bool ER.out.symm, B1.out⟩

set_option linter.unusedVariables false in
set_option maxRecDepth 100000 in
set_option maxHeartbeats 400000 in
theorem s_gcdof (u : List Int) (a : Value) (w : World) (ha : Sl w a (intVals u)) :
    Calls Tryz.prog 21 #[a] w (Quiet w (.int .i64 (gcdR u))) := by
  have HA := Lib.hid ha
  obtain ⟨a, c, rfl, hm, _⟩ := ha.shape
  rw [intVals_len] at hm HA ⊢
  unfold maxLen at hm
  clear ha
  have B0 := Lib.hid (Below.refl w.heap.size w)
  go_enter Tryz.func21, Tryz.ntmps21
  go_wp2_with fail
  refine (s_isv u _ _ (HA.out.below B0.out)).mono ?_
  rintro e w1 ⟨rfl, hb1⟩
  have B1 := Lib.hid (B0.out.trans (hb1.mono B0.out.size))
  have S1 := Lib.hid hb1.size
  clear hb1
  by_cases h1 : isV u = true
  · have ER := Lib.hid (show gcdR u = allG u from if_pos h1)
    obtain ⟨l1, l2, l3⟩ := isV_t h1
    have L3 := Lib.hid (small_bd l3)
    rw [h1]
    clear h1 l3
    go_wp2_with fail
    refine (s_all u 1000 (by omega) (by omega) L3.out _ _ (HA.out.below B1.out)).mono ?_
    rintro e w2 ⟨rfl, hb2⟩
    have B2 := Lib.hid (B1.out.trans (hb2.mono B1.out.size))
    have S2 := Lib.hid hb2.size
    clear hb2
    go_wp2_with fail
    go_ret
    exact ⟨ret_int ER.out.symm, B2.out⟩
  · have ER := Lib.hid (show gcdR u = -1 from if_neg h1)
    rw [bool_f h1]
    clear h1
    go_wp2_with fail
    go_ret
    exact ⟨ret_int ER.out.symm, B1.out⟩

set_option linter.unusedVariables false in
set_option maxRecDepth 100000 in
set_option maxHeartbeats 400000 in
theorem s_primv (u : List Int) (a : Value) (w : World) (ha : Sl w a (intVals u)) :
    Calls Tryz.prog 10 #[a] w (Got w (primR u)) := by
  have HA := Lib.hid ha
  obtain ⟨a, c, rfl, hm, _⟩ := ha.shape
  rw [intVals_len] at hm HA ⊢
  unfold maxLen at hm
  clear ha
  have B0 := Lib.hid (Below.refl w.heap.size w)
  go_enter Tryz.func10, Tryz.ntmps10
  go_wp2_with fail
  refine (s_gcdof u _ _ (HA.out.below B0.out)).mono ?_
  rintro e w1 ⟨rfl, hb1⟩
  have B1 := Lib.hid (B0.out.trans (hb1.mono B0.out.size))
  have S1 := Lib.hid hb1.size
  clear hb1
  by_cases h1 : isV u = true
  · obtain ⟨l1, l2, l3⟩ := isV_t h1
    have L3 := Lib.hid (small_bd l3)
    rw [show gcdR u = allG u from if_pos h1]
    have E1 := Lib.hid h1
    clear h1 l3
    by_cases h2 : 0 < allG u
    · have hlt : ¬ allG u < 1 := by omega
      have ER := Lib.hid (show primR u = (primL u, true) from if_pos ⟨E1.out, h2⟩)
      clear h2
      go_wp2_with fail
      refine (s_prime u (by omega) 1000 (by omega) (by omega) L3.out _ _ (HA.out.below B1.out)).mono ?_
      rintro e w2 ⟨⟨r, rfl, ho⟩, hb2⟩
      have B2 := Lib.hid (B1.out.trans (hb2.mono B1.out.size))
      have S2 := Lib.hid hb2.size
      have O_2 := Lib.hid ho
      clear hb2 ho
      go_wp2_with fail
      go_ret2
      rw [ER.out]
      exact ⟨⟨_, rfl, O_2.out.mono (by have := S1.out; have := S2.out; omega) (by have := S1.out; have := S2.out; omega)⟩, B2.out⟩
    · have hlt : allG u < 1 := by omega
      have ER := Lib.hid (show primR u = ([], false) from if_neg (fun h => h2 (h.2)))
      try rw [bool_f h2]
      clear h2
      go_wp2_with fail
      go_ret2
      rw [ER.out]
      exact ⟨⟨_, rfl, own_empty B1.out.size⟩, B1.out.alloc B1.out.size _⟩
  · rw [show gcdR u = -1 from if_neg h1]
    have ER := Lib.hid (show primR u = ([], false) from if_neg (fun h => h1 (h.1)))
    try rw [bool_f h1]
    clear h1
    go_wp2_with fail
    go_ret2
    rw [ER.out]
    exact ⟨⟨_, rfl, own_empty B1.out.size⟩, B1.out.alloc B1.out.size _⟩

end Go.Proofs.YtmogncpkdkdodaaGreatDoor
