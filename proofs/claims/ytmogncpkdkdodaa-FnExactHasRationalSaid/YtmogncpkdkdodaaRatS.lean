/- The model's rational points: what is within the limits, and which one is less. -/
import Derived.Test.YtmogncpkdkdodaaRatM
import Derived.Test.YtmogncpkdkdodaaRegS2
namespace Go.Proofs.Ytmogncpkdkdodaa
open Go.RowKit Go.Lib

set_option maxRecDepth 100000 in
set_option maxHeartbeats 400000 in
theorem s_fine (p : Hf) (v : Value) (w : World) (hv : Hv w v p) :
    Calls Try.prog 75 #[v] w (Quiet w (.bool (fineQ p))) := by
  obtain ⟨u, rfl, hs⟩ := hv
  have HS := Lib.hid hs
  have K := Lib.hid (Bk.new w #[u, .int .i64 p.2] 58)
  have B0 := Lib.hid (below1 w (.cells #[u, .int .i64 p.2] 58))
  clear hs
  by_cases c : inR p.2 1 100000 = true
  · have C := Lib.hid c
    have E := Lib.hid (fineQ_e c)
    clear c
    go_enter Try.func75, Try.ntmps75
    go_wp2_with fail
    refine (s_in _ _ _ _).mono ?_
    rintro e w1 ⟨rfl, rfl⟩
    rw [C.out]
    go_wp2_with fail
    refine (s_small p.1 10000000 (by omega) (by omega) _ _ (HS.out.below B0.out)).mono ?_
    rintro e w1 ⟨rfl, hb⟩
    have B1 := Lib.hid (B0.out.trans (hb.mono B0.out.size))
    clear hb
    go_wp2_with fail
    go_ret
    exact ⟨ret_bool E.out.symm, B1.out⟩
  · have C := Lib.hid (bool_f c)
    have E := Lib.hid (fineQ_f1 (bool_f c))
    clear c
    go_enter Try.func75, Try.ntmps75
    go_wp2_with fail
    refine (s_in _ _ _ _).mono ?_
    rintro e w1 ⟨rfl, rfl⟩
    rw [C.out]
    go_wp2_with fail
    go_ret
    exact ⟨ret_bool E.out.symm, B0.out⟩

/-- What two points' numbers are when they can be compared. -/
theorem cmp_prod {p q : Hf} (h1 : fineQ p = true) (h2 : fineQ q = true) (k : Nat) (hk : k < p.1.length) : -1000000000000 ≤ p.1[k] * q.2 ∧ p.1[k] * q.2 ≤ 1000000000000 := by
  obtain ⟨_, _, b⟩ := fineQ_t h1
  obtain ⟨a, c, _⟩ := fineQ_t h2
  have := mul_bd (b k hk).1 (b k hk).2 (show -100000 ≤ q.2 by omega) c
  omega

set_option maxRecDepth 100000 in
set_option maxHeartbeats 1600000 in
theorem s_cmp (p q : Hf) (v u : Value) (w : World) (hv : Hv w v p) (hu : Hv w u q) :
    Calls Try.prog 37 #[v, u] w (Quiet w (.int .i64 (cmpQ p q))) := by
  have HP := Lib.hid hv
  have HQ := Lib.hid hu
  obtain ⟨x, rfl, hx⟩ := hv
  obtain ⟨y, rfl, hy⟩ := hu
  have HX := Lib.hid hx
  have HY := Lib.hid hy
  obtain ⟨xa, xc, rfl, xm, _⟩ := hx.shape
  obtain ⟨ya, yc, rfl, ym, _⟩ := hy.shape
  rw [intVals_len] at xm HX HP ym HY HQ ⊢
  rw [intVals_len]
  unfold maxLen at xm ym
  have B0 := Lib.hid (below2 w (.cells #[.slice xa p.1.length xc, .int .i64 p.2] 58) (.cells #[.slice ya q.1.length yc, .int .i64 q.2] 58))
  have K := Lib.hid (Bk.pair w #[.slice xa p.1.length xc, .int .i64 p.2] #[.slice ya q.1.length yc, .int .i64 q.2] 58 58)
  clear hx hy
  by_cases c1 : fineQ p = true
  case neg =>
    have C1 := Lib.hid (bool_f c1)
    have E := Lib.hid (cmpQ_f1 (q := q) (bool_f c1))
    clear c1
    go_enter Try.func37, Try.ntmps37
    go_wp2_with fail
    refine (s_fine p _ _ (HP.out.below B0.out)).mono ?_
    rintro e w1 ⟨rfl, hb⟩
    rw [C1.out]
    have B1 := Lib.hid (B0.out.trans (hb.mono B0.out.size))
    clear hb
    go_wp2_with fail
    go_ret
    exact ⟨ret_int E.out.symm, B1.out⟩
  have C1 := Lib.hid c1
  by_cases c2 : fineQ q = true
  case neg =>
    have C2 := Lib.hid (bool_f c2)
    have E := Lib.hid (cmpQ_f2 (p := p) (bool_f c2))
    clear c1 c2
    go_enter Try.func37, Try.ntmps37
    go_wp2_with fail
    refine (s_fine p _ _ (HP.out.below B0.out)).mono ?_
    rintro e w1 ⟨rfl, hb⟩
    rw [C1.out]
    have B1 := Lib.hid (B0.out.trans (hb.mono B0.out.size))
    obtain ⟨⟨n0, n1⟩, -⟩ := (K.out.2.below hb).two
    clear hb
    go_wp2_with fail
    refine (s_fine q _ _ (HQ.out.below B1.out)).mono ?_
    rintro e w2 ⟨rfl, hb⟩
    rw [C2.out]
    have B2 := Lib.hid (B1.out.trans (hb.mono B1.out.size))
    clear hb n0 n1
    go_wp2_with fail
    go_ret
    exact ⟨ret_int E.out.symm, B2.out⟩
  have C2 := Lib.hid c2
  by_cases c3 : p.1.length = q.1.length
  case neg =>
    have E := Lib.hid (cmpQ_f3 c3)
    have hne : ¬ (p.1.length : Int) = (q.1.length : Int) := by omega
    clear c1 c2 c3
    go_enter Try.func37, Try.ntmps37
    go_wp2_with fail
    refine (s_fine p _ _ (HP.out.below B0.out)).mono ?_
    rintro e w1 ⟨rfl, hb⟩
    rw [C1.out]
    have B1 := Lib.hid (B0.out.trans (hb.mono B0.out.size))
    have K1 := Lib.hid (And.intro (K.out.1.below hb) (K.out.2.below hb))
    obtain ⟨⟨n0, n1⟩, -⟩ := K1.out.2.two
    clear hb
    go_wp2_with fail
    refine (s_fine q _ _ (HQ.out.below B1.out)).mono ?_
    rintro e w2 ⟨rfl, hb⟩
    rw [C2.out]
    have B2 := Lib.hid (B1.out.trans (hb.mono B1.out.size))
    clear n0 n1
    obtain ⟨⟨m0, m1⟩, -⟩ := (K1.out.1.below hb).two
    obtain ⟨⟨n0, n1⟩, -⟩ := (K1.out.2.below hb).two
    clear hb
    go_wp2_with fail
    go_ret
    exact ⟨ret_int E.out.symm, B2.out⟩
  have E := Lib.hid (cmpQ_t c1 c2 c3)
  have PP := Lib.hid (fun k hk => cmp_prod c1 c2 k hk)
  have PQ := Lib.hid (fun k hk => cmp_prod c2 c1 k hk)
  have C3 := Lib.hid c3
  have hbeq : ((p.1.length : Int) == (q.1.length : Int)) = true := by rw [beq_iff_eq]; omega
  clear c1 c2 c3
  go_enter Try.func37, Try.ntmps37
  go_wp2_with fail
  refine (s_fine p _ _ (HP.out.below B0.out)).mono ?_
  rintro e w1 ⟨rfl, hb⟩
  rw [C1.out]
  have B1 := Lib.hid (B0.out.trans (hb.mono B0.out.size))
  have K1 := Lib.hid (And.intro (K.out.1.below hb) (K.out.2.below hb))
  obtain ⟨⟨n0, n1⟩, -⟩ := K1.out.2.two
  clear hb
  go_wp2_with fail
  refine (s_fine q _ _ (HQ.out.below B1.out)).mono ?_
  rintro e w2 ⟨rfl, hb⟩
  rw [C2.out]
  have B2 := Lib.hid (B1.out.trans (hb.mono B1.out.size))
  have K2 := Lib.hid (And.intro (K1.out.1.below hb) (K1.out.2.below hb))
  clear n0 n1 hb
  obtain ⟨⟨m0, m1⟩, -⟩ := K2.out.1.two
  obtain ⟨⟨n0, n1⟩, -⟩ := K2.out.2.two
  go_wp2
  clear m0 m1 n0 n1
  go_loopw [5] (fun i wr => ∃ k : Nat, k ≤ p.1.length ∧ i = .int .i64 k ∧ cmpN (p.1.drop k) p.2 (q.1.drop k) q.2 = cmpQ p q ∧ Below w2.heap.size w2 wr) (fun i _ => p.1.length - (RowKit.intOf i).toNat)
  case atStart => exact ⟨0, Nat.zero_le _, rfl, by rw [E.out]; rfl, Below.refl _ _⟩
  case round =>
    obtain ⟨k, hk, rfl, ht, hbr⟩ := hrel
    have HB := Lib.hid hbr
    have HT := Lib.hid ht
    have HA := Lib.hid (B2.out.trans (hbr.mono B2.out.size))
    obtain ⟨⟨m0, m1⟩, -⟩ := (K2.out.1.below hbr).two
    obtain ⟨⟨n0, n1⟩, -⟩ := (K2.out.2.below hbr).two
    clear ht
    by_cases hlt : k < p.1.length
    · have hlt' : k < q.1.length := by have := C3.out; omega
      obtain ⟨b, off, rfl, hb2, hcell⟩ := HX.out.get k hlt
      obtain ⟨b', off', rfl, hb2', hcell'⟩ := HY.out.get k hlt'
      rw [← HA.out.cell (p := ⟨b, off + k, none⟩) hb2] at hcell
      rw [← HA.out.cell (p := ⟨b', off' + k, none⟩) hb2'] at hcell'
      have i1 : (0 : Int) ≤ (k : Int) := by omega
      have i2 : (k : Int) < (p.1.length : Int) := by omega
      have i3 : (k : Int) < (q.1.length : Int) := by omega
      obtain ⟨p1, p2⟩ := PP.out k hlt
      obtain ⟨q1, q2⟩ := PQ.out k hlt'
      have EQ := Lib.hid (cmpN_eq (d := p.2) (e := q.2) hlt hlt')
      have LT := Lib.hid (cmpN_lt (d := p.2) (e := q.2) hlt hlt')
      have GT := Lib.hid (cmpN_gt (d := p.2) (e := q.2) hlt hlt')
      generalize p.1[k] = s at *
      generalize q.1[k] = t at *
      clear hbr
      by_cases e1 : s * q.2 = t * p.2
      · have hne : (s * q.2 != t * p.2) = false := by rw [bne_eq_false_iff_eq]; exact e1
        have E2 := Lib.hid ((EQ.out e1).symm.trans HT.out)
        go_wp2
        go_region
        go_wp2
        go_region
        go_wp2
        exact ⟨⟨k + 1, by omega, by go_num, E2.out, HB.out.drew.drew⟩, by simp [RowKit.intOf]; omega⟩
      · have hne : (s * q.2 != t * p.2) = true := by rw [bne_iff_ne]; exact e1
        by_cases e2 : s * q.2 < t * p.2
        · have E2 := Lib.hid ((LT.out e2).symm.trans HT.out)
          go_wp2
          go_region
          go_wp2
          go_region
          go_wp2
          go_ret
          exact ⟨ret_int E2.out, HA.out.drew.drew⟩
        · have e3 : t * p.2 < s * q.2 := by omega
          have E2 := Lib.hid ((GT.out e3).symm.trans HT.out)
          go_wp2
          go_region
          go_wp2
          go_region
          go_wp2
          go_ret
          exact ⟨ret_int E2.out, HA.out.drew.drew⟩
    · obtain rfl : k = p.1.length := by omega
      have E2 := Lib.hid (HT.out.symm.trans (cmpN_end C3.out))
      clear hbr
      go_wp2
      go_ret
      exact ⟨ret_int E2.out.symm, HA.out⟩
end Go.Proofs.Ytmogncpkdkdodaa
