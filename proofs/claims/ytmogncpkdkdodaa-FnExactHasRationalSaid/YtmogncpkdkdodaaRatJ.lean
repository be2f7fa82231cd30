/- The program's CompareRationals. -/
import Derived.Test.YtmogncpkdkdodaaRatI
import Derived.Test.YtmogncpkdkdodaaRatH
namespace Go.Proofs.Ytmogncpkdkdodaa
open Go.RowKit Go.Lib

set_option maxRecDepth 100000 in
set_option maxHeartbeats 1600000 in
theorem i_cmp (p q : Hf) (v u : Value) (w : World) (hv : Hv w v p) (hu : Hv w u q) :
    Calls Try.prog 38 #[v, u] w (Quiet w (.int .i64 (cmpQ p q))) := by
  have HP := Lib.hid hv
  have HQ := Lib.hid hu
  obtain ⟨x, rfl, hx⟩ := hv
  obtain ⟨y, rfl, hy⟩ := hu
  have HX := Lib.hid hx
  have HY := Lib.hid hy
  obtain ⟨xa, xc, rfl, xm, _⟩ := hx.shape
  obtain ⟨ya, yc, rfl, ym, _⟩ := hy.shape
  rw [intVals_len] at xm HX HP ym HY HQ ⊢
  rw [intVals_len]
  unfold maxLen at xm ym
  have B0 := Lib.hid (below2 w (.cells #[.slice xa p.1.length xc, .int .i64 p.2] 58) (.cells #[.slice ya q.1.length yc, .int .i64 q.2] 58))
  have K := Lib.hid (Bk.pair w #[.slice xa p.1.length xc, .int .i64 p.2] #[.slice ya q.1.length yc, .int .i64 q.2] 58 58)
  clear hx hy
  by_cases c3 : p.1.length = q.1.length
  case neg =>
    have E := Lib.hid (cmpQ_f3 c3)
    have hne : ((p.1.length : Int) != (q.1.length : Int)) = true := by rw [bne_iff_ne]; omega
    clear c3
    go_enter Try.func38, Try.ntmps38
    go_wp2_with fail
    go_ret
    exact ⟨ret_int E.out.symm, B0.out⟩
  have C3 := Lib.hid c3
  have hne : ((p.1.length : Int) != (q.1.length : Int)) = false := by rw [bne_eq_false_iff_eq]; omega
  by_cases c1 : fineQ p = true
  case neg =>
    have C1 := Lib.hid (bool_f c1)
    have E := Lib.hid (cmpQ_f1 (q := q) (bool_f c1))
    clear c1 c3
    go_enter Try.func38, Try.ntmps38
    go_wp2_with fail
    refine (i_within p _ _ (HP.out.below B0.out)).mono ?_
    rintro e w1 ⟨rfl, hb⟩
    rw [C1.out]
    have B1 := Lib.hid (B0.out.trans (hb.mono B0.out.size))
    clear hb
    go_wp2_with fail
    go_ret
    exact ⟨ret_int E.out.symm, B1.out⟩
  have C1 := Lib.hid c1
  by_cases c2 : fineQ q = true
  case neg =>
    have C2 := Lib.hid (bool_f c2)
    have E := Lib.hid (cmpQ_f2 (p := p) (bool_f c2))
    clear c1 c2 c3
    go_enter Try.func38, Try.ntmps38
    go_wp2_with fail
    refine (i_within p _ _ (HP.out.below B0.out)).mono ?_
    rintro e w1 ⟨rfl, hb⟩
    rw [C1.out]
    have B1 := Lib.hid (B0.out.trans (hb.mono B0.out.size))
    obtain ⟨⟨n0, n1⟩, -⟩ := (K.out.2.below hb).two
    clear hb
    go_wp2_with fail
    refine (i_within q _ _ (HQ.out.below B1.out)).mono ?_
    rintro e w2 ⟨rfl, hb⟩
    rw [C2.out]
    have B2 := Lib.hid (B1.out.trans (hb.mono B1.out.size))
    clear hb n0 n1
    go_wp2_with fail
    go_ret
    exact ⟨ret_int E.out.symm, B2.out⟩
  have C2 := Lib.hid c2
  have E := Lib.hid (cmpQ_t c1 c2 c3)
  have PP := Lib.hid (fun k hk => cmp_prod c1 c2 k hk)
  have PQ := Lib.hid (fun k hk => cmp_prod c2 c1 k hk)
  clear c1 c2 c3
  go_enter Try.func38, Try.ntmps38
  go_wp2_with fail
  refine (i_within p _ _ (HP.out.below B0.out)).mono ?_
  rintro e w1 ⟨rfl, hb⟩
  rw [C1.out]
  have B1 := Lib.hid (B0.out.trans (hb.mono B0.out.size))
  have K1 := Lib.hid (And.intro (K.out.1.below hb) (K.out.2.below hb))
  obtain ⟨⟨n0, n1⟩, -⟩ := K1.out.2.two
  clear hb
  go_wp2_with fail
  refine (i_within q _ _ (HQ.out.below B1.out)).mono ?_
  rintro e w2 ⟨rfl, hb⟩
  rw [C2.out]
  have B2 := Lib.hid (B1.out.trans (hb.mono B1.out.size))
  have K2 := Lib.hid (And.intro (K1.out.1.below hb) (K1.out.2.below hb))
  clear n0 n1 hb
  obtain ⟨⟨m0, m1⟩, -⟩ := K2.out.1.two
  obtain ⟨⟨n0, n1⟩, -⟩ := K2.out.2.two
  go_wp2
  clear m0 m1 n0 n1
  go_loopw [28] (fun i wr => ∃ k : Nat, k ≤ p.1.length ∧ i = .int .i64 k ∧ cmpN (p.1.drop k) p.2 (q.1.drop k) q.2 = cmpQ p q ∧ Below w2.heap.size w2 wr) (fun i _ => p.1.length - (RowKit.intOf i).toNat)
  case atStart => exact ⟨0, Nat.zero_le _, rfl, by rw [E.out]; rfl, Below.refl _ _⟩
  case round =>
    obtain ⟨k, hk, rfl, ht, hbr⟩ := hrel
    have HB := Lib.hid hbr
    have HT := Lib.hid ht
    have HA := Lib.hid (B2.out.trans (hbr.mono B2.out.size))
    have hb4 := K2.out.1.lt
    have hb5 := K2.out.2.lt
    obtain ⟨⟨m0, m1⟩, -⟩ := (K2.out.1.below hbr).two
    obtain ⟨⟨n0, n1⟩, -⟩ := (K2.out.2.below hbr).two
    clear ht
    by_cases hlt : k < p.1.length
    · have hlt' : k < q.1.length := by have := C3.out; omega
      obtain ⟨b, off, rfl, hb2, hcell⟩ := HX.out.get k hlt
      obtain ⟨b', off', rfl, hb2', hcell'⟩ := HY.out.get k hlt'
      rw [← HA.out.cell (p := ⟨b, off + k, none⟩) hb2] at hcell
      rw [← HA.out.cell (p := ⟨b', off' + k, none⟩) hb2'] at hcell'
      have hb3 : b' < w2.heap.size := Nat.lt_of_lt_of_le hb2' B2.out.size
      have i1 : (0 : Int) ≤ (k : Int) := by omega
      have i2 : (k : Int) < (p.1.length : Int) := by omega
      have i3 : (k : Int) < (q.1.length : Int) := by omega
      obtain ⟨p1, p2⟩ := PP.out k hlt
      obtain ⟨q1, q2⟩ := PQ.out k hlt'
      have EQ := Lib.hid (cmpN_eq (d := p.2) (e := q.2) hlt hlt')
      have LT := Lib.hid (cmpN_lt (d := p.2) (e := q.2) hlt hlt')
      have GT := Lib.hid (cmpN_gt (d := p.2) (e := q.2) hlt hlt')
      generalize p.1[k] = s at *
      generalize q.1[k] = t at *
      have hw1 : IntKind.i64.wrap (s * q.2) = s * q.2 := IntWalk.i64_in _ (by omega)
      have hw2 : IntKind.i64.wrap (t * p.2) = t * p.2 := IntWalk.i64_in _ (by omega)
      have HK := Lib.hid hb4
      go_wp2_with fail
      go_region_held3 (fun w' => w'.cell? ⟨w.heap.size + 1, 1, none⟩ = some (.int .i64 q.2) ∧ w'.cell? ⟨w.heap.size + 1, 0, none⟩ = some (.slice (some ⟨b', off', none⟩) q.1.length yc) ∧ w'.cell? ⟨b', off' + k, none⟩ = some (.int .i64 t) ∧ w'.cell? ⟨w.heap.size, 1, none⟩ = some (.int .i64 p.2) ∧ Below w2.heap.size w2 w')
        (first
          | with_reducible exact keepF4 n1 n0 hcell' m1 hbr
          | (go_split_ands; with_reducible exact keepE4 hb5 hb5 hb3 hb4 (by assumption) (by assumption) (by assumption) (by assumption) (by assumption) (by assumption))
          | go_keep)
        (first | (go_at_call 83; refine (i_ccmp (s * q.2) (t * p.2) _).mono ?_; rintro e w1 ⟨rfl, rfl⟩))
      rename_i hH
      have HB1 := Lib.hid hH.2.2.2.2
      have HA1 := Lib.hid (B2.out.trans (HB1.out.mono B2.out.size))
      clear hH hbr m0 m1 n0 n1 hcell hcell'
      obtain ⟨c, hc⟩ : ∃ c : Int, cmpI (s * q.2) (t * p.2) = c := ⟨_, rfl⟩
      have CC := Lib.hid hc
      rw [hc]
      clear hc
      by_cases e1 : s * q.2 = t * p.2
      · have E2 := Lib.hid ((EQ.out e1).symm.trans HT.out)
        have hc0 : c = 0 := CC.out.symm.trans (cmpI_eq e1)
        subst hc0
        go_wp2
        exact ⟨⟨k + 1, by omega, by go_num, E2.out, HB1.out⟩, by simp [RowKit.intOf]; omega⟩
      · by_cases e2 : s * q.2 < t * p.2
        · have E2 := Lib.hid ((LT.out e2).symm.trans HT.out)
          have hc0 : c = -1 := CC.out.symm.trans (cmpI_lt e2)
          subst hc0
          go_wp2
          go_ret
          exact ⟨ret_int E2.out, HA1.out⟩
        · have e3 : t * p.2 < s * q.2 := by omega
          have E2 := Lib.hid ((GT.out e3).symm.trans HT.out)
          have hc0 : c = 1 := CC.out.symm.trans (cmpI_gt e3)
          subst hc0
          go_wp2
          go_ret
          exact ⟨ret_int E2.out, HA1.out⟩
    · obtain rfl : k = p.1.length := by omega
      have E2 := Lib.hid (HT.out.symm.trans (cmpN_end C3.out))
      clear hbr
      go_wp2
      go_ret
      exact ⟨ret_int E2.out.symm, HA.out⟩
end Go.Proofs.Ytmogncpkdkdodaa
