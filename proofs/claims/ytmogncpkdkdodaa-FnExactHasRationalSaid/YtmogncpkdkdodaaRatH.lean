/- The model's HasRational. -/
import Derived.Test.YtmogncpkdkdodaaRatS
namespace Go.Proofs.Ytmogncpkdkdodaa
open Go.RowKit Go.Lib

theorem keep5D {w W : World} {p1 p2 p3 p4 p5 : Addr} {x1 x2 x3 x4 x5 : Value} (h1 : W.cell? p1 = some x1) (h2 : W.cell? p2 = some x2) (h3 : W.cell? p3 = some x3) (h4 : W.cell? p4 = some x4) (h5 : W.cell? p5 = some x5) (hb : Below w.heap.size w W) : W.drew.cell? p1 = some x1 ∧ W.drew.cell? p2 = some x2 ∧ W.drew.cell? p3 = some x3 ∧ W.drew.cell? p4 = some x4 ∧ W.drew.cell? p5 = some x5 ∧ Below w.heap.size w W.drew :=
  ⟨h1, h2, h3, h4, h5, hb.drew⟩
theorem keep5E {w W w1 : World} {p1 p2 p3 p4 p5 : Addr} {x1 x2 x3 x4 x5 : Value} (l1 : p1.block < w.heap.size) (l2 : p2.block < w.heap.size) (l3 : p3.block < w.heap.size) (l4 : p4.block < w.heap.size) (l5 : p5.block < w.heap.size) (h1 : W.cell? p1 = some x1) (h2 : W.cell? p2 = some x2) (h3 : W.cell? p3 = some x3) (h4 : W.cell? p4 = some x4) (h5 : W.cell? p5 = some x5) (hb : Below w.heap.size w W) (h : Below W.heap.size W w1) : w1.cell? p1 = some x1 ∧ w1.cell? p2 = some x2 ∧ w1.cell? p3 = some x3 ∧ w1.cell? p4 = some x4 ∧ w1.cell? p5 = some x5 ∧ Below w.heap.size w w1 :=
  ⟨(h.cell (Nat.lt_of_lt_of_le l1 hb.size)).trans h1, (h.cell (Nat.lt_of_lt_of_le l2 hb.size)).trans h2, (h.cell (Nat.lt_of_lt_of_le l3 hb.size)).trans h3, (h.cell (Nat.lt_of_lt_of_le l4 hb.size)).trans h4, (h.cell (Nat.lt_of_lt_of_le l5 hb.size)).trans h5, hb.trans (h.mono hb.size)⟩
/-- What is known of a half whose numbers meet a point's. -/
theorem half_rat {n : Int} {hs : List Hf} {p : Hf} (h : askQ n hs p = true) (k : Nat) (hk : k < hs.length) : hs[k].1.length = p.1.length ∧ hs[k].1.length ≤ 3 ∧ 1 ≤ hs[k].1.length ∧ Bd hs[k].1 20 ∧ Bd p.1 10000000 ∧ -20000000 ≤ hs[k].2 * p.2 ∧ hs[k].2 * p.2 ≤ 20000000 := by
  obtain ⟨h1, h2, h3⟩ := askQ_t h
  obtain ⟨a1, a2, a3, a4, a5, a6, a7⟩ := halfOk_t ((regOk_t h1).2.2.2 k hk)
  obtain ⟨b1, b2, b3⟩ := fineQ_t h2
  have := mul_bd a6 a7 (show -100000 ≤ p.2 by omega) b2
  exact ⟨by omega, by omega, by omega, a4, b3, by omega, by omega⟩

set_option maxRecDepth 100000 in
set_option maxHeartbeats 1600000 in
theorem s_hasq (r : Rgn) (p : Hf) (v u : Value) (w : World) (hv : Rg w v r) (hu : Hv w u p) :
    Calls Try.prog 31 #[v, u] w (Quiet w (.bool (hasQ r.1 r.2 p))) := by
  obtain ⟨n, hs'⟩ := r
  have HR := Lib.hid hv
  have HP := Lib.hid hu
  obtain ⟨x, rfl, hx⟩ := hv
  obtain ⟨y, rfl, hy⟩ := hu
  simp only at hx ⊢
  have HV := Lib.hid hx
  have HY := Lib.hid hy
  obtain ⟨xa, xc, rfl, xm⟩ := hx.shape
  obtain ⟨ya, yc, rfl, ym, _⟩ := hy.shape
  rw [intVals_len] at ym HY HP ⊢
  unfold maxLen at xm ym
  have B0 := Lib.hid (below2 w (.cells #[.int .i64 n, .slice xa hs'.length xc] 26) (.cells #[.slice ya p.1.length yc, .int .i64 p.2] 58))
  have K := Lib.hid (Bk.pair w #[.int .i64 n, .slice xa hs'.length xc] #[.slice ya p.1.length yc, .int .i64 p.2] 26 58)
  clear hx hy
  by_cases c1 : regOk n hs' = true
  case neg =>
    have C1 := Lib.hid (bool_f c1)
    have E := Lib.hid (hasQ_f (askQ_f1 (p := p) (bool_f c1)))
    clear c1
    go_enter Try.func31, Try.ntmps31
    go_wp2_with fail
    refine (s_isreg (n, hs') _ _ (HR.out.below B0.out)).mono ?_
    rintro e w1 ⟨rfl, hb⟩
    rw [C1.out]
    have B1 := Lib.hid (B0.out.trans (hb.mono B0.out.size))
    clear hb
    go_wp2_with fail
    go_ret
    exact ⟨ret_bool E.out.symm, B1.out⟩
  have C1 := Lib.hid c1
  by_cases c2 : fineQ p = true
  case neg =>
    have C2 := Lib.hid (bool_f c2)
    have E := Lib.hid (hasQ_f (askQ_f2 (n := n) (hs := hs') (bool_f c2)))
    clear c1 c2
    go_enter Try.func31, Try.ntmps31
    go_wp2_with fail
    refine (s_isreg (n, hs') _ _ (HR.out.below B0.out)).mono ?_
    rintro e w1 ⟨rfl, hb⟩
    rw [C1.out]
    have B1 := Lib.hid (B0.out.trans (hb.mono B0.out.size))
    obtain ⟨⟨n0, n1⟩, -⟩ := (K.out.2.below hb).two
    clear hb
    go_wp2_with fail
    refine (s_fine p _ _ (HP.out.below B1.out)).mono ?_
    rintro e w2 ⟨rfl, hb⟩
    rw [C2.out]
    have B2 := Lib.hid (B1.out.trans (hb.mono B1.out.size))
    clear hb n0 n1
    go_wp2_with fail
    go_ret
    exact ⟨ret_bool E.out.symm, B2.out⟩
  have C2 := Lib.hid c2
  by_cases c3 : (p.1.length : Int) = n
  case neg =>
    have E := Lib.hid (hasQ_f (askQ_f3 (hs := hs') c3))
    have hne : ((p.1.length : Int) != n) = true := by rw [bne_iff_ne]; exact c3
    clear c1 c2 c3
    go_enter Try.func31, Try.ntmps31
    go_wp2_with fail
    refine (s_isreg (n, hs') _ _ (HR.out.below B0.out)).mono ?_
    rintro e w1 ⟨rfl, hb⟩
    rw [C1.out]
    have B1 := Lib.hid (B0.out.trans (hb.mono B0.out.size))
    have K1 := Lib.hid (And.intro (K.out.1.below hb) (K.out.2.below hb))
    obtain ⟨⟨n0, n1⟩, -⟩ := K1.out.2.two
    clear hb
    go_wp2_with fail
    refine (s_fine p _ _ (HP.out.below B1.out)).mono ?_
    rintro e w2 ⟨rfl, hb⟩
    rw [C2.out]
    have B2 := Lib.hid (B1.out.trans (hb.mono B1.out.size))
    clear n0 n1
    obtain ⟨⟨m0, m1⟩, -⟩ := (K1.out.1.below hb).two
    obtain ⟨⟨n0, n1⟩, -⟩ := (K1.out.2.below hb).two
    clear hb
    go_wp2_with fail
    go_ret
    exact ⟨ret_bool E.out.symm, B2.out⟩
  have hne : ((p.1.length : Int) != n) = false := by rw [bne_eq_false_iff_eq]; exact c3
  have ASK := Lib.hid (askQ_mk c1 c2 c3)
  have E := Lib.hid (hasQ_t ASK.out)
  have HD := Lib.hid (half_rat ASK.out)
  clear c1 c2 c3
  go_enter Try.func31, Try.ntmps31
  go_wp2_with fail
  refine (s_isreg (n, hs') _ _ (HR.out.below B0.out)).mono ?_
  rintro e w1 ⟨rfl, hb⟩
  rw [C1.out]
  have B1 := Lib.hid (B0.out.trans (hb.mono B0.out.size))
  have K1 := Lib.hid (And.intro (K.out.1.below hb) (K.out.2.below hb))
  obtain ⟨⟨n0, n1⟩, -⟩ := K1.out.2.two
  clear hb
  go_wp2_with fail
  refine (s_fine p _ _ (HP.out.below B1.out)).mono ?_
  rintro e w2 ⟨rfl, hb⟩
  rw [C2.out]
  have B2 := Lib.hid (B1.out.trans (hb.mono B1.out.size))
  have K2 := Lib.hid (And.intro (K1.out.1.below hb) (K1.out.2.below hb))
  clear n0 n1 hb
  obtain ⟨⟨m0, m1⟩, -⟩ := K2.out.1.two
  obtain ⟨⟨n0, n1⟩, -⟩ := K2.out.2.two
  go_wp2
  clear m0 m1 n0 n1
  go_loopw [5] (fun i wr => ∃ k : Nat, k ≤ hs'.length ∧ i = .int .i64 k ∧ hasA (hs'.take k) p = true ∧ Below w2.heap.size w2 wr) (fun i _ => hs'.length - (RowKit.intOf i).toNat)
  case atStart => exact ⟨0, Nat.zero_le _, rfl, rfl, Below.refl _ _⟩
  case round =>
    obtain ⟨k, hk, rfl, ht, hbr⟩ := hrel
    have HB := Lib.hid hbr
    have HT := Lib.hid ht
    have HA := Lib.hid (B2.out.trans (hbr.mono B2.out.size))
    have hb4 := K2.out.1.lt
    have hb5 := K2.out.2.lt
    obtain ⟨⟨-, l1⟩, -⟩ := (K2.out.1.below hbr).two
    obtain ⟨⟨n0, n1⟩, -⟩ := (K2.out.2.below hbr).two
    clear ht
    by_cases hlt : k < hs'.length
    · obtain ⟨b, off, y, rfl, _, hb2, hcell, hcell1, hsx⟩ := HV.out.half k hlt rfl
      rw [← HA.out.cell (p := ⟨b, off + k * 2, none⟩) hb2] at hcell
      rw [← HA.out.cell (p := ⟨b, off + k * 2 + 1, none⟩) hb2] at hcell1
      have HX := Lib.hid hsx
      have i1 : (0 : Int) ≤ (k : Int) := by omega
      have i2 : (k : Int) < (hs'.length : Int) := by omega
      have hb3 : b < w2.heap.size := Nat.lt_of_lt_of_le hb2 B2.out.size
      obtain ⟨d1, d2, d3, d4, d5, d6, d7⟩ := HD.out k hlt
      have D := Lib.hid (And.intro d1 (And.intro d2 (And.intro d4 d5)))
      clear hsx d1 d2 d3 d4 d5
      obtain ⟨q, hq⟩ : ∃ q : Int, dotL hs'[k].1 p.1 = q := ⟨_, rfl⟩
      have HQ := Lib.hid hq
      clear hq
      have hwrap : IntKind.i64.wrap (hs'[k].2 * p.2) = hs'[k].2 * p.2 := IntWalk.i64_in _ (by omega)
      go_wp2_with fail
      go_region_held3 (fun w' => w'.cell? ⟨w.heap.size, 1, none⟩ = some (.slice (some ⟨b, off, none⟩) hs'.length xc) ∧ w'.cell? ⟨b, off + k * 2, none⟩ = some y ∧ w'.cell? ⟨b, off + k * 2 + 1, none⟩ = some (.int .i64 hs'[k].2) ∧ w'.cell? ⟨w.heap.size + 1, 0, none⟩ = some (.slice ya p.1.length yc) ∧ w'.cell? ⟨w.heap.size + 1, 1, none⟩ = some (.int .i64 p.2) ∧ Below w2.heap.size w2 w')
        (first
          | with_reducible exact keep5D l1 hcell hcell1 n0 n1 hbr
          | (go_split_ands; with_reducible exact keep5E hb4 hb3 hb3 hb5 hb5 (by assumption) (by assumption) (by assumption) (by assumption) (by assumption) (by assumption) (by assumption))
          | go_keep)
        (first | (go_at_call 76; refine (s_dot hs'[k].1 p.1 D.out.1 (by have := D.out.2.1; omega) 20 10000000 (by omega) (by omega) D.out.2.2.1 D.out.2.2.2 _ _ _ (HX.out.below HA.out.drew) (HY.out.below HA.out.drew)).mono ?_; rintro e w1 ⟨rfl, hb1⟩; rw [HQ.out]))
      rename_i hH
      have HB1 := Lib.hid hH.2.2.2.2.2
      clear hH hbr l1 hcell hcell1 n0 n1
      have HA1 := Lib.hid (B2.out.trans (HB1.out.mono B2.out.size))
      by_cases hd : q ≤ hs'[k].2 * p.2
      · have hd2 : ¬ hs'[k].2 * p.2 < q := by omega
        go_wp2
        exact ⟨⟨k + 1, by omega, by go_num, hasA_take hlt HT.out (by rw [HQ.out]; exact hd), HB1.out⟩, by simp [RowKit.intOf]; omega⟩
      · have hd2 : hs'[k].2 * p.2 < q := by omega
        go_wp2
        go_ret
        exact ⟨ret_bool (E.out.trans (hasA_not hlt (by rw [HQ.out]; omega))).symm, HA1.out⟩
    · obtain rfl : k = hs'.length := by omega
      have E2 := Lib.hid (E.out.trans (show hasA hs' p = true by have h := HT.out; rw [List.take_length] at h; exact h))
      clear hbr
      go_wp2
      go_ret
      exact ⟨ret_bool E2.out.symm, HA.out⟩
end Go.Proofs.Ytmogncpkdkdodaa
