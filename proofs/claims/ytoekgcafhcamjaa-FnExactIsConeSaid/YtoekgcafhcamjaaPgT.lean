/- The model's turns; rows that are points of the plane. -/
import Derived.Test.YtoekgcafhcamjaaPgA
import Derived.Test.YtoekgcafhcamjaaRw
import Derived.Test.YtoekgcafhcamjaaPgI
import Derived.BigQuiet
namespace Go.Proofs.Ytoekgcafhcamjaa
open Go.RowKit Go.Lib

theorem row_cells {w : World} {a : Value} {p : P2} (h : Sl w a (intVals (rowOf p))) : ∃ b off c : Nat, a = .slice (some ⟨b, off, none⟩) 2 c ∧ 2 ≤ c ∧ b < w.heap.size ∧ w.cell? ⟨b, off, none⟩ = some (.int .i64 p.1) ∧ w.cell? ⟨b, off + 1, none⟩ = some (.int .i64 p.2) := by
  obtain ⟨ad, c, rfl, _, ho⟩ := h.shape
  obtain ⟨b, off, rfl, hc, hlt, hx⟩ := ho (by simp [intVals, rowOf])
  exact ⟨b, off, c, by simp [intVals, rowOf], by simpa [intVals, rowOf] using hc, hlt, hx 0 _ rfl, hx 1 _ rfl⟩
theorem prodT {x y : Int} (hx : -4000 ≤ x ∧ x ≤ 4000) (hy : -4000 ≤ y ∧ y ≤ 4000) : -16000000 ≤ x * y ∧ x * y ≤ 16000000 := mul_bd hx.1 hx.2 hy.1 hy.2
set_option maxRecDepth 100000 in
set_option maxHeartbeats 400000 in
theorem s_cross (p q : P2) (hp : (-4000 ≤ p.1 ∧ p.1 ≤ 4000) ∧ -4000 ≤ p.2 ∧ p.2 ≤ 4000) (hq : (-4000 ≤ q.1 ∧ q.1 ≤ 4000) ∧ -4000 ≤ q.2 ∧ q.2 ≤ 4000) (a b : Value) (w : World) (ha : Sl w a (intVals (rowOf p))) (hb : Sl w b (intVals (rowOf q))) :
    Calls Try.prog 75 #[a, b] w (Quiet w (.int .i64 (p.1 * q.2 - p.2 * q.1))) := by
  obtain ⟨b1, o1, c1, rfl, k1, l1, x1, y1⟩ := row_cells ha
  obtain ⟨b2, o2, c2, rfl, k2, l2, x2, y2⟩ := row_cells hb
  obtain ⟨m1, m2⟩ := prodT hp.1 hq.2
  obtain ⟨n1, n2⟩ := prodT hp.2 hq.1
  clear ha hb hp hq
  obtain ⟨p1, p2⟩ := p
  obtain ⟨q1, q2⟩ := q
  simp only at *
  have HB := Lib.hid (Below.refl w.heap.size w)
  go_enter Try.func75, Try.ntmps75
  go_wp2
  go_quiet (fail)
  go_wp2
  go_ret
  refine ⟨rfl, below_drewN' HB.out _⟩

theorem lessL_row (p q : P2) : lessL (rowOf p) (rowOf q) = rowOf (p.1 - q.1, p.2 - q.2) := rfl
/-- Within bounds. -/
def BdP (n : Int) (p : P2) : Prop := (-n ≤ p.1 ∧ p.1 ≤ n) ∧ -n ≤ p.2 ∧ p.2 ≤ n
theorem BdP.bd {n : Int} {p : P2} (h : BdP n p) : Bd (rowOf p) n := by
  intro k hk
  rcases (by simp [rowOf] at hk; omega : k = 0 ∨ k = 1) with rfl | rfl
  · exact h.1
  · exact h.2
theorem BdP.less {n m r : Int} {p q : P2} (h : BdP n p) (k : BdP m q) (hr : n + m ≤ r) : BdP r (p.1 - q.1, p.2 - q.2) := by
  unfold BdP at *
  simp only
  omega
theorem turn_eq (a b c : P2) : (b.1 - a.1) * (c.2 - b.2) - (b.2 - a.2) * (c.1 - b.1) = turnP a b c := by
  unfold turnP
  grind
set_option maxRecDepth 100000 in
set_option maxHeartbeats 400000 in
theorem s_turn7 (p q r : P2) (hp : BdP 50 p) (hq : BdP 50 q) (hr : BdP 1000 r) (a b c : Value) (w : World) (ha : Sl w a (intVals (rowOf p))) (hb : Sl w b (intVals (rowOf q))) (hc : Sl w c (intVals (rowOf r))) :
    Calls Try.prog 117 #[a, b, c] w (Quiet w (.int .i64 (turnP p q r))) := by
  rw [← turn_eq]
  have HA := Lib.hid ha
  have HB := Lib.hid hb
  have HC := Lib.hid hc
  have h1 := hq.less hp (r := 4000) (by omega)
  have h2 := hr.less hq (r := 4000) (by omega)
  have HX := Lib.hid (And.intro h1 h2)
  have HD := Lib.hid (And.intro hp.bd (And.intro hq.bd hr.bd))
  obtain ⟨x, hx⟩ : ∃ x : P2, (q.1 - p.1, q.2 - p.2) = x := ⟨_, rfl⟩
  obtain ⟨y, hy⟩ : ∃ y : P2, (r.1 - q.1, r.2 - q.2) = y := ⟨_, rfl⟩
  have EX := Lib.hid hx
  have EY := Lib.hid hy
  rw [show (q.1 - p.1) * (r.2 - q.2) - (q.2 - p.2) * (r.1 - q.1) = x.1 * y.2 - x.2 * y.1 by rw [← hx, ← hy]]
  clear ha hb hc hp hq hr h1 h2 hx hy
  have W1 : Bd (rowOf p) 1000 := fun k hk => by have := HD.out.1 k hk; omega
  have W2 : Bd (rowOf q) 1000 := fun k hk => by have := HD.out.2.1 k hk; omega
  have HW := Lib.hid (And.intro W1 W2)
  clear W1 W2
  go_enter Try.func117, Try.ntmps117
  go_wp2_with fail
  refine (s_lessP (rowOf q) (rowOf p) rfl (by simp [rowOf]) 1000 (by omega) HW.out.2 HW.out.1 _ _ _ HB.out HA.out).mono ?_
  rintro e w1 ⟨⟨u1, rfl, h1⟩, b1⟩
  have H1 := Lib.hid h1.sl
  have B1 := Lib.hid b1
  clear h1 b1
  go_wp2_with fail
  refine (s_lessP (rowOf r) (rowOf q) rfl (by simp [rowOf]) 1000 (by omega) HD.out.2.2 HW.out.2 _ _ _ (HC.out.below B1.out) (HB.out.below B1.out)).mono ?_
  rintro e w2 ⟨⟨u2, rfl, h2⟩, b2⟩
  have H2 := Lib.hid h2.sl
  have B2 := Lib.hid b2
  have H1' := Lib.hid (H1.out.below b2)
  clear h2 b2
  rw [lessL_row] at H1' H2
  go_wp2_with fail
  refine (s_cross x y (by rw [← EX.out]; exact HX.out.1) (by rw [← EY.out]; exact HX.out.2) _ _ _ (by rw [← EX.out]; exact H1'.out) (by rw [← EY.out]; exact H2.out)).mono ?_
  rintro e w3 ⟨rfl, b3⟩
  have B3 := Lib.hid ((B1.out.trans (B2.out.mono B1.out.size)).trans (b3.mono (Nat.le_trans B1.out.size B2.out.size)))
  clear b3
  go_wp2
  go_ret
  exact ⟨rfl, B3.out⟩

set_option maxRecDepth 100000 in
set_option maxHeartbeats 800000 in
theorem s_flat (l : List (List Int)) (a : Value) (w : World) (hv : Rw w a l) :
    Calls Try.prog 84 #[a] w (Quiet w (.bool (flatR l))) := by
  obtain ⟨a, c, rfl, hm, hopen⟩ := hv.shape
  unfold maxLen at hm
  have HO := Lib.hid hopen
  clear hopen hv
  go_enter Try.func84, Try.ntmps84
  go_wp2
  go_loopw [3] (fun i wr => ∃ k : Nat, k ≤ l.length ∧ i = .int .i64 k ∧ flatR (l.take k) = true ∧ Below w.heap.size w wr) (fun i _ => l.length - (RowKit.intOf i).toNat)
  case atStart => exact ⟨0, Nat.zero_le _, rfl, rfl, Below.refl _ _⟩
  case round =>
    obtain ⟨k, hk, rfl, ht, hbr⟩ := hrel
    have HB := Lib.hid hbr
    have HT := Lib.hid ht
    clear ht
    by_cases hlt : k < l.length
    · obtain ⟨b, off, u, rfl, hc, hlt2, hcell, hsu⟩ := HO.out k _ (List.getElem?_eq_getElem hlt)
      rw [← hbr.cell (p := ⟨b, off + k, none⟩) hlt2] at hcell
      have hsu := hsu.below hbr
      obtain ⟨ua, uc, rfl, hum, _⟩ := hsu.shape
      rw [intVals_len] at hum hcell hsu
      unfold maxLen at hum
      have HU := Lib.hid hsu
      clear hbr hsu
      by_cases hl : l[k].length = 2
      · have i2 : (l[k].length : Int) = 2 := by omega
        have HF := Lib.hid (show flat1 l[k] = small l[k] 50 by unfold flat1; rw [decide_eq_true hl, Bool.true_and])
        rw [hl] at hcell HU
        have HL := Lib.hid hl
        clear hl i2
        by_cases hin : small l[k] 50 = true
        · have HI := Lib.hid hin
          clear hin
          go_wp2_with fail
          refine (s_small l[k] 50 (by omega) (by omega) _ _ HU.out).mono ?_
          rintro e w1 ⟨rfl, hb1⟩
          rw [HI.out]
          have HB1 := Lib.hid (HB.out.trans (hb1.mono HB.out.size))
          go_wp2_with fail
          exact ⟨⟨k + 1, by omega, by go_num, flatR_take hlt HT.out (by rw [HF.out, HI.out]), HB1.out⟩, by simp [RowKit.intOf]; omega⟩
        · have HI := Lib.hid (bool_f hin)
          clear hin
          go_wp2_with fail
          refine (s_small l[k] 50 (by omega) (by omega) _ _ HU.out).mono ?_
          rintro e w1 ⟨rfl, hb1⟩
          rw [HI.out]
          have HB1 := Lib.hid (HB.out.trans (hb1.mono HB.out.size))
          go_wp2_with fail
          go_ret
          exact ⟨ret_bool (flatR_not hlt (by rw [HF.out, HI.out])).symm, HB1.out⟩
      · have i2 : ¬ (l[k].length : Int) = 2 := by omega
        have HF := Lib.hid (show flat1 l[k] = false by unfold flat1; rw [decide_eq_false hl]; rfl)
        clear hl
        go_wp2_with fail
        go_ret
        exact ⟨ret_bool (flatR_not hlt HF.out).symm, HB.out⟩
    · obtain rfl : k = l.length := by omega
      clear hbr
      go_wp2
      go_ret
      refine ⟨ret_bool ?_, HB.out⟩
      have h := HT.out
      rw [List.take_length] at h
      exact h.symm
end Go.Proofs.Ytoekgcafhcamjaa
