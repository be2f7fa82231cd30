/- The drawing of a matrix and two lists. -/
import Derived.Test.YtjijgagdaolkcaaGreatMaz
import Derived.Test.YtjijgagdaolkcaaGreatMai
import Derived.OwnWalk
namespace Go.Proofs.YtjijgagdaolkcaaGreat
open Go Go.RowKit Go.Lib

/-- A matrix and two lists were drawn out of a law's bytes. -/
def DrewMVLL (w : World) (P : List (List Int) → List Int → List Int → Prop) (e : Ending) (w' : World) : Prop :=
  (∃ v u t zss xs ys, e = .returned (.tuple #[v, u, t]) ∧ P zss xs ys ∧ OwR 27 3 w.heap.size w'.heap.size w' v zss ∧ OwnV 3 w.heap.size w'.heap.size w' u (intVals xs) ∧ OwnV 3 w.heap.size w'.heap.size w' t (intVals ys)) ∧ Below w.heap.size w w'
def FewMXX (zss : List (List Int)) (xs ys : List Int) : Prop := FewMX zss xs ∧ ys.length ≤ 5 ∧ Bd ys 131

set_option maxRecDepth 100000 in
set_option maxHeartbeats 1600000 in
theorem d_sameclass (a : Option Addr) (c : Nat) (zs : List Int) (w0 w : World) (hbw : Below w0.heap.size w0 w) (hc : CodeIn w0 a zs) :
    Calls Tryz.prog 11 #[.slice a zs.length c] w (DrewMVLL w FewMXX) := by
  have HC := Lib.hid hc
  have HB0 := Lib.hid hbw
  clear hc hbw
  go_enter Tryz.func11, Tryz.ntmps11
  go_wp2_with fail
  refine (d_case8 a c zs w0 w HB0.out HC.out).mono ?_
  rintro e w1 ⟨⟨v, u, zss, xs, rfl, hf, ho, hv⟩, hb1⟩
  obtain ⟨va, vc, rfl, -⟩ := ho.rw.shape
  obtain ⟨ua, uc, rfl, -⟩ := hv.sl.shape
  rw [intVals_len] at hv ⊢
  have HF := Lib.hid hf
  have HO1 := Lib.hid (And.intro ho hv)
  have HB1 := Lib.hid hb1
  have hz4 : zss.length ≤ 4 := hf.1.1
  have hx5 : xs.length ≤ 5 := hf.2.1
  clear hf ho hv hb1
  go_wp2_with fail
  refine (draw_new' a c zs w0 w1 (HB0.out.trans (HB1.out.mono HB0.out.size)) HC.out).mono ?_
  rintro e w2 ⟨⟨p, rfl, hp1, hcur⟩, hb2⟩
  have hp : w.heap.size ≤ p := Nat.le_trans HB1.out.size hp1
  have HU2 := Lib.hid hcur
  have HB2 := Lib.hid (HB1.out.trans (hb2.mono HB1.out.size))
  have HO2 := Lib.hid (And.intro (HO1.out.1.below hb2) (HO1.out.2.below hb2))
  have HZ2 := Lib.hid hb2.size
  clear hcur hb2
  by_cases h0 : zss.length = 0
  · have h0' : ¬ (0 : Int) < zss.length := by omega
    clear h0
    go_wp2_with fail
    refine (d_draw _ p xs.length 20 (by omega) (by omega) (by omega) _ HU2.out).mono ?_
    rintro e w9 ⟨⟨u9, ys, rfl, ⟨hl9, hb9⟩, ho9⟩, hc9, hk9⟩
    have HB9 := Lib.hid (HB2.out.trans (hk9.below hp HB2.out.size))
    have HO9 := Lib.hid ((HO2.out.1.kept hk9 (.inl hp1)).mono (Nat.le_refl _) (Nat.le_trans HZ2.out hk9.size))
    have HV9 := Lib.hid ((HO2.out.2.kept hk9 (.inl hp1)).mono (Nat.le_refl _) (Nat.le_trans HZ2.out hk9.size))
    have HY9 := Lib.hid (ho9.mono (lo' := w.heap.size) HB2.out.size (Nat.le_refl _))
    have HL9 := Lib.hid hl9
    have HD9 := Lib.hid hb9
    clear hc9 hk9 ho9 hl9 hb9
    go_wp2_with fail
    go_ret3
    exact ⟨⟨_, _, _, zss, xs, ys, rfl, ⟨HF.out, by rw [HL9.out]; exact HF.out.2.1, bd_le HD9.out (by omega)⟩, HO9.out, HV9.out, HY9.out⟩, HB9.out⟩
  · have h0' : (0 : Int) < zss.length := by omega
    by_cases hlx : zss.length = xs.length
    · have hlx' : ((zss.length : Int) == (xs.length : Int)) = true := by rw [hlx]; exact beq_self_eq_true _
      have HX := Lib.hid hlx
      clear hlx
      cases him : isM zss with
      | false =>
        go_wp2_with fail
        refine (s_ismat zss _ _ HO2.out.1.rw).mono ?_
        rintro e w3 ⟨rfl, hb3⟩
        rw [him]
        have HU3 := Lib.hid (HU2.out.below hb3)
        have HB3 := Lib.hid (HB2.out.trans (hb3.mono HB2.out.size))
        have HO3 := Lib.hid (And.intro (HO2.out.1.below hb3) (HO2.out.2.below hb3))
        have HZ3 := Lib.hid (Nat.le_trans HZ2.out hb3.size)
        clear hb3
        go_wp2_with fail
        refine (d_draw _ p xs.length 20 (by omega) (by omega) (by omega) _ HU3.out).mono ?_
        rintro e w9 ⟨⟨u9, ys, rfl, ⟨hl9, hb9⟩, ho9⟩, hc9, hk9⟩
        have HB9 := Lib.hid (HB3.out.trans (hk9.below hp HB3.out.size))
        have HO9 := Lib.hid ((HO3.out.1.kept hk9 (.inl hp1)).mono (Nat.le_refl _) (Nat.le_trans HZ3.out hk9.size))
        have HV9 := Lib.hid ((HO3.out.2.kept hk9 (.inl hp1)).mono (Nat.le_refl _) (Nat.le_trans HZ3.out hk9.size))
        have HY9 := Lib.hid (ho9.mono (lo' := w.heap.size) HB3.out.size (Nat.le_refl _))
        have HL9 := Lib.hid hl9
        have HD9 := Lib.hid hb9
        clear hc9 hk9 ho9 hl9 hb9
        go_wp2_with fail
        go_ret3
        exact ⟨⟨_, _, _, zss, xs, ys, rfl, ⟨HF.out, by rw [HL9.out]; exact HF.out.2.1, bd_le HD9.out (by omega)⟩, HO9.out, HV9.out, HY9.out⟩, HB9.out⟩
      | true =>
        go_wp2_with fail
        refine (s_ismat zss _ _ HO2.out.1.rw).mono ?_
        rintro e w3 ⟨rfl, hb3⟩
        rw [him]
        have HU3 := Lib.hid (HU2.out.below hb3)
        have HB3 := Lib.hid (HB2.out.trans (hb3.mono HB2.out.size))
        have HO3 := Lib.hid (And.intro (HO2.out.1.below hb3) (HO2.out.2.below hb3))
        have HZ3 := Lib.hid (Nat.le_trans HZ2.out hb3.size)
        clear hb3
        go_wp2_with fail
        refine (d_once _ p 2 _ HU3.out (by omega) (by omega)).mono ?_
        rintro e w4 ⟨⟨coin, rfl⟩, hc4, hk4⟩
        have HU4 := Lib.hid hc4
        have HB4 := Lib.hid (HB3.out.trans (hk4.below hp HB3.out.size))
        have HO4 := Lib.hid (And.intro (HO3.out.1.kept hk4 (.inl hp1)) (HO3.out.2.kept hk4 (.inl hp1)))
        have HZ4 := Lib.hid (Nat.le_trans HZ3.out hk4.size)
        clear hc4 hk4
        cases coin with
        | false =>
          go_wp2_with fail
          refine (d_draw _ p xs.length 20 (by omega) (by omega) (by omega) _ HU4.out).mono ?_
          rintro e w9 ⟨⟨u9, ys, rfl, ⟨hl9, hb9⟩, ho9⟩, hc9, hk9⟩
          have HB9 := Lib.hid (HB4.out.trans (hk9.below hp HB4.out.size))
          have HO9 := Lib.hid ((HO4.out.1.kept hk9 (.inl hp1)).mono (Nat.le_refl _) (Nat.le_trans HZ4.out hk9.size))
          have HV9 := Lib.hid ((HO4.out.2.kept hk9 (.inl hp1)).mono (Nat.le_refl _) (Nat.le_trans HZ4.out hk9.size))
          have HY9 := Lib.hid (ho9.mono (lo' := w.heap.size) HB4.out.size (Nat.le_refl _))
          have HL9 := Lib.hid hl9
          have HD9 := Lib.hid hb9
          clear hc9 hk9 ho9 hl9 hb9
          go_wp2_with fail
          go_ret3
          exact ⟨⟨_, _, _, zss, xs, ys, rfl, ⟨HF.out, by rw [HL9.out]; exact HF.out.2.1, bd_le HD9.out (by omega)⟩, HO9.out, HV9.out, HY9.out⟩, HB9.out⟩
        | true =>
          go_wp2_with fail
          refine (draw_below _ p zss.length _ HU4.out (by omega) (by omega)).mono ?_
          rintro e w5 ⟨⟨v5, rfl, x, rfl, x0, x1⟩, hc5, hg5⟩
          obtain ⟨k, rfl⟩ : ∃ k : Nat, x = k := ⟨x.toNat, by omega⟩
          have hk : k < zss.length := by omega
          have hk5 := Kept.of_grown hg5
          have HB5 := Lib.hid (HB4.out.trans (hk5.below hp HB4.out.size))
          have HO5 := Lib.hid (And.intro (HO4.out.1.kept hk5 (.inl hp1)) (HO4.out.2.kept hk5 (.inl hp1)))
          have HZ5 := Lib.hid (Nat.le_trans HZ4.out hk5.size)
          clear hc5 hg5 hk5
          obtain ⟨g, u5, rfl, -, -, -, ck, -, ok, -, -⟩ := HO5.out.1.at k hk rfl
          have OK := Lib.hid ok
          clear ok
          have HR := Lib.hid (isM_t him)
          go_wp2_with fail
          clear hlx' h0'
          have hzk : zss[k].length = zss.length := (HR.out.2.2 k hk).1
          refine (s_add xs zss[k] (by rw [hzk, HX.out]) (by omega) 101 (by omega) (bd_le HF.out.2.2 (by omega)) (HF.out.1.2 _ (List.getElem_mem hk)).2 _ _ _ HO5.out.2.sl OK.out.sl).mono ?_
          rintro e w6 ⟨⟨v6, rfl, o6⟩, hb6⟩
          have HB6 := Lib.hid (HB5.out.trans (hb6.mono HB5.out.size))
          have HO6 := Lib.hid ((HO5.out.1.below hb6).mono (Nat.le_refl _) (Nat.le_trans HZ5.out hb6.size))
          have HV6 := Lib.hid ((HO5.out.2.below hb6).mono (Nat.le_refl _) (Nat.le_trans HZ5.out hb6.size))
          have HY6 := Lib.hid (o6.mono (lo' := w.heap.size) HB5.out.size (Nat.le_refl _))
          clear o6 hb6
          go_wp2_with fail
          go_ret3
          refine ⟨⟨_, _, _, zss, xs, _, rfl, ⟨HF.out, ?_, ?_⟩, HO6.out, HV6.out, HY6.out⟩, HB6.out⟩
          · simp only [addL, List.length_zipWith]; omega
          · intro j hj
            simp only [addL, List.length_zipWith] at hj
            have e : (addL xs zss[k])[j]'(by simp only [addL, List.length_zipWith]; omega) = xs[j] + zss[k][j] := by simp [addL]
            rw [e]
            have q1 := HF.out.2.2 j (by omega)
            have q2 := (HF.out.1.2 _ (List.getElem_mem hk)).2 j (by omega)
            omega
    · have hlx' : ¬ (zss.length : Int) = xs.length := by omega
      clear hlx
      go_wp2_with fail
      refine (d_draw _ p xs.length 20 (by omega) (by omega) (by omega) _ HU2.out).mono ?_
      rintro e w9 ⟨⟨u9, ys, rfl, ⟨hl9, hb9⟩, ho9⟩, hc9, hk9⟩
      have HB9 := Lib.hid (HB2.out.trans (hk9.below hp HB2.out.size))
      have HO9 := Lib.hid ((HO2.out.1.kept hk9 (.inl hp1)).mono (Nat.le_refl _) (Nat.le_trans HZ2.out hk9.size))
      have HV9 := Lib.hid ((HO2.out.2.kept hk9 (.inl hp1)).mono (Nat.le_refl _) (Nat.le_trans HZ2.out hk9.size))
      have HY9 := Lib.hid (ho9.mono (lo' := w.heap.size) HB2.out.size (Nat.le_refl _))
      have HL9 := Lib.hid hl9
      have HD9 := Lib.hid hb9
      clear hc9 hk9 ho9 hl9 hb9
      go_wp2_with fail
      go_ret3
      exact ⟨⟨_, _, _, zss, xs, ys, rfl, ⟨HF.out, by rw [HL9.out]; exact HF.out.2.1, bd_le HD9.out (by omega)⟩, HO9.out, HV9.out, HY9.out⟩, HB9.out⟩
end Go.Proofs.YtjijgagdaolkcaaGreat
