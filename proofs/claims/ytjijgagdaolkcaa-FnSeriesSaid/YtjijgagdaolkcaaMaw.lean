/- The model's cones: what one is, its index, which points it has. -/
import Derived.Test.YtjijgagdaolkcaaMap
import Derived.Test.YtjijgagdaolkcaaMav
import Derived.Test.YtjijgagdaolkcaaMaj
import Derived.Test.YtjijgagdaolkcaaMan
import Derived.Test.YtjijgagdaolkcaaVecJ
import Derived.Test.YtjijgagdaolkcaaRowApp
import Derived.Test.YtjijgagdaolkcaaMac
namespace Go.Proofs.Ytjijgagdaolkcaa
open Go Go.RowKit Go.Lib

set_option maxRecDepth 100000 in
set_option maxHeartbeats 400000 in
theorem s_ray (v : List Int) (a : Value) (w : World) (hv : Sl w a (intVals v)) :
    Calls Try.prog 85 #[a] w (Quiet w (.bool (rayR v))) := by
  have HV := Lib.hid hv
  obtain ⟨a, c, rfl, hm, _⟩ := hv.shape
  rw [intVals_len] at hm HV ⊢
  unfold maxLen at hm
  clear hv
  by_cases h2 : v.length = 2
  · have i2 : (v.length : Int) = 2 := by omega
    have E := Lib.hid (show rayR v = (small v 30 && decide (allG v = 1)) by unfold rayR; rw [decide_eq_true h2]; rfl)
    clear h2
    go_enter Try.func85, Try.ntmps85
    go_wp2_with fail
    refine (s_small v 30 (by omega) (by omega) _ _ HV.out).mono ?_
    rintro e w1 ⟨rfl, hb1⟩
    have B1 := Lib.hid hb1
    clear hb1
    cases hs : small v 30
    · have E2 := Lib.hid (show rayR v = false by rw [E.out, hs]; rfl)
      clear hs
      go_wp2_with fail
      go_ret
      exact ⟨ret_bool E2.out.symm, B1.out⟩
    · have BD := Lib.hid (small_bd hs)
      have E2 := Lib.hid (show rayR v = decide (allG v = 1) by rw [E.out, hs]; rfl)
      clear hs
      go_wp2_with fail
      refine (s_all v 30 (by omega) (by omega) BD.out _ _ (HV.out.below B1.out)).mono ?_
      rintro e w2 ⟨rfl, hb2⟩
      have B2 := Lib.hid (B1.out.trans (hb2.mono B1.out.size))
      clear hb2
      go_wp2_with fail
      go_ret
      exact ⟨ret_bool (by rw [E2.out]; rfl), B2.out⟩
  · have i2 : ¬ (v.length : Int) = 2 := by omega
    have E := Lib.hid (show rayR v = false by unfold rayR; rw [decide_eq_false h2]; rfl)
    clear h2
    go_enter Try.func85, Try.ntmps85
    go_wp2_with fail
    go_ret
    exact ⟨ret_bool E.out.symm, Below.refl _ _⟩

theorem Cn30.wide {p : P2} (h : Cn30 p) : (-4000 ≤ p.1 ∧ p.1 ≤ 4000) ∧ -4000 ≤ p.2 ∧ p.2 ≤ 4000 := by unfold Cn30 at h; omega
theorem coneR_f1 {c : Cn} (h : rayR c.1 = false) : coneR c = false := by unfold coneR; rw [h]; rfl
theorem coneR_f2 {c : Cn} (h1 : rayR c.1 = true) (h : rayR c.2 = false) : coneR c = false := by unfold coneR; rw [h1, h]; rfl
theorem coneR_e {c : Cn} (h1 : rayR c.1 = true) (h : rayR c.2 = true) : coneR c = decide (0 < crP (ptOf c.1) (ptOf c.2)) := by unfold coneR; rw [h1, h]; rfl
set_option maxRecDepth 100000 in
set_option maxHeartbeats 800000 in
theorem s_cone (c : Cn) (v : Value) (w : World) (hv : Cv w v c) :
    Calls Try.prog 28 #[v] w (Quiet w (.bool (coneR c))) := by
  obtain ⟨u, t, rfl, hs, ht⟩ := hv
  have HS := Lib.hid hs
  have HT := Lib.hid ht
  have K := Lib.hid (Bk.new w #[u, t] 26)
  have B0 := Lib.hid (below1 w (.cells #[u, t] 26))
  clear hs ht
  go_enter Try.func28, Try.ntmps28
  go_wp2_with fail
  refine (s_ray c.1 _ _ (HS.out.below B0.out)).mono ?_
  rintro e w1 ⟨rfl, hb⟩
  have K1 := Lib.hid (K.out.below hb)
  have B1 := Lib.hid (B0.out.trans (hb.mono B0.out.size))
  clear hb
  cases h1 : rayR c.1
  · have E := Lib.hid (coneR_f1 h1)
    clear h1
    go_wp2_with fail
    go_ret
    exact ⟨ret_bool E.out.symm, B1.out⟩
  have H1 := Lib.hid h1
  clear h1
  obtain ⟨⟨_, l1⟩, -⟩ := K1.out.two
  go_wp2_with fail
  refine (s_ray c.2 _ _ (HT.out.below B1.out)).mono ?_
  rintro e w2 ⟨rfl, hb⟩
  have K2 := Lib.hid (K1.out.below hb)
  have B2 := Lib.hid (B1.out.trans (hb.mono B1.out.size))
  clear hb l1
  cases h2 : rayR c.2
  · have E := Lib.hid (coneR_f2 H1.out h2)
    clear h2
    go_wp2_with fail
    go_ret
    exact ⟨ret_bool E.out.symm, B2.out⟩
  have H2 := Lib.hid h2
  have E := Lib.hid (coneR_e H1.out h2)
  clear h2
  have R1 := Lib.hid (rayR_t H1.out)
  have R2 := Lib.hid (rayR_t H2.out)
  obtain ⟨⟨l0, l1⟩, -⟩ := K2.out.two
  go_wp2_with fail
  refine (s_cross (ptOf c.1) (ptOf c.2) R1.out.2.2.1.wide R2.out.2.2.1.wide _ _ _ (by rw [R1.out.2.2.2.2]; exact HS.out.below B2.out) (by rw [R2.out.2.2.2.2]; exact HT.out.below B2.out)).mono ?_
  rintro e w3 ⟨rfl, hb⟩
  have B3 := Lib.hid (B2.out.trans (hb.mono B2.out.size))
  clear hb l0 l1
  go_wp2_with fail
  go_ret
  exact ⟨ret_bool (by rw [E.out]; exact decide_eq_decide.2 (by unfold crP; omega)), B3.out⟩

set_option maxRecDepth 100000 in
set_option maxHeartbeats 800000 in
theorem s_cindex (c : Cn) (v : Value) (w : World) (hv : Cv w v c) :
    Calls Try.prog 26 #[v] w (Quiet w (.int .i64 (cindexR c))) := by
  have HC := Lib.hid hv
  obtain ⟨u, t, rfl, hs, ht⟩ := hv
  have HS := Lib.hid hs
  have HT := Lib.hid ht
  have K := Lib.hid (Bk.new w #[u, t] 26)
  have B0 := Lib.hid (below1 w (.cells #[u, t] 26))
  clear hs ht
  obtain ⟨⟨l0, l1⟩, -⟩ := K.out.two
  go_enter Try.func26, Try.ntmps26
  go_wp2_with fail
  refine (s_cone c _ _ (HC.out.below B0.out)).mono ?_
  rintro e w1 ⟨rfl, hb⟩
  have K1 := Lib.hid (K.out.below hb)
  have B1 := Lib.hid (B0.out.trans (hb.mono B0.out.size))
  clear hb l0 l1
  cases h1 : coneR c
  · have E := Lib.hid (show cindexR c = 0 by unfold cindexR; rw [h1]; rfl)
    clear h1
    go_wp2_with fail
    go_ret
    exact ⟨ret_int E.out.symm, B1.out⟩
  have R := Lib.hid (coneR_t h1)
  have R1 := Lib.hid (rayR_t R.out.1)
  have R2 := Lib.hid (rayR_t R.out.2.1)
  have E := Lib.hid (show cindexR c = crP (ptOf c.1) (ptOf c.2) by unfold cindexR; rw [h1]; rfl)
  clear h1
  obtain ⟨⟨l0, l1⟩, -⟩ := K1.out.two
  go_wp2_with fail
  refine (s_cross (ptOf c.1) (ptOf c.2) R1.out.2.2.1.wide R2.out.2.2.1.wide _ _ _ (by rw [R1.out.2.2.2.2]; exact HS.out.below B1.out) (by rw [R2.out.2.2.2.2]; exact HT.out.below B1.out)).mono ?_
  rintro e w3 ⟨rfl, hb⟩
  have B3 := Lib.hid (B1.out.trans (hb.mono B1.out.size))
  clear hb l0 l1
  go_wp2_with fail
  go_ret
  exact ⟨ret_int (by rw [E.out]; rfl), B3.out⟩

theorem isV_pt {x : List Int} (h : isV x = true) (h2 : x.length = 2) : rowOf (ptOf x) = x ∧ (-1000 ≤ (ptOf x).1 ∧ (ptOf x).1 ≤ 1000) ∧ -1000 ≤ (ptOf x).2 ∧ (ptOf x).2 ≤ 1000 := by
  have hs := (isV_t h).2.2
  match x, h2 with
  | [a, b], _ => exact ⟨rfl, small_get hs 0 (by simp), small_get hs 1 (by simp)⟩
theorem incone_f1 {c : Cn} {x : List Int} (h : coneR c = false) : inconeR c x = false := by unfold inconeR; rw [h]; rfl
theorem incone_f2 {c : Cn} {x : List Int} (h : (isV x && decide (x.length = 2)) = false) : inconeR c x = false := by unfold inconeR; rw [h]; simp
theorem incone_e {c : Cn} {x : List Int} (h : coneR c = true) (h2 : (isV x && decide (x.length = 2)) = true) : inconeR c x = (decide (0 ≤ crP (ptOf c.1) (ptOf x)) && decide (0 ≤ crP (ptOf x) (ptOf c.2))) := by unfold inconeR; rw [h, h2]; rfl
set_option maxRecDepth 100000 in
set_option maxHeartbeats 1600000 in
theorem s_incone (c : Cn) (x : List Int) (v a : Value) (w : World) (hv : Cv w v c) (hx : Sl w a (intVals x)) :
    Calls Try.prog 23 #[v, a] w (Quiet w (.bool (inconeR c x))) := by
  have HC := Lib.hid hv
  have HX := Lib.hid hx
  obtain ⟨u, t, rfl, hs, ht⟩ := hv
  obtain ⟨a, ac, rfl, am, _⟩ := hx.shape
  rw [intVals_len] at am HX ⊢
  unfold maxLen at am
  have HS := Lib.hid hs
  have HT := Lib.hid ht
  have K := Lib.hid (Bk.new w #[u, t] 26)
  have B0 := Lib.hid (below1 w (.cells #[u, t] 26))
  clear hs ht hx
  obtain ⟨⟨l0, l1⟩, -⟩ := K.out.two
  go_enter Try.func23, Try.ntmps23
  go_wp2_with fail
  refine (s_cone c _ _ (HC.out.below B0.out)).mono ?_
  rintro e w1 ⟨rfl, hb⟩
  have K1 := Lib.hid (K.out.below hb)
  have B1 := Lib.hid (B0.out.trans (hb.mono B0.out.size))
  clear hb l0 l1
  cases h1 : coneR c
  · have E := Lib.hid (incone_f1 (x := x) h1)
    clear h1
    go_wp2_with fail
    go_ret
    exact ⟨ret_bool E.out.symm, B1.out⟩
  have C1 := Lib.hid h1
  have R := Lib.hid (coneR_t h1)
  have R1 := Lib.hid (rayR_t R.out.1)
  have R2 := Lib.hid (rayR_t R.out.2.1)
  clear h1
  go_wp2_with fail
  refine (s_isv x _ _ (HX.out.below B1.out)).mono ?_
  rintro e w2 ⟨rfl, hb⟩
  have K2 := Lib.hid (K1.out.below hb)
  have B2 := Lib.hid (B1.out.trans (hb.mono B1.out.size))
  clear hb
  cases h2 : isV x
  · have E := Lib.hid (incone_f2 (c := c) (x := x) (by rw [h2]; rfl))
    clear h2
    go_wp2_with fail
    go_ret
    exact ⟨ret_bool E.out.symm, B2.out⟩
  have V2 := Lib.hid h2
  clear h2
  by_cases h3 : x.length = 2
  case neg =>
    have E := Lib.hid (incone_f2 (c := c) (x := x) (by rw [V2.out, decide_eq_false h3]; rfl))
    have i3 : ((x.length : Int) == 2) = false := by rw [beq_eq_false_iff_ne]; omega
    clear h3
    go_wp2_with fail
    go_ret
    exact ⟨ret_bool E.out.symm, B2.out⟩
  have E := Lib.hid (incone_e (c := c) (x := x) C1.out (by rw [V2.out, decide_eq_true h3]; rfl))
  have PX := Lib.hid (isV_pt V2.out h3)
  have i3 : ((x.length : Int) == 2) = true := by rw [beq_iff_eq]; omega
  have HX2 := Lib.hid (show Sl w2 (.slice a x.length ac) (intVals (rowOf (ptOf x))) by rw [PX.out.1]; exact HX.out.below B2.out)
  obtain ⟨px, hpx⟩ : ∃ px, ptOf x = px := ⟨_, rfl⟩
  rw [hpx] at E PX HX2
  clear h3 hpx
  obtain ⟨⟨l0, l1⟩, -⟩ := K2.out.two
  go_wp2_with fail
  refine (s_cross (ptOf c.1) px R1.out.2.2.1.wide (by have := PX.out.2; omega) _ _ _ (by rw [R1.out.2.2.2.2]; exact HS.out.below B2.out) HX2.out).mono ?_
  rintro e w3 ⟨rfl, hb⟩
  have K3 := Lib.hid (K2.out.below hb)
  have HX3 := Lib.hid (HX2.out.below hb)
  have B3 := Lib.hid (B2.out.trans (hb.mono B2.out.size))
  clear hb l0 l1
  obtain ⟨q, hq⟩ : ∃ q, (ptOf c.1).1 * px.2 - (ptOf c.1).2 * px.1 = q := ⟨_, rfl⟩
  have E3 := Lib.hid (show inconeR c x = (decide (0 ≤ q) && decide (0 ≤ crP px (ptOf c.2))) by rw [E.out, ← hq]; rfl)
  rw [hq]
  clear hq i3
  by_cases h4 : 0 ≤ q
  case neg =>
    have E4 := Lib.hid (show inconeR c x = false by rw [E3.out, decide_eq_false h4]; rfl)
    go_wp2_with fail
    go_ret
    exact ⟨ret_bool E4.out.symm, B3.out⟩
  have E4 := Lib.hid (show inconeR c x = decide (0 ≤ crP px (ptOf c.2)) by rw [E3.out, decide_eq_true h4]; rfl)
  obtain ⟨⟨l0, l1⟩, -⟩ := K3.out.two
  go_wp2_with fail
  refine (s_cross px (ptOf c.2) (by have := PX.out.2; omega) R2.out.2.2.1.wide _ _ _ HX3.out (by rw [R2.out.2.2.2.2]; exact HT.out.below B3.out)).mono ?_
  rintro e w4 ⟨rfl, hb⟩
  have B4 := Lib.hid (B3.out.trans (hb.mono B3.out.size))
  clear hb l0 l1
  go_wp2_with fail
  go_ret
  exact ⟨ret_bool (by rw [E4.out]; exact decide_eq_decide.2 (by unfold crP; omega)), B4.out⟩
end Go.Proofs.Ytjijgagdaolkcaa
/- The model's l9Bezout and l9Next. -/
namespace Go.Proofs.Ytjijgagdaolkcaa
open Go Go.RowKit Go.Lib

theorem bez_ring {u : P2} (hu : Cn30 u) (hp : PrP u) : ∃ (N : Nat) (k : Int), N ≤ 30 ∧ -(N : Int) ≤ k ∧ k ≤ N ∧ (crP u (k, (N : Int)) = 1 ∨ crP u (k, -(N : Int)) = 1 ∨ crP u ((N : Int), k) = 1 ∨ crP u (-(N : Int), k) = 1) := by
  obtain ⟨⟨x, y⟩, hc, h⟩ := bez hu hp
  unfold Cn30 at hc
  simp only at hc
  by_cases hxy : x.natAbs ≤ y.natAbs
  · refine ⟨y.natAbs, x, by omega, by omega, by omega, ?_⟩
    rcases Int.natAbs_eq y with e | e
    · exact .inl (by rw [← e]; exact h)
    · exact .inr (.inl (by rw [← e]; exact h))
  · refine ⟨x.natAbs, y, by omega, by omega, by omega, ?_⟩
    rcases Int.natAbs_eq x with e | e
    · exact .inr (.inr (.inl (by rw [← e]; exact h)))
    · exact .inr (.inr (.inr (by rw [← e]; exact h)))
theorem own_two {w : World} {g lo hi : Nat} {x y : Int} (h : Bk w g #[.int .i64 x, .int .i64 y] 3) (h1 : lo ≤ g) (h2 : g < hi) : OwnV 3 lo hi w (.slice (some ⟨g, 0, none⟩) 2 2) (intVals (rowOf (x, y))) :=
  .inr ⟨g, 2, #[.int .i64 x, .int .i64 y], rfl, h1, h2, h, by simp [intVals, rowOf], by unfold maxLen; omega, rfl, rfl⟩
theorem below5 (w : World) (o p q r s : Obj) : Below w.heap.size w (((((w.alloc o).alloc p).alloc q).alloc r).alloc s) := ((below3 w o p q).alloc (by simp; omega) r).alloc (by simp; omega) s
/-- What the search leaves: some vector with determinant 1 behind u. -/
def BezP (u : P2) (w : World) (e : Ending) (w' : World) : Prop := (∃ (t : P2) (v : Value), Cn30 t ∧ crP u t = 1 ∧ e = .returned v ∧ OwnV 3 w.heap.size w'.heap.size w' v (intVals (rowOf t))) ∧ Below w.heap.size w w'
set_option maxRecDepth 100000 in
set_option maxHeartbeats 3200000 in
theorem s_bez (u : P2) (hu : Cn30 u) (hp : PrP u) (a : Value) (w : World) (ha : Sl w a (intVals (rowOf u))) :
    Calls Try.prog 111 #[a] w (BezP u w) := by
  obtain ⟨N, K, hN, hK1, hK2, hit⟩ := bez_ring hu hp
  have HIT := Lib.hid hit
  have HA := Lib.hid ha
  have HU := Lib.hid hu
  obtain ⟨ab, ao, ac, rfl, _, _, _, _⟩ := row_cells ha
  clear hit ha hu hp
  go_enter Try.func111, Try.ntmps111
  go_wp2_with fail
  go_loopw [3] (fun s wr => ∃ n : Nat, s = .int .i64 n ∧ n ≤ N ∧ Below w.heap.size w wr) (fun s _ => N + 1 - (RowKit.intOf s).toNat)
  case atStart => exact ⟨0, rfl, Nat.zero_le _, Below.refl _ _⟩
  case round =>
    obtain ⟨n, rfl, hn, hb1⟩ := hrel
    rename World => w1
    have HB1 := Lib.hid hb1
    clear hb1
    have wn : IntKind.i64.wrap (-(n : Int)) = -(n : Int) := IntWalk.i64_in _ (by omega)
    go_wp2_with fail
    go_loopw [4] (fun s wr => ∃ k : Int, s = .int .i64 k ∧ -(n : Int) ≤ k ∧ k ≤ (n : Int) + 1 ∧ (n = N → k ≤ K) ∧ Below w.heap.size w wr) (fun s _ => ((n : Int) + 1 - RowKit.intOf s).toNat)
    case atStart => exact ⟨-(n : Int), rfl, by omega, by omega, fun h => by omega, HB1.out⟩
    case round =>
      obtain ⟨k, rfl, hk1, hk2, hkK, hb⟩ := hrel
      have HB := Lib.hid hb
      have HKK := Lib.hid hkK
      clear hb hkK
      by_cases hle : k ≤ (n : Int)
      · obtain ⟨H, hH⟩ : ∃ H, wr.heap.size = H := ⟨_, rfl⟩
        go_wp2_with fail
        obtain ⟨W0, hW0⟩ : ∃ W0, ((((wr.alloc (.cells #[.int .i64 k, .int .i64 n] 3)).alloc (.cells #[.int .i64 k, .int .i64 (-(n : Int))] 3)).alloc (.cells #[.int .i64 n, .int .i64 k] 3)).alloc (.cells #[.int .i64 (-(n : Int)), .int .i64 k] 3)).alloc (.cells #[.slice (some ⟨H, 0, none⟩) 2 2, .slice (some ⟨H + 1, 0, none⟩) 2 2, .slice (some ⟨H + 1 + 1, 0, none⟩) 2 2, .slice (some ⟨H + 1 + 1 + 1, 0, none⟩) 2 2] 24) = W0 := ⟨_, rfl⟩
        have KR0_0 := Lib.hid (show Bk W0 H #[.int .i64 k, .int .i64 n] 3 by rw [← hW0]; exact ((((Bk.newAt hH _ _).alloc _).alloc _).alloc _).alloc _)
        have KR0_1 := Lib.hid (show Bk W0 (H + 1) #[.int .i64 k, .int .i64 (-(n : Int))] 3 by rw [← hW0]; exact (((Bk.newAt (by simp [hH]) _ _).alloc _).alloc _).alloc _)
        have KR0_2 := Lib.hid (show Bk W0 (H + 1 + 1) #[.int .i64 n, .int .i64 k] 3 by rw [← hW0]; exact ((Bk.newAt (by simp [hH]) _ _).alloc _).alloc _)
        have KR0_3 := Lib.hid (show Bk W0 (H + 1 + 1 + 1) #[.int .i64 (-(n : Int)), .int .i64 k] 3 by rw [← hW0]; exact (Bk.newAt (by simp [hH]) _ _).alloc _)
        have KT0 := Lib.hid (show Bk W0 (H + 1 + 1 + 1 + 1) #[.slice (some ⟨H, 0, none⟩) 2 2, .slice (some ⟨H + 1, 0, none⟩) 2 2, .slice (some ⟨H + 1 + 1, 0, none⟩) 2 2, .slice (some ⟨H + 1 + 1 + 1, 0, none⟩) 2 2] 24 by rw [← hW0]; exact Bk.newAt (by simp [hH]) _ _)
        have BB0 := Lib.hid (show Below w.heap.size w W0 by rw [← hW0]; exact HB.out.trans ((below5 wr _ _ _ _ _).mono HB.out.size))
        have HH := Lib.hid (show w.heap.size ≤ H by rw [← hH]; exact HB.out.size)
        rw [hW0]
        clear hW0 hH
        refine wp_loop_rounds 5 ?_
        rw [rounds_succ]
        have c0 := KT0.out.cell 0 (v := .slice (some ⟨H, 0, none⟩) 2 2) rfl
        go_wp2_with fail
        refine (s_cross u (k, (n : Int)) HU.out.wide (by simp only; omega) _ _ _ (HA.out.below BB0.out) (own_two (lo := w.heap.size) (hi := H + 1) KR0_0.out (by have := HH.out; omega) (by omega)).sl).mono ?_
        rintro e w1 ⟨rfl, hb⟩
        obtain ⟨q0, hq0⟩ : ∃ q, u.1 * ((k, (n : Int)) : P2).2 - u.2 * ((k, (n : Int)) : P2).1 = q := ⟨_, rfl⟩
        rw [hq0]
        have hc0 : crP u (k, (n : Int)) = q0 := hq0
        have HC0 := Lib.hid hc0
        have KT1 := Lib.hid (KT0.out.below hb)
        have KR1_0 := Lib.hid (KR0_0.out.below hb)
        have KR1_1 := Lib.hid (KR0_1.out.below hb)
        have KR1_2 := Lib.hid (KR0_2.out.below hb)
        have KR1_3 := Lib.hid (KR0_3.out.below hb)
        have BB1 := Lib.hid (BB0.out.trans (hb.mono BB0.out.size))
        clear hb hq0 hc0 c0 KT0 KR0_0 KR0_1 KR0_2 KR0_3
        by_cases z0 : q0 = 1
        · have c0 := KT1.out.cell 0 (v := .slice (some ⟨H, 0, none⟩) 2 2) rfl
          have R := Lib.hid (own_two (lo := w.heap.size) (hi := w1.heap.size) KR1_0.out (by have := HH.out; omega) KR1_0.out.lt)
          go_wp2
          go_ret
          exact ⟨⟨(k, (n : Int)), _, by unfold Cn30; simp only; omega, by rw [HC0.out]; exact z0, rfl, R.out⟩, BB1.out⟩
        go_wp2_with fail
        rw [rounds_succ]
        have c1 := KT1.out.cell 1 (v := .slice (some ⟨H + 1, 0, none⟩) 2 2) rfl
        go_wp2_with fail
        refine (s_cross u (k, -(n : Int)) HU.out.wide (by simp only; omega) _ _ _ (HA.out.below BB1.out) (own_two (lo := w.heap.size) (hi := H + 1 + 1) KR1_1.out (by have := HH.out; omega) (by omega)).sl).mono ?_
        rintro e w2 ⟨rfl, hb⟩
        obtain ⟨q1, hq1⟩ : ∃ q, u.1 * ((k, -(n : Int)) : P2).2 - u.2 * ((k, -(n : Int)) : P2).1 = q := ⟨_, rfl⟩
        rw [hq1]
        have hc1 : crP u (k, -(n : Int)) = q1 := hq1
        have HC1 := Lib.hid hc1
        have KT2 := Lib.hid (KT1.out.below hb)
        have KR2_0 := Lib.hid (KR1_0.out.below hb)
        have KR2_1 := Lib.hid (KR1_1.out.below hb)
        have KR2_2 := Lib.hid (KR1_2.out.below hb)
        have KR2_3 := Lib.hid (KR1_3.out.below hb)
        have BB2 := Lib.hid (BB1.out.trans (hb.mono BB1.out.size))
        clear hb hq1 hc1 c1 KT1 KR1_0 KR1_1 KR1_2 KR1_3
        by_cases z1 : q1 = 1
        · have c1 := KT2.out.cell 1 (v := .slice (some ⟨H + 1, 0, none⟩) 2 2) rfl
          have R := Lib.hid (own_two (lo := w.heap.size) (hi := w2.heap.size) KR2_1.out (by have := HH.out; omega) KR2_1.out.lt)
          go_wp2
          go_ret
          exact ⟨⟨(k, -(n : Int)), _, by unfold Cn30; simp only; omega, by rw [HC1.out]; exact z1, rfl, R.out⟩, BB2.out⟩
        go_wp2_with fail
        rw [rounds_succ]
        have c2 := KT2.out.cell 2 (v := .slice (some ⟨H + 1 + 1, 0, none⟩) 2 2) rfl
        go_wp2_with fail
        refine (s_cross u ((n : Int), k) HU.out.wide (by simp only; omega) _ _ _ (HA.out.below BB2.out) (own_two (lo := w.heap.size) (hi := H + 1 + 1 + 1) KR2_2.out (by have := HH.out; omega) (by omega)).sl).mono ?_
        rintro e w3 ⟨rfl, hb⟩
        obtain ⟨q2, hq2⟩ : ∃ q, u.1 * (((n : Int), k) : P2).2 - u.2 * (((n : Int), k) : P2).1 = q := ⟨_, rfl⟩
        rw [hq2]
        have hc2 : crP u ((n : Int), k) = q2 := hq2
        have HC2 := Lib.hid hc2
        have KT3 := Lib.hid (KT2.out.below hb)
        have KR3_0 := Lib.hid (KR2_0.out.below hb)
        have KR3_1 := Lib.hid (KR2_1.out.below hb)
        have KR3_2 := Lib.hid (KR2_2.out.below hb)
        have KR3_3 := Lib.hid (KR2_3.out.below hb)
        have BB3 := Lib.hid (BB2.out.trans (hb.mono BB2.out.size))
        clear hb hq2 hc2 c2 KT2 KR2_0 KR2_1 KR2_2 KR2_3
        by_cases z2 : q2 = 1
        · have c2 := KT3.out.cell 2 (v := .slice (some ⟨H + 1 + 1, 0, none⟩) 2 2) rfl
          have R := Lib.hid (own_two (lo := w.heap.size) (hi := w3.heap.size) KR3_2.out (by have := HH.out; omega) KR3_2.out.lt)
          go_wp2
          go_ret
          exact ⟨⟨((n : Int), k), _, by unfold Cn30; simp only; omega, by rw [HC2.out]; exact z2, rfl, R.out⟩, BB3.out⟩
        go_wp2_with fail
        rw [rounds_succ]
        have c3 := KT3.out.cell 3 (v := .slice (some ⟨H + 1 + 1 + 1, 0, none⟩) 2 2) rfl
        go_wp2_with fail
        refine (s_cross u (-(n : Int), k) HU.out.wide (by simp only; omega) _ _ _ (HA.out.below BB3.out) (own_two (lo := w.heap.size) (hi := H + 1 + 1 + 1 + 1) KR3_3.out (by have := HH.out; omega) (by omega)).sl).mono ?_
        rintro e w4 ⟨rfl, hb⟩
        obtain ⟨q3, hq3⟩ : ∃ q, u.1 * ((-(n : Int), k) : P2).2 - u.2 * ((-(n : Int), k) : P2).1 = q := ⟨_, rfl⟩
        rw [hq3]
        have hc3 : crP u (-(n : Int), k) = q3 := hq3
        have HC3 := Lib.hid hc3
        have KT4 := Lib.hid (KT3.out.below hb)
        have KR4_0 := Lib.hid (KR3_0.out.below hb)
        have KR4_1 := Lib.hid (KR3_1.out.below hb)
        have KR4_2 := Lib.hid (KR3_2.out.below hb)
        have KR4_3 := Lib.hid (KR3_3.out.below hb)
        have BB4 := Lib.hid (BB3.out.trans (hb.mono BB3.out.size))
        clear hb hq3 hc3 c3 KT3 KR3_0 KR3_1 KR3_2 KR3_3
        by_cases z3 : q3 = 1
        · have c3 := KT4.out.cell 3 (v := .slice (some ⟨H + 1 + 1 + 1, 0, none⟩) 2 2) rfl
          have R := Lib.hid (own_two (lo := w.heap.size) (hi := w4.heap.size) KR4_3.out (by have := HH.out; omega) KR4_3.out.lt)
          go_wp2
          go_ret
          exact ⟨⟨(-(n : Int), k), _, by unfold Cn30; simp only; omega, by rw [HC3.out]; exact z3, rfl, R.out⟩, BB4.out⟩
        go_wp2_with fail
        rw [rounds_succ]
        go_wp2
        refine ⟨⟨k + 1, by go_num, by omega, by omega, fun h => ?_, BB4.out⟩, by simp [RowKit.intOf]; omega⟩
        have h1 := HKK.out h
        apply Classical.byContradiction
        intro h2
        obtain rfl : k = K := by omega
        subst h
        have i0 := HC0.out; have i1 := HC1.out; have i2 := HC2.out; have i3 := HC3.out
        rcases HIT.out with h | h | h | h
        · exact z0 (by rw [← i0]; exact h)
        · exact z1 (by rw [← i1]; exact h)
        · exact z2 (by rw [← i2]; exact h)
        · exact z3 (by rw [← i3]; exact h)
      · have hk3 : k = (n : Int) + 1 := by omega
        subst hk3
        go_wp2_with fail
        refine ⟨⟨n + 1, by go_num, ?_, HB.out⟩, by simp [RowKit.intOf]; omega⟩
        rcases Nat.lt_or_ge n N with h | h
        · exact h
        · have := HKK.out (by omega); omega
theorem quo_bd {a d : Int} (ha : -1800 ≤ a ∧ a ≤ 1800) (hd : 0 < d) : -1800 ≤ a / d ∧ a / d ≤ 1800 :=
  ⟨Int.le_ediv_of_mul_le hd (by omega), Int.ediv_le_of_le_mul hd (by omega)⟩
set_option maxRecDepth 100000 in
set_option maxHeartbeats 1600000 in
theorem s_next (u v : P2) (hT : Two u v) (hd : 0 < crP u v) (a b : Value) (w : World) (ha : Sl w a (intVals (rowOf u))) (hb : Sl w b (intVals (rowOf v))) :
    Calls Try.prog 79 #[a, b] w (Made w (rowOf (nxP u v))) := by
  have HA := Lib.hid ha
  have HB := Lib.hid hb
  have HT := Lib.hid hT
  have bd := cr_bd hT.1 hT.2.1
  have NX := Lib.hid (fun (t : P2) (h : crP u t = 1) => nxP_eq (nx_of h hd))
  obtain ⟨d, ed⟩ : ∃ d, crP u v = d := ⟨_, rfl⟩
  have ED := Lib.hid ed
  rw [ed] at hd bd NX
  obtain ⟨ab, ao, ac, rfl, _, _, _, _⟩ := row_cells ha
  obtain ⟨bb, bo, bc, rfl, _, _, _, _⟩ := row_cells hb
  clear ha hb hT ed
  go_enter Try.func79, Try.ntmps79
  go_wp2_with fail
  refine (s_cross u v HT.out.1.wide HT.out.2.1.wide _ _ _ HA.out HB.out).mono ?_
  rintro e w1 ⟨rfl, hb1⟩
  rw [show u.1 * v.2 - u.2 * v.1 = d from ED.out]
  have B1 := Lib.hid hb1
  clear hb1
  go_wp2_with fail
  refine (s_bez u HT.out.1 HT.out.2.2.1 _ _ (HA.out.below B1.out)).mono ?_
  rintro e w2 ⟨⟨t, x, ht, hut, rfl, hx⟩, hb2⟩
  have HX := Lib.hid hx
  have B2 := Lib.hid (B1.out.trans (hb2.mono B1.out.size))
  have TT := Lib.hid ht
  have NXT := Lib.hid (NX.out t hut)
  obtain ⟨xa, xc, rfl, _⟩ := hx.shape1
  have bt := cr_bd ht HT.out.2.1
  have qb := quo_bd bt hd
  clear hb2 hx ht hut
  obtain ⟨m, hm⟩ : ∃ m, crP t v = m := ⟨_, rfl⟩
  have HM := Lib.hid hm
  rw [hm] at NXT bt qb
  clear hm
  go_wp2_with fail
  refine (s_cross t v TT.out.wide HT.out.2.1.wide _ _ _ HX.out.sl (HB.out.below B2.out)).mono ?_
  rintro e w3 ⟨rfl, hb3⟩
  rw [show t.1 * v.2 - t.2 * v.1 = m from HM.out]
  have B3 := Lib.hid (B2.out.trans (hb3.mono B2.out.size))
  have HX3 := Lib.hid (HX.out.below hb3)
  clear hb3
  go_wp2_with fail
  refine (s_floor m d (by omega) (by omega) hd (by omega) _).mono ?_
  rintro e w4 ⟨rfl, rfl⟩
  obtain ⟨q, hq⟩ : ∃ q, m / d = q := ⟨_, rfl⟩
  rw [hq] at NXT qb ⊢
  clear hq
  have U30 := Lib.hid (show Bd (rowOf u) 30 from fun k hk => by
    rcases (by simp [rowOf] at hk; omega : k = 0 ∨ k = 1) with rfl | rfl
    · exact HT.out.1.1
    · exact HT.out.1.2)
  go_wp2_with fail
  refine (s_scale (rowOf u) (by simp [rowOf]) 30 1800 q U30.out (by omega) (by omega) (by omega) _ _ (HA.out.below B3.out)).mono ?_
  rintro e w5 ⟨⟨y, rfl, hy⟩, hb5⟩
  have HY := Lib.hid (show OwnV _ _ _ _ _ (intVals (rowOf (u.1 * q, u.2 * q))) from hy)
  have B5 := Lib.hid (B3.out.trans (hb5.mono B3.out.size))
  have HX5 := Lib.hid (HX3.out.below hb5)
  obtain ⟨ya, yc, rfl, _⟩ := hy.shape1
  have m1 := mul_le30 (b := u.1) (a := q + 1800) (m := 3600) HT.out.1.1 (by omega)
  have m2 := mul_le30 (b := u.2) (a := q + 1800) (m := 3600) HT.out.1.2 (by omega)
  rw [Int.mul_add] at m1 m2
  have t30 := TT.out
  have u30 := HT.out.1
  unfold Cn30 at t30 u30
  have D1 := Lib.hid (show Bd (rowOf t) 1000000 from fun k hk => by
    rcases (by simp [rowOf] at hk; omega : k = 0 ∨ k = 1) with rfl | rfl
    · show -1000000 ≤ t.1 ∧ t.1 ≤ 1000000; omega
    · show -1000000 ≤ t.2 ∧ t.2 ≤ 1000000; omega)
  have D2 := Lib.hid (show Bd (rowOf (u.1 * q, u.2 * q)) 1000000 from fun k hk => by
    rcases (by simp [rowOf] at hk; omega : k = 0 ∨ k = 1) with rfl | rfl
    · show -1000000 ≤ u.1 * q ∧ u.1 * q ≤ 1000000; omega
    · show -1000000 ≤ u.2 * q ∧ u.2 * q ≤ 1000000; omega)
  clear hb5 hy m1 m2 t30 u30
  go_wp2_with fail
  refine (s_lessP (rowOf t) (rowOf (u.1 * q, u.2 * q)) rfl (by simp [rowOf]) 1000000 (by omega) D1.out D2.out _ _ _ HX5.out.sl HY.out.sl).mono ?_
  rintro e w6 ⟨⟨z, rfl, hz⟩, hb6⟩
  have B6 := Lib.hid (B5.out.trans (hb6.mono B5.out.size))
  have HZ := Lib.hid (show OwnV 3 w.heap.size w6.heap.size w6 z (intVals (rowOf (nxP u v))) by rw [NXT.out]; exact hz.mono B5.out.size (Nat.le_refl _))
  clear hb6 hz
  go_wp2_with fail
  go_ret
  exact ⟨⟨_, rfl, HZ.out⟩, B6.out⟩
end Go.Proofs.Ytjijgagdaolkcaa
/- The program's cones: what one is, its index, which points it has. -/
namespace Go.Proofs.Ytjijgagdaolkcaa
open Go Go.RowKit Go.Lib

set_option maxRecDepth 100000 in
theorem i_noray (x : Int) (w : World) : Calls Try.prog 114 #[.int .i64 x] w fun e w' => e = .returned (.bool (!inR x (-30) 30)) ∧ w = w' := by
  by_cases h1 : x < -30
  · have h := Lib.hid (inR_f (x := x) (lo := -30) (hi := 30) (fun h => by omega))
    go_enter Try.func114, Try.ntmps114
    go_wp2
    go_ret
    exact ⟨ret_bool (by rw [h.out]; rfl), rfl⟩
  · by_cases h2 : 30 < x
    · have h := Lib.hid (inR_f (x := x) (lo := -30) (hi := 30) (fun h => by omega))
      go_enter Try.func114, Try.ntmps114
      go_wp2
      go_ret
      exact ⟨ret_bool (by rw [h.out]; rfl), rfl⟩
    · have h := Lib.hid (inR_mk (x := x) (lo := -30) (hi := 30) (by omega) (by omega))
      go_enter Try.func114, Try.ntmps114
      go_wp2
      go_ret
      exact ⟨ret_bool (by rw [h.out]; rfl), rfl⟩

/-- Where the first number lies that is no coordinate, or -1. -/
def IdxRy (v : List Int) (w : World) (e : Ending) (w' : World) : Prop :=
  ((small v 30 = true ∧ e = .returned (.int .i64 (-1))) ∨ (small v 30 = false ∧ ∃ k : Nat, e = .returned (.int .i64 k))) ∧ Below w.heap.size w w'

set_option maxRecDepth 100000 in
set_option maxHeartbeats 400000 in
theorem i_indexry (v : List Int) (a : Value) (w : World) (hv : Sl w a (intVals v)) :
    Calls Try.prog 110 #[a, .func (.func 114) #[] #[]] w (IdxRy v w) := by
  obtain ⟨a, c, rfl, hm, hopen⟩ := hv.shape
  rw [intVals_len] at hm hopen ⊢
  unfold maxLen at hm
  have HO := Lib.hid hopen
  clear hopen hv
  go_enter Try.func110, Try.ntmps110
  go_wp2
  go_loopw [5, 8] (fun _ i wr => ∃ k : Nat, k ≤ v.length ∧ i = .int .i64 k ∧ small (v.take k) 30 = true ∧ Below w.heap.size w wr) (fun _ i _ => v.length - (RowKit.intOf i).toNat)
  case atStart => exact ⟨0, Nat.zero_le _, rfl, rfl, Below.refl _ _⟩
  case round =>
    obtain ⟨k, hk, rfl, ht, hbr⟩ := hrel
    have HB := Lib.hid hbr
    have HT := Lib.hid ht
    clear ht
    by_cases hlt : k < v.length
    · obtain ⟨b, off, rfl, hc, hlt2, hx⟩ := HO.out (by omega)
      have hcell := hx k _ (intVals_get v k hlt)
      rw [← hbr.cell (p := ⟨b, off + k, none⟩) hlt2] at hcell
      clear hx hbr
      by_cases hin : inR v[k] (-30) 30 = true
      · have HI := Lib.hid hin
        clear hin
        go_wp2_with fail
        refine (i_noray _ _).mono ?_
        rintro e w1 ⟨rfl, rfl⟩
        rw [HI.out]
        go_wp2_with fail
        exact ⟨⟨k + 1, by omega, by go_num, small_take hlt HT.out HI.out, HB.out⟩, by simp [RowKit.intOf]; omega⟩
      · have HI := Lib.hid (Bool.not_eq_true _ ▸ hin)
        clear hin
        go_wp2_with fail
        refine (i_noray _ _).mono ?_
        rintro e w1 ⟨rfl, rfl⟩
        rw [HI.out]
        go_wp2_with fail
        go_ret
        exact ⟨.inr ⟨small_not hlt HI.out, k, rfl⟩, HB.out⟩
    · obtain rfl : k = v.length := by omega
      clear hbr
      go_wp2
      go_ret
      refine ⟨.inl ⟨?_, rfl⟩, HB.out⟩
      have h := HT.out
      rw [List.take_length] at h
      exact h

set_option maxRecDepth 100000 in
theorem i_containsry (v : List Int) (a : Value) (w : World) (hv : Sl w a (intVals v)) :
    Calls Try.prog 71 #[a, .func (.func 114) #[] #[]] w (Quiet w (.bool (!small v 30))) := by
  have HV := Lib.hid hv
  clear hv
  go_enter Try.func71, Try.ntmps71
  go_wp2_with fail
  refine (i_indexry v a _ HV.out).mono ?_
  rintro e w1 ⟨⟨hs, rfl⟩ | ⟨hs, k, rfl⟩, hb⟩
  · have HS := Lib.hid hs
    clear hs
    go_wp2_with fail
    go_ret
    exact ⟨ret_bool (by rw [HS.out]; rfl), hb⟩
  · have HS := Lib.hid hs
    clear hs
    have h0 : (0 : Int) ≤ (k : Int) := by omega
    go_wp2_with fail
    go_ret
    exact ⟨ret_bool (by rw [HS.out]; rfl), hb⟩

theorem ray_two {v : List Int} (h : v.length = 2) : ∃ x y, v = rowOf (x, y) := by
  match v, h with
  | [a, b], _ => exact ⟨a, b, rfl⟩
theorem i_numP (p : P2) (a : Value) (w : World) (hv : Sl w a (intVals (rowOf p))) :
    Calls Try.prog 82 #[a] w (Quiet w (ptV p)) := i_num (rowOf p) p.1 p.2 0 rfl (by simp [rowOf]) (by simp [rowOf]) a w hv
theorem rayR_f1 {v : List Int} (h : v.length ≠ 2) : rayR v = false := by unfold rayR; rw [decide_eq_false h]; rfl
theorem rayR_f2 {v : List Int} (h : small v 30 = false) : rayR v = false := by unfold rayR; rw [h]; simp
theorem rayR_e {x y : Int} (h : small (rowOf (x, y)) 30 = true) : rayR (rowOf (x, y)) = decide (gcdI x y = 1) := by
  unfold rayR
  rw [h, show allG (rowOf (x, y)) = gcdI x y from gcd_two x y]; rfl
theorem coneF_1 {c : Cn} (h : rayR c.1 = false) : coneR c = false := by unfold coneR; rw [h]; rfl
theorem coneF_2 {c : Cn} (h1 : rayR c.1 = true) (h : rayR c.2 = false) : coneR c = false := by unfold coneR; rw [h1, h]; rfl
theorem coneE {c : Cn} (h1 : rayR c.1 = true) (h : rayR c.2 = true) : coneR c = decide (0 < crP (ptOf c.1) (ptOf c.2)) := by unfold coneR; rw [h1, h]; rfl
theorem Cn30.bd4 {p : P2} (h : Cn30 p) : BdP 4000 p := by unfold Cn30 at h; unfold BdP; omega

set_option maxRecDepth 100000 in
set_option maxHeartbeats 1600000 in
theorem i_primray (v : List Int) (a : Value) (w : World) (hv : Sl w a (intVals v)) :
    Calls Try.prog 84 #[a] w (Quiet w (.bool (rayR v))) := by
  by_cases h2 : v.length = 2
  · obtain ⟨x, y, rfl⟩ := ray_two h2
    have HV := Lib.hid hv
    obtain ⟨b, off, c, rfl, hc, hlt, hx, hy⟩ := row_cells hv
    clear h2 hv
    by_cases hs : small (rowOf (x, y)) 30 = true
    · have E := Lib.hid (rayR_e hs)
      have CC := Lib.hid (show ∀ W, Sl W (.slice (some ⟨b, off, none⟩) 2 c) (intVals (rowOf (x, y))) → Calls Try.prog 71 #[.slice (some ⟨b, off, none⟩) 2 c, .func (.func 114) #[] #[]] W (Quiet W (.bool false)) from fun W hW => by have h := i_containsry (rowOf (x, y)) (.slice (some ⟨b, off, none⟩) 2 c) W hW; rw [hs] at h; exact h)
      have CG := Lib.hid (fun W => i_gcd x y (by have := small_get hs 0 (by simp [rowOf]); simp [rowOf] at this; omega) (by have := small_get hs 0 (by simp [rowOf]); simp [rowOf] at this; omega) (by have := small_get hs 1 (by simp [rowOf]); simp [rowOf] at this; omega) (by have := small_get hs 1 (by simp [rowOf]); simp [rowOf] at this; omega) W)
      clear hs
      generalize gcdI x y = g at *
      go_enter Try.func84, Try.ntmps84
      go_wp2_with fail
      refine T_begin (z := fun k => 17 < k) (S := fun (w' : World) => w'.cell? ⟨b, off, none⟩ = some (.int .i64 x) ∧ w'.cell? ⟨b, off + 1, none⟩ = some (.int .i64 y) ∧ Below w.heap.size w w') (by kernel_rfl) ?_
      show wpAnyT _ _ _ _ _ _ 19 _ _ _
      have hS0 := Lib.hid (show (fun (w' : World) => w'.cell? ⟨b, off, none⟩ = some (.int .i64 x) ∧ w'.cell? ⟨b, off + 1, none⟩ = some (.int .i64 y) ∧ Below w.heap.size w w') (w.drew) from ⟨hx, hy, (Below.refl _ _).drew⟩)
      refine T_take (i := 0) (v := .slice (some ⟨b, off, none⟩) 2 c) rfl (by kernel_rfl) (by kernel_rfl) (by kernel_rfl) (by kernel_rfl) (fun _ _ _ h => h) hS0.out (by kernel_rfl) (fun w' hS' => by obtain ⟨h0, h1, -⟩ := hS'; go_simp) ?_
      refine T_take (i := 1) (v := .int .i64 2) rfl (by kernel_rfl) (by kernel_rfl) (by kernel_rfl) (by kernel_rfl) (fun _ _ _ h => h) hS0.out (by kernel_rfl) (fun w' hS' => by obtain ⟨h0, h1, -⟩ := hS'; go_simp) ?_
      refine T_take (i := 2) (v := .bool true) rfl (by kernel_rfl) (by kernel_rfl) (by kernel_rfl) (by kernel_rfl) (fun _ _ _ h => h) hS0.out (by kernel_rfl) (fun w' hS' => by obtain ⟨h0, h1, -⟩ := hS'; go_simp) ?_
      refine T_take (i := 3) (v := .bool true) rfl (by kernel_rfl) (by kernel_rfl) (by kernel_rfl) (by kernel_rfl) (fun _ _ _ h => h) hS0.out (by kernel_rfl) (fun w' hS' => by obtain ⟨h0, h1, -⟩ := hS'; go_simp) ?_
      refine T_take (i := 4) (v := .slice (some ⟨b, off, none⟩) 2 c) rfl (by kernel_rfl) (by kernel_rfl) (by kernel_rfl) (by kernel_rfl) (fun _ _ _ h => h) hS0.out (by kernel_rfl) (fun w' hS' => by obtain ⟨h0, h1, -⟩ := hS'; go_simp) ?_
      refine T_step (i := 5) rfl (by kernel_rfl) rfl (by kernel_rfl) ?_
      intro K hK
      go_simp
      refine (CC.out _ (HV.out.below hS0.out.2.2)).mono ?_
      rintro e' wT1 ⟨rfl, hb1⟩
      have hS1 := Lib.hid (show (fun (w' : World) => w'.cell? ⟨b, off, none⟩ = some (.int .i64 x) ∧ w'.cell? ⟨b, off + 1, none⟩ = some (.int .i64 y) ∧ Below w.heap.size w w') wT1 from ⟨(hb1.cell (Nat.lt_of_lt_of_le hlt hS0.out.2.2.size)).trans hS0.out.1, (hb1.cell (p := ⟨b, off + 1, none⟩) (Nat.lt_of_lt_of_le hlt hS0.out.2.2.size)).trans hS0.out.2.1, hS0.out.2.2.trans (hb1.mono hS0.out.2.2.size)⟩)
      refine hK.out _ _ hS1.out ?_
      clear hK K
      refine T_take (i := 6) (v := .bool true) rfl (by kernel_rfl) (by kernel_rfl) (by kernel_rfl) (by kernel_rfl) (fun _ _ _ h => h) hS1.out (by kernel_rfl) (fun w' hS' => by obtain ⟨h0, h1, -⟩ := hS'; go_simp) ?_
      refine T_take (i := 7) (v := .bool true) rfl (by kernel_rfl) (by kernel_rfl) (by kernel_rfl) (by kernel_rfl) (fun _ _ _ h => h) hS1.out (by kernel_rfl) (fun w' hS' => by obtain ⟨h0, h1, -⟩ := hS'; go_simp) ?_
      refine T_take (i := 8) (v := .bool true) rfl (by kernel_rfl) (by kernel_rfl) (by kernel_rfl) (by kernel_rfl) (fun _ _ _ h => h) hS1.out (by kernel_rfl) (fun w' hS' => by obtain ⟨h0, h1, -⟩ := hS'; go_simp) ?_
      refine T_take (i := 9) (v := .slice (some ⟨b, off, none⟩) 2 c) rfl (by kernel_rfl) (by kernel_rfl) (by kernel_rfl) (by kernel_rfl) (fun _ _ _ h => h) hS1.out (by kernel_rfl) (fun w' hS' => by obtain ⟨h0, h1, -⟩ := hS'; go_simp) ?_
      refine T_take (i := 10) (v := .pointer (some ⟨b, off, none⟩)) rfl (by kernel_rfl) (by kernel_rfl) (by kernel_rfl) (by kernel_rfl) (fun _ _ _ h => h) hS1.out (by kernel_rfl) (fun w' hS' => by obtain ⟨h0, h1, -⟩ := hS'; go_simp) ?_
      refine T_take (i := 11) (v := .int .i64 x) rfl (by kernel_rfl) (by kernel_rfl) (by kernel_rfl) (by kernel_rfl) (fun _ _ _ h => h) hS1.out (by kernel_rfl) (fun w' hS' => by obtain ⟨h0, h1, -⟩ := hS'; go_simp) ?_
      refine T_take (i := 12) (v := .slice (some ⟨b, off, none⟩) 2 c) rfl (by kernel_rfl) (by kernel_rfl) (by kernel_rfl) (by kernel_rfl) (fun _ _ _ h => h) hS1.out (by kernel_rfl) (fun w' hS' => by obtain ⟨h0, h1, -⟩ := hS'; go_simp) ?_
      refine T_take (i := 13) (v := .pointer (some ⟨b, off + 1, none⟩)) rfl (by kernel_rfl) (by kernel_rfl) (by kernel_rfl) (by kernel_rfl) (fun _ _ _ h => h) hS1.out (by kernel_rfl) (fun w' hS' => by obtain ⟨h0, h1, -⟩ := hS'; go_simp) ?_
      refine T_take (i := 14) (v := .int .i64 y) rfl (by kernel_rfl) (by kernel_rfl) (by kernel_rfl) (by kernel_rfl) (fun _ _ _ h => h) hS1.out (by kernel_rfl) (fun w' hS' => by obtain ⟨h0, h1, -⟩ := hS'; go_simp) ?_
      refine T_step (i := 15) rfl (by kernel_rfl) rfl (by kernel_rfl) ?_
      intro K hK
      go_simp
      refine (CG.out _).mono ?_
      rintro e' wT2 ⟨rfl, hb2⟩
      have hS2 := Lib.hid (show (fun (w' : World) => w'.cell? ⟨b, off, none⟩ = some (.int .i64 x) ∧ w'.cell? ⟨b, off + 1, none⟩ = some (.int .i64 y) ∧ Below w.heap.size w w') wT2 from ⟨(hb2.cell (Nat.lt_of_lt_of_le hlt hS1.out.2.2.size)).trans hS1.out.1, (hb2.cell (p := ⟨b, off + 1, none⟩) (Nat.lt_of_lt_of_le hlt hS1.out.2.2.size)).trans hS1.out.2.1, hS1.out.2.2.trans (hb2.mono hS1.out.2.2.size)⟩)
      refine hK.out _ _ hS2.out ?_
      clear hK K
      refine T_take (i := 16) (v := .bool (g == 1)) rfl (by kernel_rfl) (by kernel_rfl) (by kernel_rfl) (by kernel_rfl) (fun _ _ _ h => h) hS2.out (by kernel_rfl) (fun w' hS' => by obtain ⟨h0, h1, -⟩ := hS'; go_simp) ?_
      refine T_take (i := 17) (v := .bool (g == 1)) rfl (by kernel_rfl) (by kernel_rfl) (by kernel_rfl) (by kernel_rfl) (fun _ _ _ h => h) hS2.out (by kernel_rfl) (fun w' hS' => by obtain ⟨h0, h1, -⟩ := hS'; go_simp) ?_
      refine T_last (i := 18) rfl (by kernel_rfl) (by kernel_rfl) rfl (by kernel_rfl) ?_
      go_simp
      have HB := Lib.hid hS2.out.2.2
      clear hS0 hS1 hS2
      go_wp2
      go_ret
      exact ⟨ret_bool (by rw [E.out]; rfl), HB.out⟩
    · have E := Lib.hid (rayR_f2 (bool_f hs))
      have CC := Lib.hid (show ∀ W, Sl W (.slice (some ⟨b, off, none⟩) 2 c) (intVals (rowOf (x, y))) → Calls Try.prog 71 #[.slice (some ⟨b, off, none⟩) 2 c, .func (.func 114) #[] #[]] W (Quiet W (.bool true)) from fun W hW => by have h := i_containsry (rowOf (x, y)) (.slice (some ⟨b, off, none⟩) 2 c) W hW; rw [bool_f hs] at h; exact h)
      clear hs
      go_enter Try.func84, Try.ntmps84
      go_wp2_with fail
      refine T_begin (z := fun k => 17 < k) (S := fun (w' : World) => w'.cell? ⟨b, off, none⟩ = some (.int .i64 x) ∧ w'.cell? ⟨b, off + 1, none⟩ = some (.int .i64 y) ∧ Below w.heap.size w w') (by kernel_rfl) ?_
      show wpAnyT _ _ _ _ _ _ 19 _ _ _
      have hS0 := Lib.hid (show (fun (w' : World) => w'.cell? ⟨b, off, none⟩ = some (.int .i64 x) ∧ w'.cell? ⟨b, off + 1, none⟩ = some (.int .i64 y) ∧ Below w.heap.size w w') (w.drew) from ⟨hx, hy, (Below.refl _ _).drew⟩)
      refine T_take (i := 0) (v := .slice (some ⟨b, off, none⟩) 2 c) rfl (by kernel_rfl) (by kernel_rfl) (by kernel_rfl) (by kernel_rfl) (fun _ _ _ h => h) hS0.out (by kernel_rfl) (fun w' hS' => by obtain ⟨h0, h1, -⟩ := hS'; go_simp) ?_
      refine T_take (i := 1) (v := .int .i64 2) rfl (by kernel_rfl) (by kernel_rfl) (by kernel_rfl) (by kernel_rfl) (fun _ _ _ h => h) hS0.out (by kernel_rfl) (fun w' hS' => by obtain ⟨h0, h1, -⟩ := hS'; go_simp) ?_
      refine T_take (i := 2) (v := .bool true) rfl (by kernel_rfl) (by kernel_rfl) (by kernel_rfl) (by kernel_rfl) (fun _ _ _ h => h) hS0.out (by kernel_rfl) (fun w' hS' => by obtain ⟨h0, h1, -⟩ := hS'; go_simp) ?_
      refine T_take (i := 3) (v := .bool true) rfl (by kernel_rfl) (by kernel_rfl) (by kernel_rfl) (by kernel_rfl) (fun _ _ _ h => h) hS0.out (by kernel_rfl) (fun w' hS' => by obtain ⟨h0, h1, -⟩ := hS'; go_simp) ?_
      refine T_take (i := 4) (v := .slice (some ⟨b, off, none⟩) 2 c) rfl (by kernel_rfl) (by kernel_rfl) (by kernel_rfl) (by kernel_rfl) (fun _ _ _ h => h) hS0.out (by kernel_rfl) (fun w' hS' => by obtain ⟨h0, h1, -⟩ := hS'; go_simp) ?_
      refine T_step (i := 5) rfl (by kernel_rfl) rfl (by kernel_rfl) ?_
      intro K hK
      go_simp
      refine (CC.out _ (HV.out.below hS0.out.2.2)).mono ?_
      rintro e' wT1 ⟨rfl, hb1⟩
      have hS1 := Lib.hid (show (fun (w' : World) => w'.cell? ⟨b, off, none⟩ = some (.int .i64 x) ∧ w'.cell? ⟨b, off + 1, none⟩ = some (.int .i64 y) ∧ Below w.heap.size w w') wT1 from ⟨(hb1.cell (Nat.lt_of_lt_of_le hlt hS0.out.2.2.size)).trans hS0.out.1, (hb1.cell (p := ⟨b, off + 1, none⟩) (Nat.lt_of_lt_of_le hlt hS0.out.2.2.size)).trans hS0.out.2.1, hS0.out.2.2.trans (hb1.mono hS0.out.2.2.size)⟩)
      refine hK.out _ _ hS1.out ?_
      clear hK K
      refine T_take (i := 6) (v := .bool false) rfl (by kernel_rfl) (by kernel_rfl) (by kernel_rfl) (by kernel_rfl) (fun _ _ _ h => h) hS1.out (by kernel_rfl) (fun w' hS' => by obtain ⟨h0, h1, -⟩ := hS'; go_simp) ?_
      refine T_take (i := 7) (v := .bool false) rfl (by kernel_rfl) (by kernel_rfl) (by kernel_rfl) (by kernel_rfl) (fun _ _ _ h => h) hS1.out (by kernel_rfl) (fun w' hS' => by obtain ⟨h0, h1, -⟩ := hS'; go_simp) ?_
      refine T_take (i := 8) (v := .bool false) rfl (by kernel_rfl) (by kernel_rfl) (by kernel_rfl) (by kernel_rfl) (fun _ _ _ h => h) hS1.out (by kernel_rfl) (fun w' hS' => by obtain ⟨h0, h1, -⟩ := hS'; go_simp) ?_
      refine T_pass (i := 9) rfl (by kernel_rfl) (by kernel_rfl) (by kernel_rfl) (by kernel_rfl) (fun _ _ _ h => h) hS1.out (by kernel_rfl) ?_
      refine T_pass (i := 10) rfl (by kernel_rfl) (by kernel_rfl) (by kernel_rfl) (by kernel_rfl) (fun _ _ _ h => h) hS1.out (by kernel_rfl) ?_
      refine T_pass (i := 11) rfl (by kernel_rfl) (by kernel_rfl) (by kernel_rfl) (by kernel_rfl) (fun _ _ _ h => h) hS1.out (by kernel_rfl) ?_
      refine T_pass (i := 12) rfl (by kernel_rfl) (by kernel_rfl) (by kernel_rfl) (by kernel_rfl) (fun _ _ _ h => h) hS1.out (by kernel_rfl) ?_
      refine T_pass (i := 13) rfl (by kernel_rfl) (by kernel_rfl) (by kernel_rfl) (by kernel_rfl) (fun _ _ _ h => h) hS1.out (by kernel_rfl) ?_
      refine T_pass (i := 14) rfl (by kernel_rfl) (by kernel_rfl) (by kernel_rfl) (by kernel_rfl) (fun _ _ _ h => h) hS1.out (by kernel_rfl) ?_
      refine T_pass (i := 15) rfl (by kernel_rfl) (by kernel_rfl) (by kernel_rfl) (by kernel_rfl) (fun _ _ _ h => h) hS1.out (by kernel_rfl) ?_
      refine T_pass (i := 16) rfl (by kernel_rfl) (by kernel_rfl) (by kernel_rfl) (by kernel_rfl) (fun _ _ _ h => h) hS1.out (by kernel_rfl) ?_
      refine T_take (i := 17) (v := .bool false) rfl (by kernel_rfl) (by kernel_rfl) (by kernel_rfl) (by kernel_rfl) (fun _ _ _ h => h) hS1.out (by kernel_rfl) (fun w' hS' => by obtain ⟨h0, h1, -⟩ := hS'; go_simp) ?_
      refine T_last (i := 18) rfl (by kernel_rfl) (by kernel_rfl) rfl (by kernel_rfl) ?_
      go_simp
      have HB := Lib.hid hS1.out.2.2
      clear hS0 hS1
      go_wp2
      go_ret
      exact ⟨ret_bool E.out.symm, HB.out⟩
  · have E := Lib.hid (rayR_f1 h2)
    obtain ⟨ad, c, rfl, hm, _⟩ := hv.shape
    rw [intVals_len] at hm ⊢
    unfold maxLen at hm
    have i2 : ((v.length : Int) == 2) = false := by rw [beq_eq_false_iff_ne]; omega
    clear hv h2
    go_enter Try.func84, Try.ntmps84
    go_wp2_with fail
    go_quiet (fail)
    go_wp2
    go_ret
    exact ⟨ret_bool E.out.symm, below_drewN' (Below.refl _ _) _⟩

set_option maxRecDepth 100000 in
set_option maxHeartbeats 1600000 in
theorem i_cone (c : Cn) (v : Value) (w : World) (hv : Cv w v c) :
    Calls Try.prog 27 #[v] w (Quiet w (.bool (coneR c))) := by
  obtain ⟨u, t, rfl, hs, ht⟩ := hv
  have HS := Lib.hid hs
  have HT := Lib.hid ht
  have K := Lib.hid (Bk.new w #[u, t] 26)
  have B0 := Lib.hid (below1 w (.cells #[u, t] 26))
  clear hs ht
  by_cases h1 : rayR c.1 = true
  case neg =>
    have H1 := Lib.hid (bool_f h1)
    have E := Lib.hid (coneF_1 (bool_f h1))
    clear h1
    go_enter Try.func27, Try.ntmps27
    go_wp2_with fail
    refine T_begin (z := fun k => 17 < k) (S := fun (w' : World) => Bk w' w.heap.size #[u, t] 26 ∧ Below w.heap.size w w') (by kernel_rfl) ?_
    show wpAnyT _ _ _ _ _ _ 19 _ _ _
    have hS0 := Lib.hid (show (fun (w' : World) => Bk w' w.heap.size #[u, t] 26 ∧ Below w.heap.size w w') ((w.alloc (.cells #[u, t] 26)).drew) from ⟨K.out, B0.out.drew⟩)
    refine T_take (i := 0) (v := .pointer (some ⟨w.heap.size, 0, none⟩)) rfl (by kernel_rfl) (by kernel_rfl) (by kernel_rfl) (by kernel_rfl) (fun _ _ _ h => h) hS0.out (by kernel_rfl) (fun w' hS' => by obtain ⟨⟨h0, h1⟩, -⟩ := hS'.1.two; go_simp) ?_
    refine T_take (i := 1) (v := u) rfl (by kernel_rfl) (by kernel_rfl) (by kernel_rfl) (by kernel_rfl) (fun _ _ _ h => h) hS0.out (by kernel_rfl) (fun w' hS' => by obtain ⟨⟨h0, h1⟩, -⟩ := hS'.1.two; go_simp) ?_
    refine T_step (i := 2) rfl (by kernel_rfl) rfl (by kernel_rfl) ?_
    intro K hK
    go_simp
    refine (i_primray c.1 u _ (HS.out.below hS0.out.2)).mono ?_
    rintro e' wT1 ⟨rfl, hb1⟩
    rw [H1.out]
    have hS1 := Lib.hid (show (fun (w' : World) => Bk w' w.heap.size #[u, t] 26 ∧ Below w.heap.size w w') wT1 from ⟨hS0.out.1.below hb1, hS0.out.2.trans (hb1.mono hS0.out.2.size)⟩)
    refine hK.out _ _ hS1.out ?_
    clear hK K
    refine T_take (i := 3) (v := .bool false) rfl (by kernel_rfl) (by kernel_rfl) (by kernel_rfl) (by kernel_rfl) (fun _ _ _ h => h) hS1.out (by kernel_rfl) (fun w' hS' => by obtain ⟨⟨h0, h1⟩, -⟩ := hS'.1.two; go_simp) ?_
    refine T_pass (i := 4) rfl (by kernel_rfl) (by kernel_rfl) (by kernel_rfl) (by kernel_rfl) (fun _ _ _ h => h) hS1.out (by kernel_rfl) ?_
    refine T_pass (i := 5) rfl (by kernel_rfl) (by kernel_rfl) (by kernel_rfl) (by kernel_rfl) (fun _ _ _ h => h) hS1.out (by kernel_rfl) ?_
    refine T_pass (i := 6) rfl (by kernel_rfl) (by kernel_rfl) (by kernel_rfl) (by kernel_rfl) (fun _ _ _ h => h) hS1.out (by kernel_rfl) ?_
    refine T_take (i := 7) (v := .bool false) rfl (by kernel_rfl) (by kernel_rfl) (by kernel_rfl) (by kernel_rfl) (fun _ _ _ h => h) hS1.out (by kernel_rfl) (fun w' hS' => by obtain ⟨⟨h0, h1⟩, -⟩ := hS'.1.two; go_simp) ?_
    refine T_take (i := 8) (v := .bool false) rfl (by kernel_rfl) (by kernel_rfl) (by kernel_rfl) (by kernel_rfl) (fun _ _ _ h => h) hS1.out (by kernel_rfl) (fun w' hS' => by obtain ⟨⟨h0, h1⟩, -⟩ := hS'.1.two; go_simp) ?_
    refine T_pass (i := 9) rfl (by kernel_rfl) (by kernel_rfl) (by kernel_rfl) (by kernel_rfl) (fun _ _ _ h => h) hS1.out (by kernel_rfl) ?_
    refine T_pass (i := 10) rfl (by kernel_rfl) (by kernel_rfl) (by kernel_rfl) (by kernel_rfl) (fun _ _ _ h => h) hS1.out (by kernel_rfl) ?_
    refine T_pass (i := 11) rfl (by kernel_rfl) (by kernel_rfl) (by kernel_rfl) (by kernel_rfl) (fun _ _ _ h => h) hS1.out (by kernel_rfl) ?_
    refine T_pass (i := 12) rfl (by kernel_rfl) (by kernel_rfl) (by kernel_rfl) (by kernel_rfl) (fun _ _ _ h => h) hS1.out (by kernel_rfl) ?_
    refine T_pass (i := 13) rfl (by kernel_rfl) (by kernel_rfl) (by kernel_rfl) (by kernel_rfl) (fun _ _ _ h => h) hS1.out (by kernel_rfl) ?_
    refine T_pass (i := 14) rfl (by kernel_rfl) (by kernel_rfl) (by kernel_rfl) (by kernel_rfl) (fun _ _ _ h => h) hS1.out (by kernel_rfl) ?_
    refine T_pass (i := 15) rfl (by kernel_rfl) (by kernel_rfl) (by kernel_rfl) (by kernel_rfl) (fun _ _ _ h => h) hS1.out (by kernel_rfl) ?_
    refine T_pass (i := 16) rfl (by kernel_rfl) (by kernel_rfl) (by kernel_rfl) (by kernel_rfl) (fun _ _ _ h => h) hS1.out (by kernel_rfl) ?_
    refine T_take (i := 17) (v := .bool false) rfl (by kernel_rfl) (by kernel_rfl) (by kernel_rfl) (by kernel_rfl) (fun _ _ _ h => h) hS1.out (by kernel_rfl) (fun w' hS' => by obtain ⟨⟨h0, h1⟩, -⟩ := hS'.1.two; go_simp) ?_
    refine T_last (i := 18) rfl (by kernel_rfl) (by kernel_rfl) rfl (by kernel_rfl) ?_
    go_simp
    have HB := Lib.hid hS1.out.2
    clear hS0 hS1
    go_wp2
    go_ret
    exact ⟨ret_bool E.out.symm, HB.out⟩
  have H1 := Lib.hid h1
  clear h1
  by_cases h2 : rayR c.2 = true
  case neg =>
    have H2 := Lib.hid (bool_f h2)
    have E := Lib.hid (coneF_2 H1.out (bool_f h2))
    clear h2
    go_enter Try.func27, Try.ntmps27
    go_wp2_with fail
    refine T_begin (z := fun k => 17 < k) (S := fun (w' : World) => Bk w' w.heap.size #[u, t] 26 ∧ Below w.heap.size w w') (by kernel_rfl) ?_
    show wpAnyT _ _ _ _ _ _ 19 _ _ _
    have hS0 := Lib.hid (show (fun (w' : World) => Bk w' w.heap.size #[u, t] 26 ∧ Below w.heap.size w w') ((w.alloc (.cells #[u, t] 26)).drew) from ⟨K.out, B0.out.drew⟩)
    refine T_take (i := 0) (v := .pointer (some ⟨w.heap.size, 0, none⟩)) rfl (by kernel_rfl) (by kernel_rfl) (by kernel_rfl) (by kernel_rfl) (fun _ _ _ h => h) hS0.out (by kernel_rfl) (fun w' hS' => by obtain ⟨⟨h0, h1⟩, -⟩ := hS'.1.two; go_simp) ?_
    refine T_take (i := 1) (v := u) rfl (by kernel_rfl) (by kernel_rfl) (by kernel_rfl) (by kernel_rfl) (fun _ _ _ h => h) hS0.out (by kernel_rfl) (fun w' hS' => by obtain ⟨⟨h0, h1⟩, -⟩ := hS'.1.two; go_simp) ?_
    refine T_step (i := 2) rfl (by kernel_rfl) rfl (by kernel_rfl) ?_
    intro K hK
    go_simp
    refine (i_primray c.1 u _ (HS.out.below hS0.out.2)).mono ?_
    rintro e' wT1 ⟨rfl, hb1⟩
    rw [H1.out]
    have hS1 := Lib.hid (show (fun (w' : World) => Bk w' w.heap.size #[u, t] 26 ∧ Below w.heap.size w w') wT1 from ⟨hS0.out.1.below hb1, hS0.out.2.trans (hb1.mono hS0.out.2.size)⟩)
    refine hK.out _ _ hS1.out ?_
    clear hK K
    refine T_take (i := 3) (v := .bool true) rfl (by kernel_rfl) (by kernel_rfl) (by kernel_rfl) (by kernel_rfl) (fun _ _ _ h => h) hS1.out (by kernel_rfl) (fun w' hS' => by obtain ⟨⟨h0, h1⟩, -⟩ := hS'.1.two; go_simp) ?_
    refine T_take (i := 4) (v := .pointer (some ⟨w.heap.size, 1, none⟩)) rfl (by kernel_rfl) (by kernel_rfl) (by kernel_rfl) (by kernel_rfl) (fun _ _ _ h => h) hS1.out (by kernel_rfl) (fun w' hS' => by obtain ⟨⟨h0, h1⟩, -⟩ := hS'.1.two; go_simp) ?_
    refine T_take (i := 5) (v := t) rfl (by kernel_rfl) (by kernel_rfl) (by kernel_rfl) (by kernel_rfl) (fun _ _ _ h => h) hS1.out (by kernel_rfl) (fun w' hS' => by obtain ⟨⟨h0, h1⟩, -⟩ := hS'.1.two; go_simp) ?_
    refine T_step (i := 6) rfl (by kernel_rfl) rfl (by kernel_rfl) ?_
    intro K hK
    go_simp
    refine (i_primray c.2 t _ (HT.out.below hS1.out.2)).mono ?_
    rintro e' wT2 ⟨rfl, hb2⟩
    rw [H2.out]
    have hS2 := Lib.hid (show (fun (w' : World) => Bk w' w.heap.size #[u, t] 26 ∧ Below w.heap.size w w') wT2 from ⟨hS1.out.1.below hb2, hS1.out.2.trans (hb2.mono hS1.out.2.size)⟩)
    refine hK.out _ _ hS2.out ?_
    clear hK K
    refine T_take (i := 7) (v := .bool false) rfl (by kernel_rfl) (by kernel_rfl) (by kernel_rfl) (by kernel_rfl) (fun _ _ _ h => h) hS2.out (by kernel_rfl) (fun w' hS' => by obtain ⟨⟨h0, h1⟩, -⟩ := hS'.1.two; go_simp) ?_
    refine T_take (i := 8) (v := .bool false) rfl (by kernel_rfl) (by kernel_rfl) (by kernel_rfl) (by kernel_rfl) (fun _ _ _ h => h) hS2.out (by kernel_rfl) (fun w' hS' => by obtain ⟨⟨h0, h1⟩, -⟩ := hS'.1.two; go_simp) ?_
    refine T_pass (i := 9) rfl (by kernel_rfl) (by kernel_rfl) (by kernel_rfl) (by kernel_rfl) (fun _ _ _ h => h) hS2.out (by kernel_rfl) ?_
    refine T_pass (i := 10) rfl (by kernel_rfl) (by kernel_rfl) (by kernel_rfl) (by kernel_rfl) (fun _ _ _ h => h) hS2.out (by kernel_rfl) ?_
    refine T_pass (i := 11) rfl (by kernel_rfl) (by kernel_rfl) (by kernel_rfl) (by kernel_rfl) (fun _ _ _ h => h) hS2.out (by kernel_rfl) ?_
    refine T_pass (i := 12) rfl (by kernel_rfl) (by kernel_rfl) (by kernel_rfl) (by kernel_rfl) (fun _ _ _ h => h) hS2.out (by kernel_rfl) ?_
    refine T_pass (i := 13) rfl (by kernel_rfl) (by kernel_rfl) (by kernel_rfl) (by kernel_rfl) (fun _ _ _ h => h) hS2.out (by kernel_rfl) ?_
    refine T_pass (i := 14) rfl (by kernel_rfl) (by kernel_rfl) (by kernel_rfl) (by kernel_rfl) (fun _ _ _ h => h) hS2.out (by kernel_rfl) ?_
    refine T_pass (i := 15) rfl (by kernel_rfl) (by kernel_rfl) (by kernel_rfl) (by kernel_rfl) (fun _ _ _ h => h) hS2.out (by kernel_rfl) ?_
    refine T_pass (i := 16) rfl (by kernel_rfl) (by kernel_rfl) (by kernel_rfl) (by kernel_rfl) (fun _ _ _ h => h) hS2.out (by kernel_rfl) ?_
    refine T_take (i := 17) (v := .bool false) rfl (by kernel_rfl) (by kernel_rfl) (by kernel_rfl) (by kernel_rfl) (fun _ _ _ h => h) hS2.out (by kernel_rfl) (fun w' hS' => by obtain ⟨⟨h0, h1⟩, -⟩ := hS'.1.two; go_simp) ?_
    refine T_last (i := 18) rfl (by kernel_rfl) (by kernel_rfl) rfl (by kernel_rfl) ?_
    go_simp
    have HB := Lib.hid hS2.out.2
    clear hS0 hS1 hS2
    go_wp2
    go_ret
    exact ⟨ret_bool E.out.symm, HB.out⟩
  have H2 := Lib.hid h2
  have E := Lib.hid (coneE H1.out h2)
  have R1 := Lib.hid (rayR_t H1.out)
  have R2 := Lib.hid (rayR_t h2)
  clear h2
  obtain ⟨d, hd⟩ : ∃ d, crP (ptOf c.1) (ptOf c.2) = d := ⟨_, rfl⟩
  have HD := Lib.hid hd
  rw [hd] at E
  clear hd
  go_enter Try.func27, Try.ntmps27
  go_wp2_with fail
  refine T_begin (z := fun k => 17 < k) (S := fun (w' : World) => Bk w' w.heap.size #[u, t] 26 ∧ Below w.heap.size w w') (by kernel_rfl) ?_
  show wpAnyT _ _ _ _ _ _ 19 _ _ _
  have hS0 := Lib.hid (show (fun (w' : World) => Bk w' w.heap.size #[u, t] 26 ∧ Below w.heap.size w w') ((w.alloc (.cells #[u, t] 26)).drew) from ⟨K.out, B0.out.drew⟩)
  refine T_take (i := 0) (v := .pointer (some ⟨w.heap.size, 0, none⟩)) rfl (by kernel_rfl) (by kernel_rfl) (by kernel_rfl) (by kernel_rfl) (fun _ _ _ h => h) hS0.out (by kernel_rfl) (fun w' hS' => by obtain ⟨⟨h0, h1⟩, -⟩ := hS'.1.two; go_simp) ?_
  refine T_take (i := 1) (v := u) rfl (by kernel_rfl) (by kernel_rfl) (by kernel_rfl) (by kernel_rfl) (fun _ _ _ h => h) hS0.out (by kernel_rfl) (fun w' hS' => by obtain ⟨⟨h0, h1⟩, -⟩ := hS'.1.two; go_simp) ?_
  refine T_step (i := 2) rfl (by kernel_rfl) rfl (by kernel_rfl) ?_
  intro K hK
  go_simp
  refine (i_primray c.1 u _ (HS.out.below hS0.out.2)).mono ?_
  rintro e' wT1 ⟨rfl, hb1⟩
  rw [H1.out]
  have hS1 := Lib.hid (show (fun (w' : World) => Bk w' w.heap.size #[u, t] 26 ∧ Below w.heap.size w w') wT1 from ⟨hS0.out.1.below hb1, hS0.out.2.trans (hb1.mono hS0.out.2.size)⟩)
  refine hK.out _ _ hS1.out ?_
  clear hK K
  refine T_take (i := 3) (v := .bool true) rfl (by kernel_rfl) (by kernel_rfl) (by kernel_rfl) (by kernel_rfl) (fun _ _ _ h => h) hS1.out (by kernel_rfl) (fun w' hS' => by obtain ⟨⟨h0, h1⟩, -⟩ := hS'.1.two; go_simp) ?_
  refine T_take (i := 4) (v := .pointer (some ⟨w.heap.size, 1, none⟩)) rfl (by kernel_rfl) (by kernel_rfl) (by kernel_rfl) (by kernel_rfl) (fun _ _ _ h => h) hS1.out (by kernel_rfl) (fun w' hS' => by obtain ⟨⟨h0, h1⟩, -⟩ := hS'.1.two; go_simp) ?_
  refine T_take (i := 5) (v := t) rfl (by kernel_rfl) (by kernel_rfl) (by kernel_rfl) (by kernel_rfl) (fun _ _ _ h => h) hS1.out (by kernel_rfl) (fun w' hS' => by obtain ⟨⟨h0, h1⟩, -⟩ := hS'.1.two; go_simp) ?_
  refine T_step (i := 6) rfl (by kernel_rfl) rfl (by kernel_rfl) ?_
  intro K hK
  go_simp
  refine (i_primray c.2 t _ (HT.out.below hS1.out.2)).mono ?_
  rintro e' wT2 ⟨rfl, hb2⟩
  rw [H2.out]
  have hS2 := Lib.hid (show (fun (w' : World) => Bk w' w.heap.size #[u, t] 26 ∧ Below w.heap.size w w') wT2 from ⟨hS1.out.1.below hb2, hS1.out.2.trans (hb2.mono hS1.out.2.size)⟩)
  refine hK.out _ _ hS2.out ?_
  clear hK K
  refine T_take (i := 7) (v := .bool true) rfl (by kernel_rfl) (by kernel_rfl) (by kernel_rfl) (by kernel_rfl) (fun _ _ _ h => h) hS2.out (by kernel_rfl) (fun w' hS' => by obtain ⟨⟨h0, h1⟩, -⟩ := hS'.1.two; go_simp) ?_
  refine T_take (i := 8) (v := .bool true) rfl (by kernel_rfl) (by kernel_rfl) (by kernel_rfl) (by kernel_rfl) (fun _ _ _ h => h) hS2.out (by kernel_rfl) (fun w' hS' => by obtain ⟨⟨h0, h1⟩, -⟩ := hS'.1.two; go_simp) ?_
  refine T_take (i := 9) (v := .pointer (some ⟨w.heap.size, 0, none⟩)) rfl (by kernel_rfl) (by kernel_rfl) (by kernel_rfl) (by kernel_rfl) (fun _ _ _ h => h) hS2.out (by kernel_rfl) (fun w' hS' => by obtain ⟨⟨h0, h1⟩, -⟩ := hS'.1.two; go_simp) ?_
  refine T_take (i := 10) (v := u) rfl (by kernel_rfl) (by kernel_rfl) (by kernel_rfl) (by kernel_rfl) (fun _ _ _ h => h) hS2.out (by kernel_rfl) (fun w' hS' => by obtain ⟨⟨h0, h1⟩, -⟩ := hS'.1.two; go_simp) ?_
  refine T_take (i := 12) (v := .pointer (some ⟨w.heap.size, 1, none⟩)) rfl (by kernel_rfl) (by kernel_rfl) (by kernel_rfl) (by kernel_rfl) (fun _ _ _ h => h) hS2.out (by kernel_rfl) (fun w' hS' => by obtain ⟨⟨h0, h1⟩, -⟩ := hS'.1.two; go_simp) ?_
  refine T_take (i := 13) (v := t) rfl (by kernel_rfl) (by kernel_rfl) (by kernel_rfl) (by kernel_rfl) (fun _ _ _ h => h) hS2.out (by kernel_rfl) (fun w' hS' => by obtain ⟨⟨h0, h1⟩, -⟩ := hS'.1.two; go_simp) ?_
  refine T_step (i := 11) rfl (by kernel_rfl) rfl (by kernel_rfl) ?_
  intro K hK
  go_simp
  refine (i_numP (ptOf c.1) u _ (by rw [R1.out.2.2.2.2]; exact HS.out.below hS2.out.2)).mono ?_
  rintro e' wT3 ⟨rfl, hb3⟩
  have hS3 := Lib.hid (show (fun (w' : World) => Bk w' w.heap.size #[u, t] 26 ∧ Below w.heap.size w w') wT3 from ⟨hS2.out.1.below hb3, hS2.out.2.trans (hb3.mono hS2.out.2.size)⟩)
  refine hK.out _ _ hS3.out ?_
  clear hK K
  refine T_step (i := 14) rfl (by kernel_rfl) rfl (by kernel_rfl) ?_
  intro K hK
  go_simp
  refine (i_numP (ptOf c.2) t _ (by rw [R2.out.2.2.2.2]; exact HT.out.below hS3.out.2)).mono ?_
  rintro e' wT4 ⟨rfl, hb4⟩
  have hS4 := Lib.hid (show (fun (w' : World) => Bk w' w.heap.size #[u, t] 26 ∧ Below w.heap.size w w') wT4 from ⟨hS3.out.1.below hb4, hS3.out.2.trans (hb4.mono hS3.out.2.size)⟩)
  refine hK.out _ _ hS4.out ?_
  clear hK K
  refine T_step (i := 15) rfl (by kernel_rfl) rfl (by kernel_rfl) ?_
  intro K hK
  go_simp
  refine (i_pdet (ptOf c.1) (ptOf c.2) R1.out.2.2.1.bd4 R2.out.2.2.1.bd4 _).mono ?_
  rintro e' wT5 ⟨rfl, hb5⟩
  rw [show (ptOf c.1).1 * (ptOf c.2).2 - (ptOf c.1).2 * (ptOf c.2).1 = d from HD.out]
  have hS5 := Lib.hid (show (fun (w' : World) => Bk w' w.heap.size #[u, t] 26 ∧ Below w.heap.size w w') wT5 from ⟨hS4.out.1.below hb5, hS4.out.2.trans (hb5.mono hS4.out.2.size)⟩)
  refine hK.out _ _ hS5.out ?_
  clear hK K
  refine T_take (i := 16) (v := .bool (decide (0 < d))) rfl (by kernel_rfl) (by kernel_rfl) (by kernel_rfl) (by kernel_rfl) (fun _ _ _ h => h) hS5.out (by kernel_rfl) (fun w' hS' => by obtain ⟨⟨h0, h1⟩, -⟩ := hS'.1.two; go_simp) ?_
  refine T_take (i := 17) (v := .bool (decide (0 < d))) rfl (by kernel_rfl) (by kernel_rfl) (by kernel_rfl) (by kernel_rfl) (fun _ _ _ h => h) hS5.out (by kernel_rfl) (fun w' hS' => by obtain ⟨⟨h0, h1⟩, -⟩ := hS'.1.two; go_simp) ?_
  refine T_last (i := 18) rfl (by kernel_rfl) (by kernel_rfl) rfl (by kernel_rfl) ?_
  go_simp
  have HB := Lib.hid hS5.out.2
  clear hS0 hS1 hS2 hS3 hS4 hS5
  go_wp2
  go_ret
  exact ⟨ret_bool E.out.symm, HB.out⟩

set_option maxRecDepth 100000 in
set_option maxHeartbeats 1600000 in
theorem i_cindex (c : Cn) (v : Value) (w : World) (hv : Cv w v c) :
    Calls Try.prog 25 #[v] w (Quiet w (.int .i64 (cindexR c))) := by
  have HC := Lib.hid hv
  obtain ⟨u, t, rfl, hs, ht⟩ := hv
  have HS := Lib.hid hs
  have HT := Lib.hid ht
  have K := Lib.hid (Bk.new w #[u, t] 26)
  have B0 := Lib.hid (below1 w (.cells #[u, t] 26))
  clear hs ht
  obtain ⟨⟨l0, l1⟩, -⟩ := K.out.two
  go_enter Try.func25, Try.ntmps25
  go_wp2_with fail
  refine (i_cone c _ _ (HC.out.below B0.out)).mono ?_
  rintro e w1 ⟨rfl, hb⟩
  have K1 := Lib.hid (K.out.below hb)
  have B1 := Lib.hid (B0.out.trans (hb.mono B0.out.size))
  clear hb l0 l1
  cases h1 : coneR c
  · have E := Lib.hid (show cindexR c = 0 by unfold cindexR; rw [h1]; rfl)
    clear h1
    go_wp2_with fail
    go_ret
    exact ⟨ret_int E.out.symm, B1.out⟩
  have RR := Lib.hid (coneR_t h1)
  have R1 := Lib.hid (rayR_t RR.out.1)
  have R2 := Lib.hid (rayR_t RR.out.2.1)
  have E := Lib.hid (show cindexR c = crP (ptOf c.1) (ptOf c.2) by unfold cindexR; rw [h1]; rfl)
  clear h1
  obtain ⟨d, hd⟩ : ∃ d, crP (ptOf c.1) (ptOf c.2) = d := ⟨_, rfl⟩
  have HD := Lib.hid hd
  rw [hd] at E
  clear hd
  go_wp2_with fail
  refine T_begin (z := fun k => 6 < k) (S := fun (w' : World) => Bk w' w.heap.size #[u, t] 26 ∧ Below w.heap.size w w') (by kernel_rfl) ?_
  show wpAnyT _ _ _ _ _ _ 8 _ _ _
  have hS0 := Lib.hid (show (fun (w' : World) => Bk w' w.heap.size #[u, t] 26 ∧ Below w.heap.size w w') (w1.drew) from ⟨K1.out, B1.out.drew⟩)
  refine T_take (i := 0) (v := .pointer (some ⟨w.heap.size, 0, none⟩)) rfl (by kernel_rfl) (by kernel_rfl) (by kernel_rfl) (by kernel_rfl) (fun _ _ _ h => h) hS0.out (by kernel_rfl) (fun w' hS' => by obtain ⟨⟨h0, h1⟩, -⟩ := hS'.1.two; go_simp) ?_
  refine T_take (i := 1) (v := u) rfl (by kernel_rfl) (by kernel_rfl) (by kernel_rfl) (by kernel_rfl) (fun _ _ _ h => h) hS0.out (by kernel_rfl) (fun w' hS' => by obtain ⟨⟨h0, h1⟩, -⟩ := hS'.1.two; go_simp) ?_
  refine T_take (i := 3) (v := .pointer (some ⟨w.heap.size, 1, none⟩)) rfl (by kernel_rfl) (by kernel_rfl) (by kernel_rfl) (by kernel_rfl) (fun _ _ _ h => h) hS0.out (by kernel_rfl) (fun w' hS' => by obtain ⟨⟨h0, h1⟩, -⟩ := hS'.1.two; go_simp) ?_
  refine T_take (i := 4) (v := t) rfl (by kernel_rfl) (by kernel_rfl) (by kernel_rfl) (by kernel_rfl) (fun _ _ _ h => h) hS0.out (by kernel_rfl) (fun w' hS' => by obtain ⟨⟨h0, h1⟩, -⟩ := hS'.1.two; go_simp) ?_
  refine T_step (i := 2) rfl (by kernel_rfl) rfl (by kernel_rfl) ?_
  intro K hK
  go_simp
  refine (i_numP (ptOf c.1) u _ (by rw [R1.out.2.2.2.2]; exact HS.out.below hS0.out.2)).mono ?_
  rintro e' wT1 ⟨rfl, hb1⟩
  have hS1 := Lib.hid (show (fun (w' : World) => Bk w' w.heap.size #[u, t] 26 ∧ Below w.heap.size w w') wT1 from ⟨hS0.out.1.below hb1, hS0.out.2.trans (hb1.mono hS0.out.2.size)⟩)
  refine hK.out _ _ hS1.out ?_
  clear hK K
  refine T_step (i := 5) rfl (by kernel_rfl) rfl (by kernel_rfl) ?_
  intro K hK
  go_simp
  refine (i_numP (ptOf c.2) t _ (by rw [R2.out.2.2.2.2]; exact HT.out.below hS1.out.2)).mono ?_
  rintro e' wT2 ⟨rfl, hb2⟩
  have hS2 := Lib.hid (show (fun (w' : World) => Bk w' w.heap.size #[u, t] 26 ∧ Below w.heap.size w w') wT2 from ⟨hS1.out.1.below hb2, hS1.out.2.trans (hb2.mono hS1.out.2.size)⟩)
  refine hK.out _ _ hS2.out ?_
  clear hK K
  refine T_step (i := 6) rfl (by kernel_rfl) rfl (by kernel_rfl) ?_
  intro K hK
  go_simp
  refine (i_pdet (ptOf c.1) (ptOf c.2) R1.out.2.2.1.bd4 R2.out.2.2.1.bd4 _).mono ?_
  rintro e' wT3 ⟨rfl, hb3⟩
  rw [show (ptOf c.1).1 * (ptOf c.2).2 - (ptOf c.1).2 * (ptOf c.2).1 = d from HD.out]
  have hS3 := Lib.hid (show (fun (w' : World) => Bk w' w.heap.size #[u, t] 26 ∧ Below w.heap.size w w') wT3 from ⟨hS2.out.1.below hb3, hS2.out.2.trans (hb3.mono hS2.out.2.size)⟩)
  refine hK.out _ _ hS3.out ?_
  clear hK K
  refine T_last (i := 7) rfl (by kernel_rfl) (by kernel_rfl) rfl (by kernel_rfl) ?_
  go_simp
  have HB := Lib.hid hS3.out.2
  clear hS0 hS1 hS2 hS3
  go_wp2
  go_ret
  exact ⟨ret_int E.out.symm, HB.out⟩

theorem inc_f1 {c : Cn} {x : List Int} (h : coneR c = false) : inconeR c x = false := by unfold inconeR; rw [h]; rfl
theorem inc_f2 {c : Cn} {x : List Int} (h : (isV x && decide (x.length = 2)) = false) : inconeR c x = false := by unfold inconeR; rw [h]; simp
theorem inc_e {c : Cn} {x : List Int} (h : coneR c = true) (h2 : (isV x && decide (x.length = 2)) = true) : inconeR c x = (decide (0 ≤ crP (ptOf c.1) (ptOf x)) && decide (0 ≤ crP (ptOf x) (ptOf c.2))) := by unfold inconeR; rw [h, h2]; rfl
theorem plane_pt {x : List Int} (h : (isV x && decide (x.length = 2)) = true) : rowOf (ptOf x) = x ∧ BdP 4000 (ptOf x) := by
  rw [Bool.and_eq_true] at h
  have hs := (isV_t h.1).2.2
  match x, of_decide_eq_true h.2 with
  | [a, b], _ =>
    have h1 := small_get hs 0 (by simp)
    have h2 := small_get hs 1 (by simp)
    simp only [List.getElem_cons_zero, List.getElem_cons_succ] at h1 h2
    exact ⟨rfl, ⟨by show -4000 ≤ a; omega, by show a ≤ 4000; omega⟩, by show -4000 ≤ b; omega, by show b ≤ 4000; omega⟩
set_option maxRecDepth 100000 in
set_option maxHeartbeats 1600000 in
theorem i_incone (c : Cn) (x : List Int) (v a : Value) (w : World) (hv : Cv w v c) (hx : Sl w a (intVals x)) :
    Calls Try.prog 22 #[v, a] w (Quiet w (.bool (inconeR c x))) := by
  have HC := Lib.hid hv
  have HX := Lib.hid hx
  obtain ⟨a, ac, rfl, am, _⟩ := hx.shape
  rw [intVals_len] at am HX ⊢
  unfold maxLen at am
  clear hx
  obtain ⟨u, t, rfl, hs, ht⟩ := hv
  have HS := Lib.hid hs
  have HT := Lib.hid ht
  have K := Lib.hid (Bk.new w #[u, t] 26)
  have B0 := Lib.hid (below1 w (.cells #[u, t] 26))
  clear hs ht
  obtain ⟨⟨l0, l1⟩, -⟩ := K.out.two
  go_enter Try.func22, Try.ntmps22
  go_wp2_with fail
  refine (i_cone c _ _ (HC.out.below B0.out)).mono ?_
  rintro e w1 ⟨rfl, hb⟩
  have K1 := Lib.hid (K.out.below hb)
  have B1 := Lib.hid (B0.out.trans (hb.mono B0.out.size))
  clear hb l0 l1
  cases h1 : coneR c
  · have E := Lib.hid (inc_f1 (x := x) h1)
    clear h1
    go_wp2_with fail
    go_ret
    exact ⟨ret_bool E.out.symm, B1.out⟩
  have C1 := Lib.hid h1
  have RR := Lib.hid (coneR_t h1)
  have R1 := Lib.hid (rayR_t RR.out.1)
  have R2 := Lib.hid (rayR_t RR.out.2.1)
  clear h1
  go_wp2_with fail
  refine (i_plane x _ _ (HX.out.below B1.out)).mono ?_
  rintro e w2 ⟨rfl, hb⟩
  have K2 := Lib.hid (K1.out.below hb)
  have B2 := Lib.hid (B1.out.trans (hb.mono B1.out.size))
  clear hb
  cases h2 : (isV x && decide (x.length = 2))
  · have E := Lib.hid (inc_f2 (c := c) h2)
    clear h2
    go_wp2_with fail
    go_ret
    exact ⟨ret_bool E.out.symm, B2.out⟩
  have PX := Lib.hid (plane_pt h2)
  have E := Lib.hid (inc_e C1.out h2)
  clear h2
  obtain ⟨d1, hd⟩ : ∃ d, crP (ptOf c.1) (ptOf x) = d := ⟨_, rfl⟩
  have HD1 := Lib.hid hd
  rw [hd] at E
  clear hd
  obtain ⟨d2, hd⟩ : ∃ d, crP (ptOf x) (ptOf c.2) = d := ⟨_, rfl⟩
  have HD2 := Lib.hid hd
  rw [hd] at E
  clear hd
  go_wp2_with fail
  by_cases h3 : 0 ≤ d1
  case neg =>
    have E2 := Lib.hid (show inconeR c x = false by rw [E.out, decide_eq_false h3]; rfl)
    refine T_begin (z := fun k => 15 < k) (S := fun (w' : World) => Bk w' w.heap.size #[u, t] 26 ∧ Below w.heap.size w w') (by kernel_rfl) ?_
    show wpAnyT _ _ _ _ _ _ 17 _ _ _
    have hS0 := Lib.hid (show (fun (w' : World) => Bk w' w.heap.size #[u, t] 26 ∧ Below w.heap.size w w') (w2.drew) from ⟨K2.out, B2.out.drew⟩)
    refine T_take (i := 0) (v := .pointer (some ⟨w.heap.size, 0, none⟩)) rfl (by kernel_rfl) (by kernel_rfl) (by kernel_rfl) (by kernel_rfl) (fun _ _ _ h => h) hS0.out (by kernel_rfl) (fun w' hS' => by obtain ⟨⟨h0, h1⟩, -⟩ := hS'.1.two; go_simp) ?_
    refine T_take (i := 1) (v := u) rfl (by kernel_rfl) (by kernel_rfl) (by kernel_rfl) (by kernel_rfl) (fun _ _ _ h => h) hS0.out (by kernel_rfl) (fun w' hS' => by obtain ⟨⟨h0, h1⟩, -⟩ := hS'.1.two; go_simp) ?_
    refine T_take (i := 3) (v := .slice a x.length ac) rfl (by kernel_rfl) (by kernel_rfl) (by kernel_rfl) (by kernel_rfl) (fun _ _ _ h => h) hS0.out (by kernel_rfl) (fun w' hS' => by obtain ⟨⟨h0, h1⟩, -⟩ := hS'.1.two; go_simp) ?_
    refine T_step (i := 2) rfl (by kernel_rfl) rfl (by kernel_rfl) ?_
    intro K hK
    go_simp
    refine (i_numP (ptOf c.1) u _ (by rw [R1.out.2.2.2.2]; exact HS.out.below hS0.out.2)).mono ?_
    rintro e' wT1 ⟨rfl, hb1⟩
    have hS1 := Lib.hid (show (fun (w' : World) => Bk w' w.heap.size #[u, t] 26 ∧ Below w.heap.size w w') wT1 from ⟨hS0.out.1.below hb1, hS0.out.2.trans (hb1.mono hS0.out.2.size)⟩)
    refine hK.out _ _ hS1.out ?_
    clear hK K
    refine T_step (i := 4) rfl (by kernel_rfl) rfl (by kernel_rfl) ?_
    intro K hK
    go_simp
    refine (i_numP (ptOf x) (.slice a x.length ac) _ (by rw [PX.out.1]; exact HX.out.below hS1.out.2)).mono ?_
    rintro e' wT2 ⟨rfl, hb2⟩
    have hS2 := Lib.hid (show (fun (w' : World) => Bk w' w.heap.size #[u, t] 26 ∧ Below w.heap.size w w') wT2 from ⟨hS1.out.1.below hb2, hS1.out.2.trans (hb2.mono hS1.out.2.size)⟩)
    refine hK.out _ _ hS2.out ?_
    clear hK K
    refine T_step (i := 5) rfl (by kernel_rfl) rfl (by kernel_rfl) ?_
    intro K hK
    go_simp
    refine (i_pdet (ptOf c.1) (ptOf x) R1.out.2.2.1.bd4 PX.out.2 _).mono ?_
    rintro e' wT3 ⟨rfl, hb3⟩
    rw [show (ptOf c.1).1 * (ptOf x).2 - (ptOf c.1).2 * (ptOf x).1 = d1 from HD1.out]
    have hS3 := Lib.hid (show (fun (w' : World) => Bk w' w.heap.size #[u, t] 26 ∧ Below w.heap.size w w') wT3 from ⟨hS2.out.1.below hb3, hS2.out.2.trans (hb3.mono hS2.out.2.size)⟩)
    refine hK.out _ _ hS3.out ?_
    clear hK K
    refine T_take (i := 6) (v := .bool false) rfl (by kernel_rfl) (by kernel_rfl) (by kernel_rfl) (by kernel_rfl) (fun _ _ _ h => h) hS3.out (by kernel_rfl) (fun w' hS' => by obtain ⟨⟨h0, h1⟩, -⟩ := hS'.1.two; go_simp) ?_
    refine T_take (i := 7) (v := .bool false) rfl (by kernel_rfl) (by kernel_rfl) (by kernel_rfl) (by kernel_rfl) (fun _ _ _ h => h) hS3.out (by kernel_rfl) (fun w' hS' => by obtain ⟨⟨h0, h1⟩, -⟩ := hS'.1.two; go_simp) ?_
    refine T_pass (i := 8) rfl (by kernel_rfl) (by kernel_rfl) (by kernel_rfl) (by kernel_rfl) (fun _ _ _ h => h) hS3.out (by kernel_rfl) ?_
    refine T_pass (i := 9) rfl (by kernel_rfl) (by kernel_rfl) (by kernel_rfl) (by kernel_rfl) (fun _ _ _ h => h) hS3.out (by kernel_rfl) ?_
    refine T_pass (i := 10) rfl (by kernel_rfl) (by kernel_rfl) (by kernel_rfl) (by kernel_rfl) (fun _ _ _ h => h) hS3.out (by kernel_rfl) ?_
    refine T_pass (i := 11) rfl (by kernel_rfl) (by kernel_rfl) (by kernel_rfl) (by kernel_rfl) (fun _ _ _ h => h) hS3.out (by kernel_rfl) ?_
    refine T_pass (i := 12) rfl (by kernel_rfl) (by kernel_rfl) (by kernel_rfl) (by kernel_rfl) (fun _ _ _ h => h) hS3.out (by kernel_rfl) ?_
    refine T_pass (i := 13) rfl (by kernel_rfl) (by kernel_rfl) (by kernel_rfl) (by kernel_rfl) (fun _ _ _ h => h) hS3.out (by kernel_rfl) ?_
    refine T_pass (i := 14) rfl (by kernel_rfl) (by kernel_rfl) (by kernel_rfl) (by kernel_rfl) (fun _ _ _ h => h) hS3.out (by kernel_rfl) ?_
    refine T_take (i := 15) (v := .bool false) rfl (by kernel_rfl) (by kernel_rfl) (by kernel_rfl) (by kernel_rfl) (fun _ _ _ h => h) hS3.out (by kernel_rfl) (fun w' hS' => by obtain ⟨⟨h0, h1⟩, -⟩ := hS'.1.two; go_simp) ?_
    refine T_last (i := 16) rfl (by kernel_rfl) (by kernel_rfl) rfl (by kernel_rfl) ?_
    go_simp
    have HB := Lib.hid hS3.out.2
    clear hS0 hS1 hS2 hS3
    go_wp2
    go_ret
    exact ⟨ret_bool E2.out.symm, HB.out⟩
  have E2 := Lib.hid (show inconeR c x = decide (0 ≤ d2) by rw [E.out, decide_eq_true h3]; rfl)
  refine T_begin (z := fun k => 15 < k) (S := fun (w' : World) => Bk w' w.heap.size #[u, t] 26 ∧ Below w.heap.size w w') (by kernel_rfl) ?_
  show wpAnyT _ _ _ _ _ _ 17 _ _ _
  have hS0 := Lib.hid (show (fun (w' : World) => Bk w' w.heap.size #[u, t] 26 ∧ Below w.heap.size w w') (w2.drew) from ⟨K2.out, B2.out.drew⟩)
  refine T_take (i := 0) (v := .pointer (some ⟨w.heap.size, 0, none⟩)) rfl (by kernel_rfl) (by kernel_rfl) (by kernel_rfl) (by kernel_rfl) (fun _ _ _ h => h) hS0.out (by kernel_rfl) (fun w' hS' => by obtain ⟨⟨h0, h1⟩, -⟩ := hS'.1.two; go_simp) ?_
  refine T_take (i := 1) (v := u) rfl (by kernel_rfl) (by kernel_rfl) (by kernel_rfl) (by kernel_rfl) (fun _ _ _ h => h) hS0.out (by kernel_rfl) (fun w' hS' => by obtain ⟨⟨h0, h1⟩, -⟩ := hS'.1.two; go_simp) ?_
  refine T_take (i := 3) (v := .slice a x.length ac) rfl (by kernel_rfl) (by kernel_rfl) (by kernel_rfl) (by kernel_rfl) (fun _ _ _ h => h) hS0.out (by kernel_rfl) (fun w' hS' => by obtain ⟨⟨h0, h1⟩, -⟩ := hS'.1.two; go_simp) ?_
  refine T_step (i := 2) rfl (by kernel_rfl) rfl (by kernel_rfl) ?_
  intro K hK
  go_simp
  refine (i_numP (ptOf c.1) u _ (by rw [R1.out.2.2.2.2]; exact HS.out.below hS0.out.2)).mono ?_
  rintro e' wT1 ⟨rfl, hb1⟩
  have hS1 := Lib.hid (show (fun (w' : World) => Bk w' w.heap.size #[u, t] 26 ∧ Below w.heap.size w w') wT1 from ⟨hS0.out.1.below hb1, hS0.out.2.trans (hb1.mono hS0.out.2.size)⟩)
  refine hK.out _ _ hS1.out ?_
  clear hK K
  refine T_step (i := 4) rfl (by kernel_rfl) rfl (by kernel_rfl) ?_
  intro K hK
  go_simp
  refine (i_numP (ptOf x) (.slice a x.length ac) _ (by rw [PX.out.1]; exact HX.out.below hS1.out.2)).mono ?_
  rintro e' wT2 ⟨rfl, hb2⟩
  have hS2 := Lib.hid (show (fun (w' : World) => Bk w' w.heap.size #[u, t] 26 ∧ Below w.heap.size w w') wT2 from ⟨hS1.out.1.below hb2, hS1.out.2.trans (hb2.mono hS1.out.2.size)⟩)
  refine hK.out _ _ hS2.out ?_
  clear hK K
  refine T_step (i := 5) rfl (by kernel_rfl) rfl (by kernel_rfl) ?_
  intro K hK
  go_simp
  refine (i_pdet (ptOf c.1) (ptOf x) R1.out.2.2.1.bd4 PX.out.2 _).mono ?_
  rintro e' wT3 ⟨rfl, hb3⟩
  rw [show (ptOf c.1).1 * (ptOf x).2 - (ptOf c.1).2 * (ptOf x).1 = d1 from HD1.out]
  have hS3 := Lib.hid (show (fun (w' : World) => Bk w' w.heap.size #[u, t] 26 ∧ Below w.heap.size w w') wT3 from ⟨hS2.out.1.below hb3, hS2.out.2.trans (hb3.mono hS2.out.2.size)⟩)
  refine hK.out _ _ hS3.out ?_
  clear hK K
  refine T_take (i := 6) (v := .bool true) rfl (by kernel_rfl) (by kernel_rfl) (by kernel_rfl) (by kernel_rfl) (fun _ _ _ h => h) hS3.out (by kernel_rfl) (fun w' hS' => by obtain ⟨⟨h0, h1⟩, -⟩ := hS'.1.two; go_simp) ?_
  refine T_take (i := 7) (v := .bool true) rfl (by kernel_rfl) (by kernel_rfl) (by kernel_rfl) (by kernel_rfl) (fun _ _ _ h => h) hS3.out (by kernel_rfl) (fun w' hS' => by obtain ⟨⟨h0, h1⟩, -⟩ := hS'.1.two; go_simp) ?_
  refine T_take (i := 8) (v := .slice a x.length ac) rfl (by kernel_rfl) (by kernel_rfl) (by kernel_rfl) (by kernel_rfl) (fun _ _ _ h => h) hS3.out (by kernel_rfl) (fun w' hS' => by obtain ⟨⟨h0, h1⟩, -⟩ := hS'.1.two; go_simp) ?_
  refine T_take (i := 10) (v := .pointer (some ⟨w.heap.size, 1, none⟩)) rfl (by kernel_rfl) (by kernel_rfl) (by kernel_rfl) (by kernel_rfl) (fun _ _ _ h => h) hS3.out (by kernel_rfl) (fun w' hS' => by obtain ⟨⟨h0, h1⟩, -⟩ := hS'.1.two; go_simp) ?_
  refine T_take (i := 11) (v := t) rfl (by kernel_rfl) (by kernel_rfl) (by kernel_rfl) (by kernel_rfl) (fun _ _ _ h => h) hS3.out (by kernel_rfl) (fun w' hS' => by obtain ⟨⟨h0, h1⟩, -⟩ := hS'.1.two; go_simp) ?_
  refine T_step (i := 9) rfl (by kernel_rfl) rfl (by kernel_rfl) ?_
  intro K hK
  go_simp
  refine (i_numP (ptOf x) (.slice a x.length ac) _ (by rw [PX.out.1]; exact HX.out.below hS3.out.2)).mono ?_
  rintro e' wT4 ⟨rfl, hb4⟩
  have hS4 := Lib.hid (show (fun (w' : World) => Bk w' w.heap.size #[u, t] 26 ∧ Below w.heap.size w w') wT4 from ⟨hS3.out.1.below hb4, hS3.out.2.trans (hb4.mono hS3.out.2.size)⟩)
  refine hK.out _ _ hS4.out ?_
  clear hK K
  refine T_step (i := 12) rfl (by kernel_rfl) rfl (by kernel_rfl) ?_
  intro K hK
  go_simp
  refine (i_numP (ptOf c.2) t _ (by rw [R2.out.2.2.2.2]; exact HT.out.below hS4.out.2)).mono ?_
  rintro e' wT5 ⟨rfl, hb5⟩
  have hS5 := Lib.hid (show (fun (w' : World) => Bk w' w.heap.size #[u, t] 26 ∧ Below w.heap.size w w') wT5 from ⟨hS4.out.1.below hb5, hS4.out.2.trans (hb5.mono hS4.out.2.size)⟩)
  refine hK.out _ _ hS5.out ?_
  clear hK K
  refine T_step (i := 13) rfl (by kernel_rfl) rfl (by kernel_rfl) ?_
  intro K hK
  go_simp
  refine (i_pdet (ptOf x) (ptOf c.2) PX.out.2 R2.out.2.2.1.bd4 _).mono ?_
  rintro e' wT6 ⟨rfl, hb6⟩
  rw [show (ptOf x).1 * (ptOf c.2).2 - (ptOf x).2 * (ptOf c.2).1 = d2 from HD2.out]
  have hS6 := Lib.hid (show (fun (w' : World) => Bk w' w.heap.size #[u, t] 26 ∧ Below w.heap.size w w') wT6 from ⟨hS5.out.1.below hb6, hS5.out.2.trans (hb6.mono hS5.out.2.size)⟩)
  refine hK.out _ _ hS6.out ?_
  clear hK K
  refine T_take (i := 14) (v := .bool (decide (0 ≤ d2))) rfl (by kernel_rfl) (by kernel_rfl) (by kernel_rfl) (by kernel_rfl) (fun _ _ _ h => h) hS6.out (by kernel_rfl) (fun w' hS' => by obtain ⟨⟨h0, h1⟩, -⟩ := hS'.1.two; go_simp) ?_
  refine T_take (i := 15) (v := .bool (decide (0 ≤ d2))) rfl (by kernel_rfl) (by kernel_rfl) (by kernel_rfl) (by kernel_rfl) (fun _ _ _ h => h) hS6.out (by kernel_rfl) (fun w' hS' => by obtain ⟨⟨h0, h1⟩, -⟩ := hS'.1.two; go_simp) ?_
  refine T_last (i := 16) rfl (by kernel_rfl) (by kernel_rfl) rfl (by kernel_rfl) ?_
  go_simp
  have HB := Lib.hid hS6.out.2
  clear hS0 hS1 hS2 hS3 hS4 hS5 hS6
  go_wp2
  go_ret
  exact ⟨ret_bool E2.out.symm, HB.out⟩

end Go.Proofs.Ytjijgagdaolkcaa
/- The program's ConeOfTurns. -/
namespace Go.Proofs.Ytjijgagdaolkcaa
open Go Go.RowKit Go.Lib

def tallR (v : List Int) : Bool := v.all fun x => inR x 2 30
theorem tall_take {v : List Int} {k : Nat} (h : k < v.length) (h1 : tallR (v.take k) = true) (h2 : inR v[k] 2 30 = true) : tallR (v.take (k + 1)) = true := by
  rw [List.take_succ_eq_append_getElem h]
  unfold tallR at *
  rw [List.all_append, h1, List.all_cons, h2]; rfl
theorem tall_not {v : List Int} {k : Nat} (h : k < v.length) (h2 : inR v[k] 2 30 = false) : tallR v = false := by
  unfold tallR
  rw [List.all_eq_false]
  exact ⟨v[k], List.getElem_mem h, by simp [h2]⟩

set_option maxRecDepth 100000 in
theorem i_noturn (x : Int) (w : World) : Calls Try.prog 72 #[.int .i64 x] w fun e w' => e = .returned (.bool (!inR x (2) 30)) ∧ w = w' := by
  by_cases h1 : x < 2
  · have h := Lib.hid (inR_f (x := x) (lo := 2) (hi := 30) (fun h => by omega))
    go_enter Try.func72, Try.ntmps72
    go_wp2
    go_ret
    exact ⟨ret_bool (by rw [h.out]; rfl), rfl⟩
  · by_cases h2 : 30 < x
    · have h := Lib.hid (inR_f (x := x) (lo := 2) (hi := 30) (fun h => by omega))
      go_enter Try.func72, Try.ntmps72
      go_wp2
      go_ret
      exact ⟨ret_bool (by rw [h.out]; rfl), rfl⟩
    · have h := Lib.hid (inR_mk (x := x) (lo := 2) (hi := 30) (by omega) (by omega))
      go_enter Try.func72, Try.ntmps72
      go_wp2
      go_ret
      exact ⟨ret_bool (by rw [h.out]; rfl), rfl⟩

/-- Where the first number lies that is no coordinate, or -1. -/
def IdxTn (v : List Int) (w : World) (e : Ending) (w' : World) : Prop :=
  ((tallR v = true ∧ e = .returned (.int .i64 (-1))) ∨ (tallR v = false ∧ ∃ k : Nat, e = .returned (.int .i64 k))) ∧ Below w.heap.size w w'

set_option maxRecDepth 100000 in
set_option maxHeartbeats 400000 in
theorem i_indextn (v : List Int) (a : Value) (w : World) (hv : Sl w a (intVals v)) :
    Calls Try.prog 110 #[a, .func (.func 72) #[] #[]] w (IdxTn v w) := by
  obtain ⟨a, c, rfl, hm, hopen⟩ := hv.shape
  rw [intVals_len] at hm hopen ⊢
  unfold maxLen at hm
  have HO := Lib.hid hopen
  clear hopen hv
  go_enter Try.func110, Try.ntmps110
  go_wp2
  go_loopw [5, 8] (fun _ i wr => ∃ k : Nat, k ≤ v.length ∧ i = .int .i64 k ∧ tallR (v.take k) = true ∧ Below w.heap.size w wr) (fun _ i _ => v.length - (RowKit.intOf i).toNat)
  case atStart => exact ⟨0, Nat.zero_le _, rfl, rfl, Below.refl _ _⟩
  case round =>
    obtain ⟨k, hk, rfl, ht, hbr⟩ := hrel
    have HB := Lib.hid hbr
    have HT := Lib.hid ht
    clear ht
    by_cases hlt : k < v.length
    · obtain ⟨b, off, rfl, hc, hlt2, hx⟩ := HO.out (by omega)
      have hcell := hx k _ (intVals_get v k hlt)
      rw [← hbr.cell (p := ⟨b, off + k, none⟩) hlt2] at hcell
      clear hx hbr
      by_cases hin : inR v[k] (2) 30 = true
      · have HI := Lib.hid hin
        clear hin
        go_wp2_with fail
        refine (i_noturn _ _).mono ?_
        rintro e w1 ⟨rfl, rfl⟩
        rw [HI.out]
        go_wp2_with fail
        exact ⟨⟨k + 1, by omega, by go_num, tall_take hlt HT.out HI.out, HB.out⟩, by simp [RowKit.intOf]; omega⟩
      · have HI := Lib.hid (Bool.not_eq_true _ ▸ hin)
        clear hin
        go_wp2_with fail
        refine (i_noturn _ _).mono ?_
        rintro e w1 ⟨rfl, rfl⟩
        rw [HI.out]
        go_wp2_with fail
        go_ret
        exact ⟨.inr ⟨tall_not hlt HI.out, k, rfl⟩, HB.out⟩
    · obtain rfl : k = v.length := by omega
      clear hbr
      go_wp2
      go_ret
      refine ⟨.inl ⟨?_, rfl⟩, HB.out⟩
      have h := HT.out
      rw [List.take_length] at h
      exact h

set_option maxRecDepth 100000 in
theorem i_containstn (v : List Int) (a : Value) (w : World) (hv : Sl w a (intVals v)) :
    Calls Try.prog 71 #[a, .func (.func 72) #[] #[]] w (Quiet w (.bool (!tallR v))) := by
  have HV := Lib.hid hv
  clear hv
  go_enter Try.func71, Try.ntmps71
  go_wp2_with fail
  refine (i_indextn v a _ HV.out).mono ?_
  rintro e w1 ⟨⟨hs, rfl⟩ | ⟨hs, k, rfl⟩, hb⟩
  · have HS := Lib.hid hs
    clear hs
    go_wp2_with fail
    go_ret
    exact ⟨ret_bool (by rw [HS.out]; rfl), hb⟩
  · have HS := Lib.hid hs
    clear hs
    have h0 : (0 : Int) ≤ (k : Int) := by omega
    go_wp2_with fail
    go_ret
    exact ⟨ret_bool (by rw [HS.out]; rfl), hb⟩

theorem own_pair {w : World} {g lo hi : Nat} {x y : Int} (h : Bk w g #[.int .i64 x, .int .i64 y] 3) (h1 : lo ≤ g) (h2 : g < hi) : OwnV 3 lo hi w (.slice (some ⟨g, 0, none⟩) 2 2) (intVals (rowOf (x, y))) :=
  .inr ⟨g, 2, #[.int .i64 x, .int .i64 y], rfl, h1, h2, h, by simp [intVals, rowOf], by unfold maxLen; omega, rfl, rfl⟩
theorem coneT_f1 {l : List Int} (h : okT l = false) : coneTR l = (([], []), false) := if_neg (fun k => by rw [h] at k; exact absurd k.1 (by decide))
theorem coneT_f2 {l : List Int} (h : coneR ([1, 0], rowOf (runC l).2) = false) : coneTR l = (([], []), false) := if_neg (fun k => by rw [h] at k; exact absurd k.2 (by decide))
theorem coneT_t {l : List Int} (h : okT l = true) (h2 : coneR ([1, 0], rowOf (runC l).2) = true) : coneTR l = (([1, 0], rowOf (runC l).2), true) := if_pos ⟨h, h2⟩
theorem okT_e (l : List Int) : okT l = (inR l.length 1 10 && tallR l) := rfl
theorem got_cone {w : World} {r r' : Cn × Bool} {e : Ending} {w' : World} (h : r' = r) (g : GotC w r e w') : GotC w r' e w' := by subst h; exact g
set_option maxRecDepth 100000 in
set_option maxHeartbeats 3200000 in
theorem i_conet (l : List Int) (v : Value) (w : World) (hv : Sl w v (intVals l)) :
    Calls Try.prog 16 #[v] w (GotC w (coneTR l)) := by
  have HV := Lib.hid hv
  obtain ⟨va, vc, rfl, hm, hopen⟩ := hv.shape
  rw [intVals_len] at hm HV hopen ⊢
  unfold maxLen at hm
  have HO := Lib.hid hopen
  have K0 := Lib.hid (Bk.new w #[.slice none 0 0, .slice none 0 0] 26)
  have B0 := Lib.hid (below1 w (.cells #[.slice none 0 0, .slice none 0 0] 26))
  obtain ⟨⟨c0, c1⟩, f0, f1⟩ := K0.out.two
  clear hv hopen
  by_cases h1 : l.length = 0
  · have E := Lib.hid (coneT_f1 (l := l) (by rw [okT_e, inR_f (by omega)]; rfl))
    have i1 : (l.length : Int) = 0 := by omega
    have i2 : ((l.length : Int) == 0) = true := by rw [beq_iff_eq]; exact i1
    clear h1
    go_enter Try.func16, Try.ntmps16
    go_wp2
    refine bodyPost_ret (v := .tuple #[.agg #[.slice none 0 0, .slice none 0 0], .bool false]) ?_ rfl (got_cone E.out ⟨⟨_, rfl, _, _, rfl, OwC.nil⟩, B0.out⟩)
    simp [results, Try.results16, go_sem, c0, c1]
  have i2 : ((l.length : Int) == 0) = false := by rw [beq_eq_false_iff_ne]; omega
  have i2' : ¬ (l.length : Int) = 0 := by omega
  by_cases h2 : 10 < l.length
  · have E := Lib.hid (coneT_f1 (l := l) (by rw [okT_e, inR_f (by omega)]; rfl))
    have i3 : (10 : Int) < (l.length : Int) := by omega
    clear h1 h2
    go_enter Try.func16, Try.ntmps16
    go_wp2
    refine bodyPost_ret (v := .tuple #[.agg #[.slice none 0 0, .slice none 0 0], .bool false]) ?_ rfl (got_cone E.out ⟨⟨_, rfl, _, _, rfl, OwC.nil⟩, B0.out⟩)
    simp [results, Try.results16, go_sem, c0, c1]
  have i3 : ¬ (10 : Int) < (l.length : Int) := by omega
  have LEN := Lib.hid (show 1 ≤ l.length ∧ l.length ≤ 10 by omega)
  clear h1 h2
  go_enter Try.func16, Try.ntmps16
  go_wp2_with fail
  refine (i_containstn l _ _ (HV.out.below B0.out)).mono ?_
  rintro e w1 ⟨rfl, hb⟩
  have K1 := Lib.hid (K0.out.below hb)
  have B1 := Lib.hid (B0.out.trans (hb.mono B0.out.size))
  have S1 := Lib.hid hb.size
  clear hb c0 c1 f0 f1
  obtain ⟨⟨c0, c1⟩, f0, f1⟩ := K1.out.two
  cases h3 : tallR l
  · have E := Lib.hid (coneT_f1 (l := l) (by rw [okT_e, h3]; simp))
    clear h3
    go_wp2
    refine bodyPost_ret (v := .tuple #[.agg #[.slice none 0 0, .slice none 0 0], .bool false]) ?_ rfl (got_cone E.out ⟨⟨_, rfl, _, _, rfl, OwC.nil⟩, (B1.out.setCell (by simp) _).setCell (by simp) _⟩)
    simp [results, Try.results16, go_sem, c0, c1]
  have OK := Lib.hid (show okT l = true by rw [okT_e, h3, inR_mk (by have := LEN.out; omega) (by have := LEN.out; omega)]; rfl)
  have TL := Lib.hid (okT_t OK.out).2.2
  clear h3
  obtain ⟨b4, h4⟩ : ∃ b, w1.heap.size = b := ⟨_, rfl⟩
  have K45 := Lib.hid (Bk.pair w1 #[.int .i64 1, .int .i64 0, .int .i64 0] #[.int .i64 0, .int .i64 1, .int .i64 0] 85 85)
  rw [h4] at K45
  have hb2 := below2 w1 (.cells #[.int .i64 1, .int .i64 0, .int .i64 0] 85) (.cells #[.int .i64 0, .int .i64 1, .int .i64 0] 85)
  have K2 := Lib.hid (K1.out.below hb2)
  have B2 := Lib.hid (B1.out.trans (hb2.mono B1.out.size))
  have N45 := Lib.hid (show w.heap.size < b4 by have := S1.out; simp at this; omega)
  clear hb2 c0 c1 f0 f1
  go_wp2_with fail
  go_loopw [26] (fun i wr => ∃ k : Nat, k ≤ l.length ∧ i = .int .i64 k ∧ Bk wr b4 #[.int .i64 (runC (l.take k)).1.1, .int .i64 (runC (l.take k)).1.2, .int .i64 0] 85 ∧ Bk wr (b4 + 1) #[.int .i64 (runC (l.take k)).2.1, .int .i64 (runC (l.take k)).2.2, .int .i64 0] 85 ∧ Bk wr w.heap.size #[.slice none 0 0, .slice none 0 0] 26 ∧ Below w.heap.size w wr) (fun i _ => l.length - (RowKit.intOf i).toNat)
  case atStart => exact ⟨0, Nat.zero_le _, rfl, by simpa [runC] using K45.out.1, by simpa [runC] using K45.out.2, K2.out, B2.out⟩
  case round =>
    obtain ⟨k, hk, rfl, q4, q5, q0, hbr⟩ := hrel
    have HB := Lib.hid hbr
    have Q0 := Lib.hid q0
    by_cases hlt : k < l.length
    · have i1 : (0 : Int) ≤ (k : Int) := by omega
      have i4 : (k : Int) < (l.length : Int) := by omega
      obtain ⟨vb, vo, rfl, hvc, hvl, hx⟩ := HO.out (by omega)
      have hcell := hx k _ (intVals_get l k hlt)
      rw [← hbr.cell (p := ⟨vb, vo + k, none⟩) hvl] at hcell
      have BT := run_bd TL.out k hk
      have PB := pB_le k (by have := LEN.out; omega)
      have TB := TL.out l[k] (List.getElem_mem hlt)
      have RT := Lib.hid (runC_take hlt)
      obtain ⟨b, hb⟩ : ∃ b, l[k] = b := ⟨_, rfl⟩
      rw [hb] at hcell TB RT
      obtain ⟨st, hst⟩ : ∃ st, runC (l.take k) = st := ⟨_, rfl⟩
      rw [hst] at q4 q5 BT RT
      obtain ⟨⟨a1, a2⟩, v1, v2⟩ := st
      unfold BdT at BT
      simp only at q4 q5 BT
      have m1 := mul30 (show 0 ≤ b ∧ b ≤ 30 by omega) BT.2.1
      have m2 := mul30 (show 0 ≤ b ∧ b ≤ 30 by omega) BT.2.2
      have C1 := Lib.hid (fun W => i_addtP 0 0 0 b v1 v2 0 W (by omega) (by omega) (by omega) (by omega) (by omega) (by omega))
      have C2 := Lib.hid (fun W => i_addtP (0 + b * v1) (0 + b * v2) (0 + b * 0) (-1) a1 a2 0 W (by omega) (by omega) (by omega) (by omega) (by omega) (by omega))
      have RS := Lib.hid (show runC (l.take (k + 1)) = ((v1, v2), (0 + b * v1 + -1 * a1, 0 + b * v2 + -1 * a2)) by rw [RT.out]; unfold stepC; simp only; rw [Int.zero_add, Int.zero_add, Int.neg_one_mul, Int.neg_one_mul]; rfl)
      have RZ := Lib.hid (show 0 + b * 0 + -1 * 0 = (0 : Int) by simp)
      rw [RZ.out] at C2
      generalize 0 + b * v1 + -1 * a1 = n1 at C2 RS
      generalize 0 + b * v2 + -1 * a2 = n2 at C2 RS
      generalize 0 + b * v1 = t1 at C1 C2
      generalize 0 + b * v2 = t2 at C1 C2
      generalize 0 + b * 0 = t3 at C1 C2
      have Q4 := Lib.hid q4
      have Q5 := Lib.hid q5
      clear q4 q5 q0 hbr hx hb hst BT PB TB m1 m2 RT RZ
      go_wp2_with fail
      have n45 := N45.out
      refine T_begin (z := fun k => 7 < k) (S := fun (w' : World) => Bk w' (b4 + 1) #[.int .i64 v1, .int .i64 v2, .int .i64 0] 85 ∧ Bk w' w.heap.size #[.slice none 0 0, .slice none 0 0] 26 ∧ Below w.heap.size w w') (by kernel_rfl) ?_
      show wpAnyT _ _ _ _ _ _ 9 _ _ _
      have hS0 := Lib.hid (show (fun (w' : World) => Bk w' (b4 + 1) #[.int .i64 v1, .int .i64 v2, .int .i64 0] 85 ∧ Bk w' w.heap.size #[.slice none 0 0, .slice none 0 0] 26 ∧ Below w.heap.size w w') (wr.drew) from ⟨Q5.out, Q0.out, HB.out.drew⟩)
      refine T_take (i := 0) (v := .agg #[.int .i64 v1, .int .i64 v2, .int .i64 0]) rfl (by kernel_rfl) (by kernel_rfl) (by kernel_rfl) (by kernel_rfl) (fun _ _ _ h => h) hS0.out (by kernel_rfl) (fun w' hS' => by obtain ⟨g0, g1, g2⟩ := bk3c hS'.1; go_simp) ?_
      refine T_take (i := 1) (v := .agg #[.int .i64 0, .int .i64 0, .int .i64 0]) rfl (by kernel_rfl) (by kernel_rfl) (by kernel_rfl) (by kernel_rfl) (fun _ _ _ h => h) hS0.out (by kernel_rfl) (fun w' hS' => by obtain ⟨g0, g1, g2⟩ := bk3c hS'.1; go_simp) ?_
      refine T_take (i := 2) (v := .int .i64 b) rfl (by kernel_rfl) (by kernel_rfl) (by kernel_rfl) (by kernel_rfl) (fun _ _ _ h => h) hS0.out (by kernel_rfl) (fun w' hS' => by obtain ⟨g0, g1, g2⟩ := bk3c hS'.1; go_simp) ?_
      refine T_take (i := 3) (v := .agg #[.int .i64 v1, .int .i64 v2, .int .i64 0]) rfl (by kernel_rfl) (by kernel_rfl) (by kernel_rfl) (by kernel_rfl) (fun _ _ _ h => h) hS0.out (by kernel_rfl) (fun w' hS' => by obtain ⟨g0, g1, g2⟩ := bk3c hS'.1; go_simp) ?_
      refine T_both (i := 4) (j := 5) rfl rfl (by kernel_rfl) (by kernel_rfl) (by kernel_rfl) ?_ ?_
      · intro K hK
        go_simp
        refine (C1.out _).mono ?_
        rintro e' wT1 ⟨rfl, hb1⟩
        have hS1 := Lib.hid (show (fun (w' : World) => Bk w' (b4 + 1) #[.int .i64 v1, .int .i64 v2, .int .i64 0] 85 ∧ Bk w' w.heap.size #[.slice none 0 0, .slice none 0 0] 26 ∧ Below w.heap.size w w') wT1 from ⟨hS0.out.1.below hb1, hS0.out.2.1.below hb1, hS0.out.2.2.trans (hb1.mono hS0.out.2.2.size)⟩)
        have P3 := Lib.hid ((show Bk wr.drew b4 #[.int .i64 a1, .int .i64 a2, .int .i64 0] 85 from Q4.out).below hb1)
        refine hK.out _ _ hS1.out ?_
        clear hK K
        obtain ⟨p0, p1, p2⟩ := bk3c P3.out
        refine T_step (i := 5) rfl (by kernel_rfl) rfl (by kernel_rfl) ?_
        intro K hK
        go_simp
        refine hK.out _ _ hS1.out ?_
        clear hK K p0 p1 p2
        refine T_step (i := 6) rfl (by kernel_rfl) rfl (by kernel_rfl) ?_
        intro K hK
        go_simp
        refine (C2.out _).mono ?_
        rintro e' wT2 ⟨rfl, hb2⟩
        have hS2 := Lib.hid (show (fun (w' : World) => Bk w' (b4 + 1) #[.int .i64 v1, .int .i64 v2, .int .i64 0] 85 ∧ Bk w' w.heap.size #[.slice none 0 0, .slice none 0 0] 26 ∧ Below w.heap.size w w') wT2 from ⟨hS1.out.1.below hb2, hS1.out.2.1.below hb2, hS1.out.2.2.trans (hb2.mono hS1.out.2.2.size)⟩)
        refine hK.out _ _ hS2.out ?_
        clear hK K
        have P4 := Lib.hid (P3.out.below hb2)
        obtain ⟨p0, p1, p2⟩ := bk3c P4.out
        have pf0 := P4.out.free 0
        have pf1 := P4.out.free 1
        have pf2 := P4.out.free 2
        refine T_step (i := 7) rfl (by kernel_rfl) rfl (by kernel_rfl) ?_
        intro K hK
        go_simp
        have P5 := Lib.hid (((P4.out.set 0 (.int .i64 v1) (by simp)).set 1 (.int .i64 v2) (by simp)).set 2 (.int .i64 0) (by simp))
        have O5 := Lib.hid (show (fun (w' : World) => Bk w' (b4 + 1) #[.int .i64 v1, .int .i64 v2, .int .i64 0] 85 ∧ Bk w' w.heap.size #[.slice none 0 0, .slice none 0 0] 26 ∧ Below w.heap.size w w') (((wT2.setCell ⟨b4, 0, none⟩ (.int .i64 v1)).setCell ⟨b4, 1, none⟩ (.int .i64 v2)).setCell ⟨b4, 2, none⟩ (.int .i64 0)) from ⟨((hS2.out.1.other (by simp) _).other (by simp) _).other (by simp) _, ((hS2.out.2.1.other (by simp; omega) _).other (by simp; omega) _).other (by simp; omega) _, ((hS2.out.2.2.setCell (by simp; omega) _).setCell (by simp; omega) _).setCell (by simp; omega) _⟩)
        refine hK.out _ _ O5.out ?_
        clear hK K p0 p1 p2 pf0 pf1 pf2
        obtain ⟨p0, p1, p2⟩ := bk3c O5.out.1
        have pf0 := O5.out.1.free 0
        have pf1 := O5.out.1.free 1
        have pf2 := O5.out.1.free 2
        refine T_last (i := 8) rfl (by kernel_rfl) (by kernel_rfl) rfl (by kernel_rfl) ?_
        go_simp
        go_wp2
        refine ⟨⟨k + 1, by omega, by go_num, ?_, ?_, ?_, ?_⟩, by simp [RowKit.intOf]; omega⟩
        · rw [RS.out]; exact ((P5.out.other (by simp) _).other (by simp) _).other (by simp) _
        · rw [RS.out]; exact ((O5.out.1.set 0 (.int .i64 n1) (by simp)).set 1 (.int .i64 n2) (by simp)).set 2 (.int .i64 0) (by simp)
        · exact ((O5.out.2.1.other (by simp; omega) _).other (by simp; omega) _).other (by simp; omega) _
        · exact ((O5.out.2.2.setCell (by simp; omega) _).setCell (by simp; omega) _).setCell (by simp; omega) _
      · intro K hK
        obtain ⟨p0, p1, p2⟩ := bk3c Q4.out
        go_simp
        refine hK.out _ _ hS0.out ?_
        clear hK K p0 p1 p2
        refine T_step (i := 4) rfl (by kernel_rfl) rfl (by kernel_rfl) ?_
        intro K hK
        go_simp
        refine (C1.out _).mono ?_
        rintro e' wT1 ⟨rfl, hb1⟩
        have hS1 := Lib.hid (show (fun (w' : World) => Bk w' (b4 + 1) #[.int .i64 v1, .int .i64 v2, .int .i64 0] 85 ∧ Bk w' w.heap.size #[.slice none 0 0, .slice none 0 0] 26 ∧ Below w.heap.size w w') wT1 from ⟨hS0.out.1.below hb1, hS0.out.2.1.below hb1, hS0.out.2.2.trans (hb1.mono hS0.out.2.2.size)⟩)
        have P3 := Lib.hid ((show Bk wr.drew b4 #[.int .i64 a1, .int .i64 a2, .int .i64 0] 85 from Q4.out).below hb1)
        refine hK.out _ _ hS1.out ?_
        clear hK K
        refine T_step (i := 6) rfl (by kernel_rfl) rfl (by kernel_rfl) ?_
        intro K hK
        go_simp
        refine (C2.out _).mono ?_
        rintro e' wT2 ⟨rfl, hb2⟩
        have hS2 := Lib.hid (show (fun (w' : World) => Bk w' (b4 + 1) #[.int .i64 v1, .int .i64 v2, .int .i64 0] 85 ∧ Bk w' w.heap.size #[.slice none 0 0, .slice none 0 0] 26 ∧ Below w.heap.size w w') wT2 from ⟨hS1.out.1.below hb2, hS1.out.2.1.below hb2, hS1.out.2.2.trans (hb2.mono hS1.out.2.2.size)⟩)
        refine hK.out _ _ hS2.out ?_
        clear hK K
        have P4 := Lib.hid (P3.out.below hb2)
        obtain ⟨p0, p1, p2⟩ := bk3c P4.out
        have pf0 := P4.out.free 0
        have pf1 := P4.out.free 1
        have pf2 := P4.out.free 2
        refine T_step (i := 7) rfl (by kernel_rfl) rfl (by kernel_rfl) ?_
        intro K hK
        go_simp
        have P5 := Lib.hid (((P4.out.set 0 (.int .i64 v1) (by simp)).set 1 (.int .i64 v2) (by simp)).set 2 (.int .i64 0) (by simp))
        have O5 := Lib.hid (show (fun (w' : World) => Bk w' (b4 + 1) #[.int .i64 v1, .int .i64 v2, .int .i64 0] 85 ∧ Bk w' w.heap.size #[.slice none 0 0, .slice none 0 0] 26 ∧ Below w.heap.size w w') (((wT2.setCell ⟨b4, 0, none⟩ (.int .i64 v1)).setCell ⟨b4, 1, none⟩ (.int .i64 v2)).setCell ⟨b4, 2, none⟩ (.int .i64 0)) from ⟨((hS2.out.1.other (by simp) _).other (by simp) _).other (by simp) _, ((hS2.out.2.1.other (by simp; omega) _).other (by simp; omega) _).other (by simp; omega) _, ((hS2.out.2.2.setCell (by simp; omega) _).setCell (by simp; omega) _).setCell (by simp; omega) _⟩)
        refine hK.out _ _ O5.out ?_
        clear hK K p0 p1 p2 pf0 pf1 pf2
        obtain ⟨p0, p1, p2⟩ := bk3c O5.out.1
        have pf0 := O5.out.1.free 0
        have pf1 := O5.out.1.free 1
        have pf2 := O5.out.1.free 2
        refine T_last (i := 8) rfl (by kernel_rfl) (by kernel_rfl) rfl (by kernel_rfl) ?_
        go_simp
        go_wp2
        refine ⟨⟨k + 1, by omega, by go_num, ?_, ?_, ?_, ?_⟩, by simp [RowKit.intOf]; omega⟩
        · rw [RS.out]; exact ((P5.out.other (by simp) _).other (by simp) _).other (by simp) _
        · rw [RS.out]; exact ((O5.out.1.set 0 (.int .i64 n1) (by simp)).set 1 (.int .i64 n2) (by simp)).set 2 (.int .i64 0) (by simp)
        · exact ((O5.out.2.1.other (by simp; omega) _).other (by simp; omega) _).other (by simp; omega) _
        · exact ((O5.out.2.2.setCell (by simp; omega) _).setCell (by simp; omega) _).setCell (by simp; omega) _
    · obtain rfl : k = l.length := by omega
      rw [List.take_length] at q4 q5
      clear q0 hbr
      have EF := Lib.hid (coneT_f2 (l := l))
      have ET := Lib.hid (coneT_t OK.out)
      obtain ⟨st, hst⟩ : ∃ st, runC l = st := ⟨_, rfl⟩
      rw [hst] at q4 q5 EF ET
      obtain ⟨⟨a1, a2⟩, v1, v2⟩ := st
      simp only at q4 q5
      have Q5 := Lib.hid q5
      obtain ⟨z0, z1, z2⟩ := bk3c q5
      have zl := q5.lt
      have K3 := Lib.hid (Bk.three wr #[.int .i64 1, .int .i64 0] #[.int .i64 v1, .int .i64 v2] #[.slice (some ⟨wr.heap.size, 0, none⟩) 2 2, .slice (some ⟨wr.heap.size + 1, 0, none⟩) 2 2] 3 3 26)
      have hb3 := below3 wr (.cells #[.int .i64 1, .int .i64 0] 3) (.cells #[.int .i64 v1, .int .i64 v2] 3) (.cells #[.slice (some ⟨wr.heap.size, 0, none⟩) 2 2, .slice (some ⟨wr.heap.size + 1, 0, none⟩) 2 2] 26)
      have B3 := Lib.hid (HB.out.trans (hb3.mono HB.out.size))
      have K03 := Lib.hid (Q0.out.below hb3)
      have SW := Lib.hid HB.out.size
      have SL := Lib.hid (show w.heap.size + 1 ≤ wr.heap.size from Q0.out.lt)
      obtain ⟨⟨y0, y1⟩, -⟩ := K3.out.2.2.two
      have HBS := Lib.hid hb3.size
      clear q4 q5 hb3 hst
      go_wp2_with fail
      obtain ⟨W3, hW3⟩ : ∃ W3, ((wr.alloc (.cells #[.int .i64 1, .int .i64 0] 3)).alloc (.cells #[.int .i64 v1, .int .i64 v2] 3)).alloc (.cells #[.slice (some ⟨wr.heap.size, 0, none⟩) 2 2, .slice (some ⟨wr.heap.size + 1, 0, none⟩) 2 2] 26) = W3 := ⟨_, rfl⟩
      rw [hW3] at K3 B3 K03 HBS ⊢
      have Z3 := Lib.hid (show W3.heap.size = wr.heap.size + 3 by rw [← hW3]; simp)
      clear hW3 y0 y1 z0 z1 z2 zl
      have OU := Lib.hid (own_pair (lo := w.heap.size + 1) (hi := W3.heap.size) K3.out.1 SL.out (by have := Z3.out; omega))
      have OT := Lib.hid (own_pair (lo := w.heap.size + 1) (hi := W3.heap.size) K3.out.2.1 (by have := SL.out; omega) (by have := Z3.out; omega))
      have OC := Lib.hid (show OwC (w.heap.size + 1) W3.heap.size W3 (.slice (some ⟨wr.heap.size, 0, none⟩) 2 2) (.slice (some ⟨wr.heap.size + 1, 0, none⟩) 2 2) ([1, 0], rowOf (v1, v2)) from ⟨OU.out, OT.out, fun b hb hb' => by cases hb; simp [Value.ownBlock] at hb'⟩)
      refine (i_cone ([1, 0], rowOf (v1, v2)) _ _ OC.out.cv).mono ?_
      rintro e w4 ⟨rfl, hb4⟩
      have KT := Lib.hid (K3.out.2.2.below hb4)
      have K04 := Lib.hid (K03.out.below hb4)
      have B4 := Lib.hid (B3.out.trans (hb4.mono B3.out.size))
      have OC4 := Lib.hid (OC.out.below hb4)
      have S4 := Lib.hid hb4.size
      obtain ⟨⟨c0, c1⟩, f0, f1⟩ := K04.out.two
      obtain ⟨⟨y0, y1⟩, -⟩ := KT.out.two
      clear hb4
      cases hc : coneR ([1, 0], rowOf (v1, v2))
      · have E := Lib.hid (EF.out hc)
        clear hc
        go_wp2
        refine bodyPost_ret (v := .tuple #[.agg #[.slice none 0 0, .slice none 0 0], .bool false]) ?_ rfl (got_cone E.out ⟨⟨_, rfl, _, _, rfl, OwC.nil⟩, (B4.out.setCell (by simp) _).setCell (by simp) _⟩)
        simp [results, Try.results16, go_sem, c0, c1]
      · have E := Lib.hid (ET.out hc)
        clear hc
        go_wp2
        refine bodyPost_ret (v := .tuple #[.agg #[.slice (some ⟨wr.heap.size, 0, none⟩) 2 2, .slice (some ⟨wr.heap.size + 1, 0, none⟩) 2 2], .bool true]) ?_ rfl (got_cone E.out ⟨⟨_, rfl, _, _, rfl, ?_⟩, (B4.out.setCell (by simp) _).setCell (by simp) _⟩)
        · simp [results, Try.results16, go_sem, c0, c1]
        · exact (OC4.out.kept (((Kept.refl w.heap.size (w.heap.size + 1) w4).setCell (by simp) (by simp) _).setCell (by simp) (by simp) _) (.inr (Nat.le_refl _))).mono (by omega) (by simpa [World.setCell] using S4.out)
end Go.Proofs.Ytjijgagdaolkcaa
/- The model's ConeOfTurns. -/
namespace Go.Proofs.Ytjijgagdaolkcaa
open Go Go.RowKit Go.Lib

theorem small_cn {p : P2} (h : small (rowOf p) 30 = true) : Cn30 p := ⟨small_get h 0 (by simp [rowOf]), small_get h 1 (by simp [rowOf])⟩
theorem cn_small {p : P2} (h : Cn30 p) : small (rowOf p) 30 = true := by
  unfold small rowOf
  simp only [List.all_cons, List.all_nil, Bool.and_true, inR_mk h.1.1 h.1.2, inR_mk h.2.1 h.2.2]
/-- A number that is no turn, a vector that is too great: no cone. -/
theorem coneT_bad {l : List Int} {k : Nat} (h : k < l.length) (h2 : inR l[k] 2 30 = false) : coneTR l = (([], []), false) := coneT_f1 (by rw [okT_e, tall_not h h2]; simp)
theorem coneT_big {l : List Int} {k : Nat} (h : k ≤ l.length) (h2 : ¬ Cn30 (runC (l.take k)).2) : coneTR l = (([], []), false) := by
  cases hok : okT l with
  | false => exact coneT_f1 hok
  | true =>
    refine coneT_f2 ?_
    cases hc : coneR ([1, 0], rowOf (runC l).2) with
    | false => rfl
    | true =>
      exfalso
      have h3 := run_late (fun x hx => ((okT_t hok).2.2 x hx).1) h h2
      exact h3 (coneR_t hc).2.2.2.2.1
theorem bd30 {p : P2} (h : Cn30 p) : Bd (rowOf p) 30 := fun k hk => by
  rcases (by simp [rowOf] at hk; omega : k = 0 ∨ k = 1) with rfl | rfl
  · exact h.1
  · exact h.2
theorem bd_wide {p : P2} {n m : Int} (h : Bd (rowOf p) n) (hm : n ≤ m) : Bd (rowOf p) m := fun k hk => by have := h k hk; omega
set_option maxRecDepth 100000 in
set_option maxHeartbeats 3200000 in
theorem s_conet (l : List Int) (v : Value) (w : World) (hv : Sl w v (intVals l)) :
    Calls Try.prog 17 #[v] w (GotC w (coneTR l)) := by
  obtain ⟨va, vc, rfl, hm, hopen⟩ := hv.shape
  rw [intVals_len] at hm hopen ⊢
  unfold maxLen at hm
  have HO := Lib.hid hopen
  have K0 := Lib.hid (Bk.new w #[.slice none 0 0, .slice none 0 0] 26)
  have B0 := Lib.hid (below1 w (.cells #[.slice none 0 0, .slice none 0 0] 26))
  obtain ⟨⟨c0, c1⟩, f0, f1⟩ := K0.out.two
  clear hv hopen
  by_cases h1 : inR l.length 1 10 = true
  case neg =>
    have H1 := Lib.hid (bool_f h1)
    have E := Lib.hid (coneT_f1 (l := l) (by rw [okT_e, bool_f h1]; rfl))
    clear h1
    go_enter Try.func17, Try.ntmps17
    go_wp2_with fail
    refine (s_in _ _ _ _).mono ?_
    rintro e w1 ⟨rfl, rfl⟩
    rw [H1.out]
    go_wp2
    refine bodyPost_ret (v := .tuple #[.agg #[.slice none 0 0, .slice none 0 0], .bool false]) ?_ rfl (got_cone E.out ⟨⟨_, rfl, _, _, rfl, OwC.nil⟩, B0.out⟩)
    simp [results, Try.results17, go_sem, c0, c1]
  have H1 := Lib.hid h1
  have LEN := Lib.hid (inR_t h1)
  clear h1
  have K2 := Lib.hid (Bk.pair (w.alloc (.cells #[.slice none 0 0, .slice none 0 0] 26)) #[.int .i64 1, .int .i64 0] #[.int .i64 0, .int .i64 1] 3 3)
  have hb2 := below2 (w.alloc (.cells #[.slice none 0 0, .slice none 0 0] 26)) (.cells #[.int .i64 1, .int .i64 0] 3) (.cells #[.int .i64 0, .int .i64 1] 3)
  have K3 := Lib.hid (K0.out.below hb2)
  have B2 := Lib.hid (B0.out.trans (hb2.mono B0.out.size))
  clear hb2 c0 c1 f0 f1
  go_enter Try.func17, Try.ntmps17
  go_wp2_with fail
  refine (s_in _ _ _ _).mono ?_
  rintro e w1 ⟨rfl, rfl⟩
  rw [H1.out]
  go_wp2_with fail
  go_loopw [4, 5, 6] (fun a b i wr => ∃ (k : Nat) (p q : P2), k ≤ l.length ∧ i = .int .i64 k ∧ runC (l.take k) = (p, q) ∧ tallR (l.take k) = true ∧ Cn30 p ∧ Cn30 q ∧ Sl wr a (intVals (rowOf p)) ∧ OwnV 3 (w.heap.size + 1) wr.heap.size wr b (intVals (rowOf q)) ∧ Bk wr w.heap.size #[.slice none 0 0, .slice none 0 0] 26 ∧ Below w.heap.size w wr) (fun _ _ i _ => l.length - (RowKit.intOf i).toNat)
  case atStart => exact ⟨0, (1, 0), (0, 1), Nat.zero_le _, rfl, rfl, rfl, by unfold Cn30; simp, by unfold Cn30; simp, by have h := (own_two (lo := 0) K2.out.1 (Nat.zero_le _) (Nat.lt_succ_self _)).sl; simpa using h, by have h := own_two (lo := w.heap.size + 1) K2.out.2 (by simp) (Nat.lt_succ_self _); simpa using h, K3.out, B2.out⟩
  case round =>
    obtain ⟨k, p, q, hk, rfl, hrun, htall, hcp, hcq, hp, hq, hk0, hbr⟩ := hrel
    have HB := Lib.hid hbr
    have KR := Lib.hid hk0
    have HP := Lib.hid hp
    have HQ := Lib.hid hq
    have RUN := Lib.hid hrun
    have TAL := Lib.hid htall
    have CP := Lib.hid hcp
    have CQ := Lib.hid hcq
    obtain ⟨pb, po, pc, rfl, _, _, _, _⟩ := row_cells hp
    obtain ⟨qb, qc, rfl, _, _⟩ := hq.form (by simp [intVals, rowOf])
    rw [show (intVals (rowOf q)).length = 2 from rfl] at HQ ⊢
    obtain ⟨⟨c0, c1⟩, f0, f1⟩ := KR.out.two
    clear hrun htall hcp hcq hp hq hk0
    by_cases hlt : k < l.length
    · have i1 : (0 : Int) ≤ (k : Int) := by omega
      have i4 : (k : Int) < (l.length : Int) := by omega
      obtain ⟨vb, vo, rfl, hvc, hvl, hx⟩ := HO.out (by omega)
      have hcell := hx k _ (intVals_get l k hlt)
      rw [← hbr.cell (p := ⟨vb, vo + k, none⟩) hvl] at hcell
      have RT := Lib.hid (runC_take hlt)
      have BAD := Lib.hid (coneT_bad hlt)
      have TT := Lib.hid (tall_take hlt TAL.out)
      have BIG := Lib.hid (coneT_big (l := l) (k := k + 1) hlt)
      obtain ⟨z, hz⟩ : ∃ z, l[k] = z := ⟨_, rfl⟩
      rw [hz] at hcell RT BAD TT
      clear hz hbr hx
      cases hin : inR z 2 30
      · have E := Lib.hid (BAD.out hin)
        have HI := Lib.hid hin
        clear hin
        go_wp2_with fail
        refine (s_in _ _ _ _).mono ?_
        rintro e w1 ⟨rfl, rfl⟩
        rw [HI.out]
        go_wp2
        refine bodyPost_ret (v := .tuple #[.agg #[.slice none 0 0, .slice none 0 0], .bool false]) ?_ rfl (got_cone E.out ⟨⟨_, rfl, _, _, rfl, OwC.nil⟩, (HB.out.setCell (by simp) _).setCell (by simp) _⟩)
        simp [results, Try.results17, go_sem, c0, c1]
      have HI := Lib.hid hin
      have TK := Lib.hid (TT.out hin)
      have zb := inR_t hin
      clear hin
      go_wp2_with fail
      refine (s_in _ _ _ _).mono ?_
      rintro e w1 ⟨rfl, rfl⟩
      rw [HI.out]
      go_wp2_with fail
      refine (s_scale (rowOf q) (by simp [rowOf]) 30 30 z (bd30 CQ.out) (by omega) (by omega) (by omega) _ _ HQ.out.sl).mono ?_
      rintro e w2 ⟨⟨y, rfl, hy⟩, hb2⟩
      have HY := Lib.hid (show OwnV _ _ _ _ _ (intVals (rowOf (q.1 * z, q.2 * z))) from hy)
      have HB2 := Lib.hid (HB.out.trans (hb2.mono HB.out.size))
      have HP2 := Lib.hid (HP.out.below hb2)
      have HQ2 := Lib.hid ((HQ.out.below hb2).mono (Nat.le_refl _) hb2.size)
      have KR2 := Lib.hid (KR.out.below hb2)
      have m1 := mul30 (b := z) (x := q.1) (n := 30) (by omega) CQ.out.1
      have m2 := mul30 (b := z) (x := q.2) (n := 30) (by omega) CQ.out.2
      rw [Int.mul_comm z] at m1 m2
      have D2 := Lib.hid (show Bd (rowOf (q.1 * z, q.2 * z)) 1000 from fun k hk => by
        rcases (by simp [rowOf] at hk; omega : k = 0 ∨ k = 1) with rfl | rfl
        · show -1000 ≤ q.1 * z ∧ q.1 * z ≤ 1000; omega
        · show -1000 ≤ q.2 * z ∧ q.2 * z ≤ 1000; omega)
      obtain ⟨ya, yc, rfl, _⟩ := hy.shape1
      clear hb2 hy m1 m2 c0 c1 f0 f1
      go_wp2_with fail
      refine (s_lessP (rowOf (q.1 * z, q.2 * z)) (rowOf p) rfl (by simp [rowOf]) 1000 (by omega) D2.out (bd_wide (bd30 CP.out) (by omega)) _ _ _ HY.out.sl HP2.out).mono ?_
      rintro e w3 ⟨⟨x, rfl, hx⟩, hb3⟩
      have RN := Lib.hid (show runC (l.take (k + 1)) = (q, (q.1 * z - p.1, q.2 * z - p.2)) by rw [RT.out, RUN.out]; unfold stepC; simp only; rw [Int.mul_comm z, Int.mul_comm z])
      obtain ⟨n, hn⟩ : ∃ n, ((q.1 * z - p.1, q.2 * z - p.2) : P2) = n := ⟨_, rfl⟩
      have hx : OwnV 3 w2.heap.size w3.heap.size w3 x (intVals (rowOf (q.1 * z - p.1, q.2 * z - p.2))) := hx
      rw [hn] at RN hx
      have HX := Lib.hid hx
      have HB3 := Lib.hid (HB2.out.trans (hb3.mono HB2.out.size))
      have HQ3 := Lib.hid ((HQ2.out.below hb3).mono (Nat.le_refl _) hb3.size)
      have KR3 := Lib.hid (KR2.out.below hb3)
      obtain ⟨xb, xc, rfl, _, _⟩ := hx.form (by simp [intVals, rowOf])
      rw [show (intVals (rowOf n)).length = 2 from rfl] at HX ⊢
      have HLO := Lib.hid (show w.heap.size + 1 ≤ w2.heap.size from KR2.out.lt)
      clear hb3 hx hn
      go_wp2_with fail
      refine (s_small (rowOf n) 30 (by omega) (by omega) _ _ HX.out.sl).mono ?_
      rintro e w4 ⟨rfl, hb4⟩
      have KR4 := Lib.hid (KR3.out.below hb4)
      have HB4 := Lib.hid (HB3.out.trans (hb4.mono HB3.out.size))
      have HX4 := Lib.hid ((HX.out.below hb4).mono HLO.out hb4.size)
      have HQ4 := Lib.hid ((HQ3.out.below hb4).sl)
      obtain ⟨⟨c0, c1⟩, f0, f1⟩ := KR4.out.two
      clear hb4
      cases hsm : small (rowOf n) 30
      · have E := Lib.hid (BIG.out (by rw [RN.out]; intro hc; rw [cn_small hc] at hsm; cases hsm))
        clear hsm
        go_wp2
        refine bodyPost_ret (v := .tuple #[.agg #[.slice none 0 0, .slice none 0 0], .bool false]) ?_ rfl (got_cone E.out ⟨⟨_, rfl, _, _, rfl, OwC.nil⟩, (HB4.out.setCell (by simp) _).setCell (by simp) _⟩)
        simp [results, Try.results17, go_sem, c0, c1]
      have CN := Lib.hid (small_cn hsm)
      clear hsm c0 c1 f0 f1
      go_wp2
      exact ⟨⟨k + 1, q, n, by omega, by go_num, RN.out, TK.out, CQ.out, CN.out, HQ4.out, HX4.out, KR4.out, HB4.out⟩, by simp [RowKit.intOf]; omega⟩
    · obtain rfl : k = l.length := by omega
      have OK := Lib.hid (show okT l = true by have h := TAL.out; rw [List.take_length] at h; rw [okT_e, H1.out, h]; rfl)
      have hr2 : (runC l).2 = q := by have h := RUN.out; rw [List.take_length] at h; rw [h]
      have EF := Lib.hid (coneT_f2 (l := l))
      have ET := Lib.hid (coneT_t OK.out)
      rw [hr2] at EF ET
      clear hr2 hbr
      have K4 := Lib.hid (Bk.pair wr #[.int .i64 1, .int .i64 0] #[.slice (some ⟨wr.heap.size, 0, none⟩) 2 2, .slice (some ⟨qb, 0, none⟩) 2 qc] 3 26)
      have hb3 := below2 wr (.cells #[.int .i64 1, .int .i64 0] 3) (.cells #[.slice (some ⟨wr.heap.size, 0, none⟩) 2 2, .slice (some ⟨qb, 0, none⟩) 2 qc] 26)
      have B3 := Lib.hid (HB.out.trans (hb3.mono HB.out.size))
      have K03 := Lib.hid (KR.out.below hb3)
      have HQ3 := Lib.hid (HQ.out.below hb3)
      have SL := Lib.hid (show w.heap.size + 1 ≤ wr.heap.size from KR.out.lt)
      have QL := Lib.hid (HQ.out.place (b := qb) rfl)
      obtain ⟨⟨y0, y1⟩, -⟩ := K4.out.2.two
      clear hb3 c0 c1 f0 f1
      go_wp2_with fail
      obtain ⟨W3, hW3⟩ : ∃ W3, (wr.alloc (.cells #[.int .i64 1, .int .i64 0] 3)).alloc (.cells #[.slice (some ⟨wr.heap.size, 0, none⟩) 2 2, .slice (some ⟨qb, 0, none⟩) 2 qc] 26) = W3 := ⟨_, rfl⟩
      rw [hW3] at K4 B3 K03 HQ3 ⊢
      have Z3 := Lib.hid (show W3.heap.size = wr.heap.size + 2 by rw [← hW3]; simp)
      clear hW3 y0 y1
      have OU := Lib.hid (own_two (lo := w.heap.size + 1) (hi := W3.heap.size) K4.out.1 SL.out (by have := Z3.out; omega))
      have OC := Lib.hid (show OwC (w.heap.size + 1) W3.heap.size W3 (.slice (some ⟨wr.heap.size, 0, none⟩) 2 2) (.slice (some ⟨qb, 0, none⟩) 2 qc) ([1, 0], rowOf q) from ⟨OU.out, HQ3.out.mono (Nat.le_refl _) (by have := Z3.out; omega), fun b hb hb' => by cases hb; have := QL.out.2.2; simp [Value.ownBlock] at hb'; omega⟩)
      refine (s_cone ([1, 0], rowOf q) _ _ OC.out.cv).mono ?_
      rintro e w4 ⟨rfl, hb4⟩
      have KT := Lib.hid (K4.out.2.below hb4)
      have K04 := Lib.hid (K03.out.below hb4)
      have B4 := Lib.hid (B3.out.trans (hb4.mono B3.out.size))
      have OC4 := Lib.hid (OC.out.below hb4)
      have S4 := Lib.hid hb4.size
      obtain ⟨⟨c0, c1⟩, f0, f1⟩ := K04.out.two
      obtain ⟨⟨y0, y1⟩, -⟩ := KT.out.two
      clear hb4
      cases hc : coneR ([1, 0], rowOf q)
      · have E := Lib.hid (EF.out hc)
        clear hc
        go_wp2
        refine bodyPost_ret (v := .tuple #[.agg #[.slice none 0 0, .slice none 0 0], .bool false]) ?_ rfl (got_cone E.out ⟨⟨_, rfl, _, _, rfl, OwC.nil⟩, (B4.out.setCell (by simp) _).setCell (by simp) _⟩)
        simp [results, Try.results17, go_sem, c0, c1]
      · have E := Lib.hid (ET.out hc)
        clear hc
        go_wp2
        refine bodyPost_ret (v := .tuple #[.agg #[.slice (some ⟨wr.heap.size, 0, none⟩) 2 2, .slice (some ⟨qb, 0, none⟩) 2 qc], .bool true]) ?_ rfl (got_cone E.out ⟨⟨_, rfl, _, _, rfl, ?_⟩, (B4.out.setCell (by simp) _).setCell (by simp) _⟩)
        · simp [results, Try.results17, go_sem, c0, c1]
        · exact (OC4.out.kept (((Kept.refl w.heap.size (w.heap.size + 1) w4).setCell (by simp) (by simp) _).setCell (by simp) (by simp) _) (.inr (Nat.le_refl _))).mono (by omega) (by simpa [World.setCell] using S4.out)
end Go.Proofs.Ytjijgagdaolkcaa
/- The model's SplitCone. -/
namespace Go.Proofs.Ytjijgagdaolkcaa
open Go Go.RowKit Go.Lib

theorem made_rws {w : World} {r r' : List (List Int)} {e : Ending} {w' : World} (h : r' = r) (g : MadeR w r e w') : MadeR w r' e w' := by subst h; exact g
set_option maxRecDepth 100000 in
set_option maxHeartbeats 3200000 in
theorem s_split (c : Cn) (v : Value) (w : World) (hv : Cv w v c) :
    Calls Try.prog 19 #[v] w (MadeR w (splitR c)) := by
  have HC := Lib.hid hv
  obtain ⟨u, t, rfl, hs, ht⟩ := hv
  have HS := Lib.hid hs
  have HT := Lib.hid ht
  clear hs ht
  go_enter Try.func19, Try.ntmps19
  have K := Lib.hid (Bk.new w #[u, t] 26)
  have B0 := Lib.hid (below1 w (.cells #[u, t] 26))
  have Z0 := Lib.hid (show (w.alloc (.cells #[u, t] 26)).heap.size = w.heap.size + 1 by simp)
  obtain ⟨w0, hw0⟩ : ∃ w0, w.alloc (.cells #[u, t] 26) = w0 := ⟨_, rfl⟩
  rw [hw0] at K B0 Z0
  have BE := below1 w0 (.cells #[] 24)
  have OE := Lib.hid (owr_empty (T := 24) (e := 3) (w := w0) (base := w0.heap.size) (Nat.le_refl _))
  have KE := Lib.hid (K.out.below BE)
  have B1 := Lib.hid BE
  obtain ⟨⟨l0, l1⟩, -⟩ := KE.out.two
  clear BE
  go_wp2_with fail
  refine (s_cone c _ _ ((HC.out.below B0.out).below B1.out)).mono ?_
  rintro e w1 ⟨rfl, hb⟩
  have K1 := Lib.hid (KE.out.below hb)
  have OE1 := Lib.hid (OE.out.below hb)
  have B2 := Lib.hid (B1.out.trans (hb.mono B1.out.size))
  have Z1 := Lib.hid hb.size
  clear hb l0 l1 hw0
  cases h1 : coneR c
  · have E := Lib.hid (show splitR c = [] by unfold splitR; rw [h1]; rfl)
    clear h1
    go_wp2_with fail
    go_ret
    exact made_rws E.out ⟨⟨_, rfl, OE1.out.mono (by have := Z0.out; omega) Z1.out⟩, B0.out.trans (B2.out.mono B0.out.size)⟩
  have RR := Lib.hid (coneR_t h1)
  have R1 := Lib.hid (rayR_t RR.out.1)
  have R2 := Lib.hid (rayR_t RR.out.2.1)
  have E := Lib.hid (show splitR c = (raysL (ptOf c.1) (ptOf c.2)).map rowOf by unfold splitR; rw [h1]; rfl)
  have HL := Lib.hid (raysL_len RR.out.2.2.2)
  have TW := Lib.hid RR.out.2.2.2
  obtain ⟨U, hU⟩ : ∃ U, ptOf c.1 = U := ⟨_, rfl⟩
  obtain ⟨V, hV⟩ : ∃ V, ptOf c.2 = V := ⟨_, rfl⟩
  rw [hU, hV] at E HL TW
  have SU := Lib.hid (show Sl w u (intVals (rowOf U)) by rw [← hU, R1.out.2.2.2.2]; exact HS.out)
  have SV := Lib.hid (show Sl w t (intVals (rowOf V)) by rw [← hV, R2.out.2.2.2.2]; exact HT.out)
  obtain ⟨ub, uo, uc, rfl, _, _, _, _⟩ := row_cells SU.out
  obtain ⟨all, hall⟩ : ∃ l, raysL U V = l := ⟨_, rfl⟩
  rw [hall] at E HL
  have HALL := Lib.hid hall
  have bL := HL.out
  clear h1 hU hV hall R1 R2 RR HS HT HC
  obtain ⟨⟨l0, l1⟩, -⟩ := K1.out.two
  have kl := K1.out.lt
  have BA := Lib.hid (below1 w1 (.cells #[] 3))
  have SU1 := Lib.hid ((SU.out.below (B0.out.trans (B2.out.mono B0.out.size))).below BA.out)
  have SC := Lib.hid SU1.out.addr.2
  go_wp2_with (at_builtin; go_must (refine list_app_sl rfl _ _ rfl w1.heap.size (.slice (some ⟨w1.heap.size, 0, none⟩) 0 0) 0 [] (rowOf U) rfl (owns_none (Nat.le_refl _)) ⟨ub, uo, none⟩ 2 uc rfl (by simp [rowOf]) SC.out (by omega) (by simp) ?_; intro v5 w5 hown5 hbel5; obtain ⟨g5, c5, rfl, hg1, hg2⟩ := hown5.form (by omega)))
  have HX := Lib.hid (show OwnV 3 w1.heap.size w5.heap.size w5 (.slice (some ⟨g5, 0, none⟩) (0 + 2) c5) (intVals (rowOf U)) from OwnV.of_owns hown5)
  have hb5 : Below w1.heap.size w1 w5 := BA.out.trans hbel5
  have OE5 := Lib.hid (OE1.out.below hb5)
  have B5 := Lib.hid (B2.out.trans (hb5.mono B2.out.size))
  have Z5 := Lib.hid hb5.size
  have hZ1 := Z1.out
  have hB2 := B2.out.size
  clear hown5 hbel5 hb5 l0 l1 BA SU1 SC
  go_loopw [3, 4] (fun s x wr => ∃ (done : List P2) (p : P2) (m : Nat), done ++ raysL p V = all ∧ Two p V ∧ OwR 24 3 w0.heap.size m wr s (done.map rowOf) ∧ OwnV 3 m wr.heap.size wr x (intVals (rowOf p)) ∧ w0.heap.size ≤ m ∧ m ≤ wr.heap.size ∧ Below w0.heap.size w0 wr) (fun s _ _ => all.length + 1 - slen s)
  case atStart => exact ⟨[], U, w1.heap.size, HALL.out, TW.out, OE5.out.mono (Nat.le_refl _) Z1.out, HX.out, by omega, Z5.out, B5.out⟩
  case round =>
    obtain ⟨done, p, m, hal, htw, ho, hx, hm1, hm2, hbr⟩ := hrel
    have HO := Lib.hid ho
    have HX := Lib.hid hx
    have HB := Lib.hid hbr
    have HT := Lib.hid htw
    have HAL := Lib.hid hal
    obtain ⟨sa, sc, rfl, _, _⟩ := ho.rw.shape
    obtain ⟨xb, xc, rfl, _, _⟩ := hx.form (by simp [intVals, rowOf])
    rw [show (intVals (rowOf p)).length = 2 from rfl] at HX ⊢
    rw [List.length_map] at HO ⊢
    have KR := Lib.hid (K.out.since hbr K.out.lt)
    obtain ⟨⟨l0, l1⟩, -⟩ := KR.out.two
    have SVr := Lib.hid (SV.out.below (B0.out.trans (hbr.mono B0.out.size)))
    have hlen : (done.map rowOf).length ≤ 1099511627776 := by
      have h := congrArg List.length hal
      rw [List.length_append] at h
      rw [List.length_map]; omega
    have LN := Lib.hid (show done.length + 1 ≤ all.length by
      have h := congrArg List.length hal
      rw [List.length_append] at h
      have := raysF_pos (v := V) (crP p V).toNat p
      have : 0 < (raysL p V).length := this
      omega)
    clear ho hx hbr htw hal
    obtain ⟨q, hq⟩ : ∃ q, crP p V = q := ⟨_, rfl⟩
    have HQ := Lib.hid hq
    clear hq
    go_wp2_with fail
    refine (s_cross p V HT.out.1.wide HT.out.2.1.wide _ _ _ HX.out.sl SVr.out).mono ?_
    rintro e w6 ⟨rfl, hb6⟩
    rw [show p.1 * V.2 - p.2 * V.1 = q from HQ.out]
    have HO6 := Lib.hid (HO.out.below hb6)
    have HX6 := Lib.hid ((HX.out.below hb6).mono (Nat.le_refl _) hb6.size)
    have HB6 := Lib.hid (HB.out.trans (hb6.mono HB.out.size))
    have hm6 : m ≤ w6.heap.size := Nat.le_trans hm2 hb6.size
    clear hb6 l0 l1
    by_cases hd : 0 < q
    · go_wp2_with (at_builtin; go_must (refine list_app_row2 rfl _ _ rfl w0.heap.size m (.slice sa done.length sc) (.slice (some ⟨xb, 0, none⟩) 2 xc) (done.map rowOf) (rowOf p) rfl (HO6.out.below (below1 _ _)) ((HX6.out.below (below1 _ _)).mono (Nat.le_refl _) (by simp)) w6.heap.size rfl (heap_alloc_new w6 _) hlen hm1 (by simp; omega) ?_; intro g8 c8 w8 ho8 hb8 _ hg8; have B8 := (HB6.out.trans ((below1 w6 (.cells #[.slice (some ⟨xb, 0, none⟩) 2 xc] 24)).mono HB6.out.size)).trans hb8; have K8 := K.out.since B8 K.out.lt; obtain ⟨⟨d0, d1⟩, -⟩ := K8.two))
      have HO8 := Lib.hid ho8
      have HB8 := Lib.hid B8
      have K8' := Lib.hid K8
      have HX8 := Lib.hid ((HX6.out.below (below1 w6 (.cells #[.slice (some ⟨xb, 0, none⟩) 2 xc] 24))).grown hg8 (fun b hb e => by
        obtain ⟨vs, k1, k2, -⟩ := HO6.out
        have h1 := (HX6.out.place hb).1
        have h2 := (k2.place e.symm).2.1
        omega))
      have SV8 := Lib.hid (SV.out.below (B0.out.trans (B8.mono B0.out.size)))
      have hm8 := hg8.size
      rw [World.size_alloc] at hm8
      clear ho8 hb8 hg8 B8 K8
      refine (s_next p V HT.out (by rw [HQ.out]; exact hd) _ _ _ HX8.out.sl SV8.out).mono ?_
      rintro e w9 ⟨⟨y, rfl, hy⟩, hb9⟩
      obtain ⟨yb, yc, rfl, _, _⟩ := hy.form (by simp [intVals, rowOf])
      have HY := Lib.hid hy
      rw [show (intVals (rowOf (nxP p V))).length = 2 from rfl] at HY ⊢
      have HO9 := Lib.hid (HO8.out.below hb9)
      have HB9 := Lib.hid (HB8.out.trans (hb9.mono HB8.out.size))
      have hs9 := hb9.size
      have ST := Lib.hid (raysL_step HT.out (by rw [HQ.out]; exact hd))
      have T9 := Lib.hid (HT.out.next (by rw [HQ.out]; exact hd)).2
      clear hy hb9 d0 d1
      go_wp2
      refine ⟨⟨done ++ [p], nxP p V, w8.heap.size, by rw [List.append_assoc, ← HAL.out, ST.out]; rfl, T9.out, by have h := HO9.out; rw [List.length_map] at h; rw [List.map_append]; exact h, HY.out, HB8.out.size, hs9, HB9.out⟩, ?_⟩
      have := LN.out
      simp only [slen]
      omega
    · have PV := Lib.hid (HT.out.ne.2 (by rw [HQ.out]; exact hd))
      go_wp2_with (at_builtin; go_must (refine list_app_row2 rfl _ _ rfl w0.heap.size m (.slice sa done.length sc) (.slice (some ⟨xb, 0, none⟩) 2 xc) (done.map rowOf) (rowOf p) rfl (HO6.out.below (below1 _ _)) ((HX6.out.below (below1 _ _)).mono (Nat.le_refl _) (by simp)) w6.heap.size rfl (heap_alloc_new w6 _) hlen hm1 (by simp; omega) ?_; intro g8 c8 w8 ho8 hb8 _ hg8; have B8 := (HB6.out.trans ((below1 w6 (.cells #[.slice (some ⟨xb, 0, none⟩) 2 xc] 24)).mono HB6.out.size)).trans hb8))
      have HO8 := Lib.hid ho8
      have HB8 := Lib.hid B8
      clear ho8 hb8 hg8 B8
      go_ret
      have hf := HO8.out.mono B0.out.size (Nat.le_refl _)
      rw [List.length_map] at hf
      refine made_rws ?_ ⟨⟨_, rfl, hf⟩, B0.out.trans (HB8.out.mono B0.out.size)⟩
      rw [E.out, ← HAL.out, raysL_end (by rw [HQ.out]; omega), ← PV.out, List.map_append]; rfl
end Go.Proofs.Ytjijgagdaolkcaa
/- The program's next vector. -/
namespace Go.Proofs.Ytjijgagdaolkcaa
open Go Go.RowKit Go.Lib

/-- How far the sum in block S is from the one that is sought. -/
def farS (S : Nat) (v : P2) (K : Int) (w : World) : Nat := match w.cell? ⟨S, 0, none⟩, w.cell? ⟨S, 1, none⟩ with
  | some (.int _ x), some (.int _ y) => (K - crP (x, y) v).toNat
  | _, _ => 0
theorem farS_eq {S : Nat} {v : P2} {K x y z : Int} {w : World} {T : TypeId} (h : Bk w S #[.int .i64 x, .int .i64 y, .int .i64 z] T) : farS S v K w = (K - crP (x, y) v).toNat := by
  unfold farS
  rw [h.cell 0 (v := .int .i64 x) rfl, h.cell 1 (v := .int .i64 y) rfl]
set_option maxRecDepth 100000 in
set_option maxHeartbeats 1600000 in
theorem i_after (u v : P2) (hT : Two u v) (hd : 0 < crP u v) (w : World) :
    Calls Try.prog 123 #[ptV u, ptV v] w (Quiet w (ptV (nxP u v))) := by
  have CP := Lib.hid (fun W => i_pdet u v hT.1.bd4 hT.2.1.bd4 W)
  have HIT := Lib.hid (seek_hit hT hd)
  have NX := Lib.hid (hT.next hd).1
  have HU := Lib.hid hT.1
  have HV := Lib.hid hT.2.1
  have bd := cr_bd hT.1 hT.2.1
  obtain ⟨d, ed⟩ : ∃ d, crP u v = d := ⟨_, rfl⟩
  have ED := Lib.hid ed
  obtain ⟨K, eK⟩ : ∃ K, crP (nxP u v) v = K := ⟨_, rfl⟩
  have EK := Lib.hid eK
  have hK0 : 0 ≤ K := by rw [← eK]; exact NX.out.2.1
  have hKd : K < d := by rw [← eK, ← ed]; exact NX.out.2.2
  rw [show u.1 * v.2 - u.2 * v.1 = d from ed] at CP
  rw [eK, ed] at HIT
  rw [ed] at hd bd
  have hp0 : ¬ d = 0 := by omega
  have hp1 : d ≠ -1 := by omega
  have hp2 : (d == -1) = false := by rw [beq_eq_false_iff_ne]; omega
  have hp3 : (d == 0) = false := by rw [beq_eq_false_iff_ne]; omega
  have KK := Lib.hid (Bk.three w #[.int .i64 u.1, .int .i64 u.2, .int .i64 0] #[.int .i64 v.1, .int .i64 v.2, .int .i64 0] #[.int .i64 0, .int .i64 0, .int .i64 0] 85 85 85)
  have B0 := Lib.hid (below3 w (.cells #[.int .i64 u.1, .int .i64 u.2, .int .i64 0] 85) (.cells #[.int .i64 v.1, .int .i64 v.2, .int .i64 0] 85) (.cells #[.int .i64 0, .int .i64 0, .int .i64 0] 85))
  obtain ⟨a0, a1, a2⟩ := bk3c KK.out.1
  obtain ⟨b0, b1, b2⟩ := bk3c KK.out.2.1
  clear hT ed eK
  unfold ptV
  go_enter Try.func123, Try.ntmps123
  go_wp2_with fail
  refine (CP.out _).mono ?_
  rintro e w1 ⟨rfl, hb⟩
  have K1 := Lib.hid (KK.out.1.below hb)
  have K2 := Lib.hid (KK.out.2.1.below hb)
  have K3 := Lib.hid (KK.out.2.2.below hb)
  have B1 := Lib.hid (B0.out.trans (hb.mono B0.out.size))
  have S1 := Lib.hid hb.size
  clear hb a0 a1 a2 b0 b1 b2
  obtain ⟨b0, b1, b2⟩ := bk3c K2.out
  have K4 := Lib.hid (Bk.new w1 #[.int .i64 v.1, .int .i64 v.2, .int .i64 0] 85)
  have hb2 := below1 w1 (.cells #[.int .i64 v.1, .int .i64 v.2, .int .i64 0] 85)
  have M1 := Lib.hid (K1.out.below hb2)
  have M2 := Lib.hid (K2.out.below hb2)
  have M3 := Lib.hid (K3.out.below hb2)
  have B2 := Lib.hid (B1.out.trans (hb2.mono B1.out.size))
  have S2 := Lib.hid hb2.size
  clear hb2
  go_wp2_with fail
  go_loopw [] (fun wr => ∃ k : Int, 0 ≤ k ∧ k ≤ K ∧ Bk wr w1.heap.size #[.int .i64 (v.1 + k * u.1), .int .i64 (v.2 + k * u.2), .int .i64 0] 85 ∧ Bk wr w.heap.size #[.int .i64 u.1, .int .i64 u.2, .int .i64 0] 85 ∧ Bk wr (w.heap.size + 1 + 1) #[.int .i64 0, .int .i64 0, .int .i64 0] 85 ∧ Below w.heap.size w wr) (fun wr => farS w1.heap.size v (K * d) wr)
  case atStart => exact ⟨0, Int.le_refl _, hK0, by simpa using K4.out, M1.out, M3.out, B2.out⟩
  case round =>
    obtain ⟨k, hk0, hkK, hS, hA, hR, hB⟩ := hrel
    have HS := Lib.hid hS
    have HA := Lib.hid hA
    have HR := Lib.hid hR
    have HB := Lib.hid hB
    obtain ⟨s0, s1, s2⟩ := bk3c hS
    have bx := seek_bd HV.out.1 HU.out.1 hk0 (by omega)
    have by' := seek_bd HV.out.2 HU.out.2 hk0 (by omega)
    have STEP := Lib.hid (fun W => i_addtP (v.1 + k * u.1) (v.2 + k * u.2) 0 1 u.1 u.2 0 W (by omega) (by omega) (by omega) (by have := HU.out.1; omega) (by have := HU.out.2; omega) (by omega))
    have FAR := Lib.hid (farS_eq (v := v) (K := K * d) hS)
    have FC := Lib.hid (seek_cr u v k)
    have END := Lib.hid (fun hx hy => seek_end ED.out hd hk0 (by omega) hx hy)
    have HITk := Lib.hid (show k = K → (v.1 + k * u.1).tmod d = 0 ∧ (v.2 + k * u.2).tmod d = 0 from fun h => by rw [h]; exact HIT.out)
    have NS := Lib.hid (And.intro (seek_step v.1 u.1 k) (seek_step v.2 u.2 k))
    rw [NS.out.1, NS.out.2] at STEP
    obtain ⟨x, hx⟩ : ∃ x, v.1 + k * u.1 = x := ⟨_, rfl⟩
    obtain ⟨y, hy⟩ : ∃ y, v.2 + k * u.2 = y := ⟨_, rfl⟩
    rw [hx] at s0 bx STEP FAR FC END HITk HS
    rw [hy] at s1 by' STEP FAR FC END HITk HS
    have q1 := Int.natAbs_tdiv_le_natAbs x d
    have q2 := Int.natAbs_tdiv_le_natAbs y d
    have w1' : IntKind.i64.wrap (x.tdiv d) = x.tdiv d := IntWalk.i64_in _ (by generalize x.tdiv d = t at q1; omega)
    have w2' : IntKind.i64.wrap (y.tdiv d) = y.tdiv d := IntWalk.i64_in _ (by generalize y.tdiv d = t at q2; omega)
    clear hS hA hR hB hx hy q1 q2
    by_cases hc : x.tmod d = 0 ∧ y.tmod d = 0
    · obtain ⟨c1, c2⟩ := hc
      have RES := Lib.hid (END.out c1 c2)
      go_wp2_with fail
      have SB := Lib.hid (show Bk wr.drew w1.heap.size #[.int .i64 x, .int .i64 y, .int .i64 0] 85 from HS.out)
      obtain ⟨t0, t1, t2⟩ := bk3c SB.out
      obtain ⟨r0, r1, r2⟩ := bk3c HR.out
      have f0 := HR.out.free 0
      have f1 := HR.out.free 1
      have f2 := HR.out.free 2
      refine T_begin (z := fun k => 8 < k) (S := fun (w' : World) => w' = wr.drew) (by kernel_rfl) ?_
      show wpAnyT _ _ _ _ _ _ 10 _ _ _
      have hS0 := Lib.hid (show (fun (w' : World) => w' = wr.drew) (wr.drew) from rfl)
      refine T_take (i := 0) (v := .pointer (some ⟨w1.heap.size, 0, none⟩)) rfl (by kernel_rfl) (by kernel_rfl) (by kernel_rfl) (by kernel_rfl) (fun _ _ _ h => h) hS0.out (by kernel_rfl) (fun w' hS' => by subst hS'; go_simp) ?_
      refine T_take (i := 1) (v := .int .i64 x) rfl (by kernel_rfl) (by kernel_rfl) (by kernel_rfl) (by kernel_rfl) (fun _ _ _ h => h) hS0.out (by kernel_rfl) (fun w' hS' => by subst hS'; go_simp) ?_
      refine T_take (i := 2) (v := .int .i64 d) rfl (by kernel_rfl) (by kernel_rfl) (by kernel_rfl) (by kernel_rfl) (fun _ _ _ h => h) hS0.out (by kernel_rfl) (fun w' hS' => by subst hS'; go_simp) ?_
      refine T_take (i := 3) (v := .int .i64 (x.tdiv d)) rfl (by kernel_rfl) (by kernel_rfl) (by kernel_rfl) (by kernel_rfl) (fun _ _ _ h => h) hS0.out (by kernel_rfl) (fun w' hS' => by subst hS'; go_simp) ?_
      refine T_take (i := 4) (v := .pointer (some ⟨w1.heap.size, 1, none⟩)) rfl (by kernel_rfl) (by kernel_rfl) (by kernel_rfl) (by kernel_rfl) (fun _ _ _ h => h) hS0.out (by kernel_rfl) (fun w' hS' => by subst hS'; go_simp) ?_
      refine T_take (i := 5) (v := .int .i64 y) rfl (by kernel_rfl) (by kernel_rfl) (by kernel_rfl) (by kernel_rfl) (fun _ _ _ h => h) hS0.out (by kernel_rfl) (fun w' hS' => by subst hS'; go_simp) ?_
      refine T_take (i := 6) (v := .int .i64 d) rfl (by kernel_rfl) (by kernel_rfl) (by kernel_rfl) (by kernel_rfl) (fun _ _ _ h => h) hS0.out (by kernel_rfl) (fun w' hS' => by subst hS'; go_simp) ?_
      refine T_take (i := 7) (v := .int .i64 (y.tdiv d)) rfl (by kernel_rfl) (by kernel_rfl) (by kernel_rfl) (by kernel_rfl) (fun _ _ _ h => h) hS0.out (by kernel_rfl) (fun w' hS' => by subst hS'; go_simp) ?_
      refine T_take (i := 8) (v := .agg #[.int .i64 (x.tdiv d), .int .i64 (y.tdiv d), .int .i64 0]) rfl (by kernel_rfl) (by kernel_rfl) (by kernel_rfl) (by kernel_rfl) (fun _ _ _ h => h) hS0.out (by kernel_rfl) (fun w' hS' => by subst hS'; go_simp) ?_
      refine T_last (i := 9) rfl (by kernel_rfl) (by kernel_rfl) rfl (by kernel_rfl) ?_
      go_simp
      go_wp2
      refine bodyPost_ret (v := .agg #[.int .i64 (x.tdiv d), .int .i64 (y.tdiv d), .int .i64 0]) ?_ rfl ⟨by rw [RES.out], ?_⟩
      · simp [results, Try.results123, go_sem, r0, r1, r2]
      · exact ((HB.out.drew.setCell (by simp; omega) _).setCell (by simp; omega) _).setCell (by simp; omega) _
    · have hlt : k < K := by
        apply Classical.byContradiction
        intro hn
        exact hc (HITk.out (by omega))
      obtain ⟨a0, a1, a2⟩ := bk3c HA.out
      by_cases c1 : x.tmod d = 0
      · have c2 : ¬ y.tmod d = 0 := fun h => hc ⟨c1, h⟩
        clear hc
        go_wp2_with fail
        refine (STEP.out _).mono ?_
        rintro e w3 ⟨rfl, hb3⟩
        have Q1 := Lib.hid (HS.out.below hb3)
        have Q2 := Lib.hid (HA.out.below hb3)
        have Q3 := Lib.hid (HR.out.below hb3)
        have Q4 := Lib.hid (HB.out.trans (hb3.mono HB.out.size))
        obtain ⟨g0, g1, g2⟩ := bk3c Q1.out
        have f0 := Q1.out.free 0
        have f1 := Q1.out.free 1
        have f2 := Q1.out.free 2
        clear hb3 s0 s1 s2 a0 a1 a2
        have N1 := Lib.hid (((Q1.out.set 0 (.int .i64 (v.1 + (k + 1) * u.1)) (by simp)).set 1 (.int .i64 (v.2 + (k + 1) * u.2)) (by simp)).set 2 (.int .i64 (0 + 1 * 0)) (by simp))
        go_wp2
        have N2 := Lib.hid (show Bk (((w3.setCell ⟨w1.heap.size, 0, none⟩ (.int .i64 (v.1 + (k + 1) * u.1))).setCell ⟨w1.heap.size, 1, none⟩ (.int .i64 (v.2 + (k + 1) * u.2))).setCell ⟨w1.heap.size, 2, none⟩ (.int .i64 0)) w1.heap.size #[.int .i64 (v.1 + (k + 1) * u.1), .int .i64 (v.2 + (k + 1) * u.2), .int .i64 0] 85 from N1.out)
        have m1 := Int.mul_le_mul_of_nonneg_right (show k + 1 ≤ K by omega) (show 0 ≤ d by omega)
        have m2 := Int.add_mul k 1 d
        have sz : w.heap.size + 1 + 1 < w1.heap.size := by have := S1.out; simp at this; omega
        refine ⟨⟨k + 1, by omega, by omega, N2.out, ((Q2.out.other (by simp; omega) _).other (by simp; omega) _).other (by simp; omega) _, ((Q3.out.other (by simp; omega) _).other (by simp; omega) _).other (by simp; omega) _, ((Q4.out.setCell (by simp; omega) _).setCell (by simp; omega) _).setCell (by simp; omega) _⟩, ?_⟩
        rw [FAR.out, farS_eq N2.out, seek_cr u v (k + 1), FC.out, ED.out]
        omega
      · clear hc
        go_wp2_with fail
        refine (STEP.out _).mono ?_
        rintro e w3 ⟨rfl, hb3⟩
        have Q1 := Lib.hid (HS.out.below hb3)
        have Q2 := Lib.hid (HA.out.below hb3)
        have Q3 := Lib.hid (HR.out.below hb3)
        have Q4 := Lib.hid (HB.out.trans (hb3.mono HB.out.size))
        obtain ⟨g0, g1, g2⟩ := bk3c Q1.out
        have f0 := Q1.out.free 0
        have f1 := Q1.out.free 1
        have f2 := Q1.out.free 2
        clear hb3 s0 s1 s2 a0 a1 a2
        have N1 := Lib.hid (((Q1.out.set 0 (.int .i64 (v.1 + (k + 1) * u.1)) (by simp)).set 1 (.int .i64 (v.2 + (k + 1) * u.2)) (by simp)).set 2 (.int .i64 (0 + 1 * 0)) (by simp))
        go_wp2
        have N2 := Lib.hid (show Bk (((w3.setCell ⟨w1.heap.size, 0, none⟩ (.int .i64 (v.1 + (k + 1) * u.1))).setCell ⟨w1.heap.size, 1, none⟩ (.int .i64 (v.2 + (k + 1) * u.2))).setCell ⟨w1.heap.size, 2, none⟩ (.int .i64 0)) w1.heap.size #[.int .i64 (v.1 + (k + 1) * u.1), .int .i64 (v.2 + (k + 1) * u.2), .int .i64 0] 85 from N1.out)
        have m1 := Int.mul_le_mul_of_nonneg_right (show k + 1 ≤ K by omega) (show 0 ≤ d by omega)
        have m2 := Int.add_mul k 1 d
        have sz : w.heap.size + 1 + 1 < w1.heap.size := by have := S1.out; simp at this; omega
        refine ⟨⟨k + 1, by omega, by omega, N2.out, ((Q2.out.other (by simp; omega) _).other (by simp; omega) _).other (by simp; omega) _, ((Q3.out.other (by simp; omega) _).other (by simp; omega) _).other (by simp; omega) _, ((Q4.out.setCell (by simp; omega) _).setCell (by simp; omega) _).setCell (by simp; omega) _⟩, ?_⟩
        rw [FAR.out, farS_eq N2.out, seek_cr u v (k + 1), FC.out, ED.out]
        omega
end Go.Proofs.Ytjijgagdaolkcaa
/- The program's rays: a linked list. -/
namespace Go.Proofs.Ytjijgagdaolkcaa
open Go Go.RowKit Go.Lib

/-- A pointer to the first of a list of rays. -/
def RayL (w : World) : Value → List P2 → Prop
  | v, [] => v = .pointer none
  | v, p :: r => ∃ (b : Nat) (nx : Value), v = .pointer (some ⟨b, 0, none⟩) ∧ Bk w b #[.int .i64 p.1, .int .i64 p.2, .int .i64 0, nx] 87 ∧ RayL w nx r
theorem RayL.below {w w' : World} (hb : Below w.heap.size w w') : ∀ {l : List P2} {v : Value}, RayL w v l → RayL w' v l
  | [], _, h => h
  | _ :: _, _, ⟨b, nx, e, k, r⟩ => ⟨b, nx, e, k.below hb, r.below hb⟩
theorem RayL.ptr {w : World} : ∀ {l : List P2} {v : Value}, RayL w v l → ∃ q, v = .pointer q
  | [], _, h => ⟨_, h⟩
  | _ :: _, _, ⟨_, _, e, _⟩ => ⟨_, e⟩
/-- What a function that makes a list of rays leaves. -/
def MadeL (w : World) (l : List P2) (e : Ending) (w' : World) : Prop := (∃ p, e = .returned p ∧ RayL w' p l) ∧ Below w.heap.size w w'
set_option maxRecDepth 100000 in
set_option maxHeartbeats 1600000 in
theorem i_raysfrom0 (u v : P2) (w : World) (hT : Two u v) (hn : ¬ 0 < crP u v) :
    Calls Try.prog 106 #[ptV u, ptV v] w (MadeL w (raysL u v)) := by
  obtain rfl : u = v := hT.ne.2 hn
  rw [raysL_end hn]
  have K := Lib.hid (Bk.pair w #[.int .i64 u.1, .int .i64 u.2, .int .i64 0] #[.int .i64 u.1, .int .i64 u.2, .int .i64 0] 85 85)
  have B0 := Lib.hid (below2 w (.cells #[.int .i64 u.1, .int .i64 u.2, .int .i64 0] 85) (.cells #[.int .i64 u.1, .int .i64 u.2, .int .i64 0] 85))
  obtain ⟨a0, a1, a2⟩ := bk3c K.out.1
  obtain ⟨b0, b1, b2⟩ := bk3c K.out.2
  have EQ := eq_arr_t (x := u.1) (y := u.2) (z := 0) (x' := u.1) (y' := u.2) (z' := 0) ⟨rfl, rfl, rfl⟩
  unfold ptV
  go_enter Try.func106, Try.ntmps106
  go_wp2_with fail
  go_ret
  refine ⟨⟨_, rfl, w.heap.size + 1 + 1, .pointer none, rfl, ?_, rfl⟩, ?_⟩
  · exact Bk.newAt (by simp) _ _
  · exact B0.out.alloc (by simp; omega) _
set_option maxRecDepth 100000 in
set_option maxHeartbeats 1600000 in
theorem i_raysfrom (v : P2) : ∀ (n : Nat) (u : P2) (w : World), Two u v → (crP u v).toNat ≤ n →
    Calls Try.prog 106 #[ptV u, ptV v] w (MadeL w (raysL u v)) := by
  intro n
  induction n with
  | zero => exact fun u w hT hn => i_raysfrom0 u v w hT (by omega)
  | succ n ih =>
    intro u w hT hn
    by_cases hd : 0 < crP u v
    case neg => exact i_raysfrom0 u v w hT hd
    have EQ := eq_arr_f (x := u.1) (y := u.2) (z := 0) (x' := v.1) (y' := v.2) (z' := 0) (fun e => hT.ne.1 (Prod.ext e.1 e.2.1) hd)
    obtain ⟨k1, k2⟩ := hT.next hd
    have hne : ¬ u = v := fun e => hT.ne.1 e hd
    rw [raysL_step hT hd]
    have IH := Lib.hid (fun W => ih (nxP u v) W k2 (by have := k1.2.1; have := k1.2.2; omega))
    have CA := Lib.hid (fun W => i_after u v hT hd W)
    have K := Lib.hid (Bk.pair w #[.int .i64 u.1, .int .i64 u.2, .int .i64 0] #[.int .i64 v.1, .int .i64 v.2, .int .i64 0] 85 85)
    have B0 := Lib.hid (below2 w (.cells #[.int .i64 u.1, .int .i64 u.2, .int .i64 0] 85) (.cells #[.int .i64 v.1, .int .i64 v.2, .int .i64 0] 85))
    obtain ⟨a0, a1, a2⟩ := bk3c K.out.1
    obtain ⟨b0, b1, b2⟩ := bk3c K.out.2
    clear ih k1 k2 hT hn
    unfold ptV at *
    go_enter Try.func106, Try.ntmps106
    go_wp2_with fail
    refine T_begin (z := fun k => 7 < k) (S := fun (w' : World) => Bk w' w.heap.size #[.int .i64 u.1, .int .i64 u.2, .int .i64 0] 85 ∧ Bk w' (w.heap.size + 1) #[.int .i64 v.1, .int .i64 v.2, .int .i64 0] 85 ∧ Below w.heap.size w w') (by kernel_rfl) ?_
    show wpAnyT _ _ _ _ _ _ 9 _ _ _
    have hS0 := Lib.hid (show (fun (w' : World) => Bk w' w.heap.size #[.int .i64 u.1, .int .i64 u.2, .int .i64 0] 85 ∧ Bk w' (w.heap.size + 1) #[.int .i64 v.1, .int .i64 v.2, .int .i64 0] 85 ∧ Below w.heap.size w w') (((w.alloc (.cells #[.int .i64 u.1, .int .i64 u.2, .int .i64 0] 85)).alloc (.cells #[.int .i64 v.1, .int .i64 v.2, .int .i64 0] 85)).drew) from ⟨K.out.1, K.out.2, B0.out.drew⟩)
    refine T_take (i := 0) (v := .agg #[.int .i64 u.1, .int .i64 u.2, .int .i64 0]) rfl (by kernel_rfl) (by kernel_rfl) (by kernel_rfl) (by kernel_rfl) (fun _ _ _ h => h) hS0.out (by kernel_rfl) (fun w' hS' => by (try obtain ⟨h0, h1, h2⟩ := bk3c hS'.1); (try obtain ⟨g0, g1, g2⟩ := bk3c hS'.2.1); go_simp) ?_
    refine T_take (i := 1) (v := .agg #[.int .i64 u.1, .int .i64 u.2, .int .i64 0]) rfl (by kernel_rfl) (by kernel_rfl) (by kernel_rfl) (by kernel_rfl) (fun _ _ _ h => h) hS0.out (by kernel_rfl) (fun w' hS' => by (try obtain ⟨h0, h1, h2⟩ := bk3c hS'.1); (try obtain ⟨g0, g1, g2⟩ := bk3c hS'.2.1); go_simp) ?_
    refine T_take (i := 2) (v := .agg #[.int .i64 v.1, .int .i64 v.2, .int .i64 0]) rfl (by kernel_rfl) (by kernel_rfl) (by kernel_rfl) (by kernel_rfl) (fun _ _ _ h => h) hS0.out (by kernel_rfl) (fun w' hS' => by (try obtain ⟨h0, h1, h2⟩ := bk3c hS'.1); (try obtain ⟨g0, g1, g2⟩ := bk3c hS'.2.1); go_simp) ?_
    refine T_take (i := 4) (v := .agg #[.int .i64 v.1, .int .i64 v.2, .int .i64 0]) rfl (by kernel_rfl) (by kernel_rfl) (by kernel_rfl) (by kernel_rfl) (fun _ _ _ h => h) hS0.out (by kernel_rfl) (fun w' hS' => by (try obtain ⟨h0, h1, h2⟩ := bk3c hS'.1); (try obtain ⟨g0, g1, g2⟩ := bk3c hS'.2.1); go_simp) ?_
    refine T_step (i := 3) rfl (by kernel_rfl) rfl (by kernel_rfl) ?_
    intro K hK
    go_simp
    refine (CA.out _).mono ?_
    rintro e' wT1 ⟨rfl, hb1⟩
    have hS1 := Lib.hid (show (fun (w' : World) => Bk w' w.heap.size #[.int .i64 u.1, .int .i64 u.2, .int .i64 0] 85 ∧ Bk w' (w.heap.size + 1) #[.int .i64 v.1, .int .i64 v.2, .int .i64 0] 85 ∧ Below w.heap.size w w') wT1 from ⟨hS0.out.1.below hb1, hS0.out.2.1.below hb1, hS0.out.2.2.trans (hb1.mono hS0.out.2.2.size)⟩)
    refine hK.out _ _ hS1.out ?_
    clear hK K
    refine T_step (i := 5) rfl (by kernel_rfl) rfl (by kernel_rfl) ?_
    intro K hK
    go_simp
    refine (IH.out _).mono ?_
    rintro e' wT2 ⟨⟨pp, rfl, hrl⟩, hb2⟩
    obtain ⟨pq, rfl⟩ := hrl.ptr
    have HRL := Lib.hid hrl
    clear hrl
    have hS2 := Lib.hid (show (fun (w' : World) => Bk w' w.heap.size #[.int .i64 u.1, .int .i64 u.2, .int .i64 0] 85 ∧ Bk w' (w.heap.size + 1) #[.int .i64 v.1, .int .i64 v.2, .int .i64 0] 85 ∧ Below w.heap.size w w') wT2 from ⟨hS1.out.1.below hb2, hS1.out.2.1.below hb2, hS1.out.2.2.trans (hb2.mono hS1.out.2.2.size)⟩)
    refine hK.out _ _ hS2.out ?_
    clear hK K
    refine T_take (i := 6) (v := .agg #[.int .i64 u.1, .int .i64 u.2, .int .i64 0, .pointer pq]) rfl (by kernel_rfl) (by kernel_rfl) (by kernel_rfl) (by kernel_rfl) (fun _ _ _ h => h) hS2.out (by kernel_rfl) (fun w' hS' => by (try obtain ⟨h0, h1, h2⟩ := bk3c hS'.1); (try obtain ⟨g0, g1, g2⟩ := bk3c hS'.2.1); go_simp) ?_
    refine T_step (i := 7) rfl (by kernel_rfl) rfl (by kernel_rfl) ?_
    intro K hK
    go_simp
    have hbx := below1 wT2 (.cells #[.int .i64 u.1, .int .i64 u.2, .int .i64 0, .pointer pq] 87)
    have hS3 := Lib.hid (show (fun (w' : World) => Bk w' w.heap.size #[.int .i64 u.1, .int .i64 u.2, .int .i64 0] 85 ∧ Bk w' (w.heap.size + 1) #[.int .i64 v.1, .int .i64 v.2, .int .i64 0] 85 ∧ Below w.heap.size w w') _ from ⟨hS2.out.1.below hbx, hS2.out.2.1.below hbx, hS2.out.2.2.trans (hbx.mono hS2.out.2.2.size)⟩)
    refine hK.out _ _ hS3.out ?_
    clear hK K
    refine T_last (i := 8) rfl (by kernel_rfl) (by kernel_rfl) rfl (by kernel_rfl) ?_
    go_simp
    have HB3 := Lib.hid hS3.out.2.2
    clear hS0 hS1 hS2 hS3
    go_wp2
    go_ret
    exact ⟨⟨_, rfl, wT2.heap.size, .pointer pq, rfl, Bk.new wT2 _ _, HRL.out.below hbx⟩, HB3.out⟩
end Go.Proofs.Ytjijgagdaolkcaa
