/- The model's terms: whether a difference is a sum of the vectors. -/
import Derived.Test.YtjijgagdaolkcaaMax
import Derived.Test.YtjijgagdaolkcaaMaw
import Derived.Test.YtjijgagdaolkcaaMav
import Derived.Test.YtjijgagdaolkcaaVecS
import Derived.Test.YtjijgagdaolkcaaVxR
import Derived.Test.YtjijgagdaolkcaaMaj
import Derived.Test.YtjijgagdaolkcaaVecK
import Derived.Test.YtjijgagdaolkcaaMeet
namespace Go.Proofs.Ytjijgagdaolkcaa
open Go Go.RowKit Go.Lib

theorem bit_of' (b : Bool) (w : World) : Calls Try.prog 67 #[.bool b] w fun e w' => e = .returned (.int .i64 (if b = true then 1 else 0)) ∧ w = w' := by
  cases b
  · go_enter Try.func67, Try.ntmps67
    go_wp2
    go_ret
    exact ⟨rfl, rfl⟩
  · go_enter Try.func67, Try.ntmps67
    go_wp2
    go_ret
    exact ⟨rfl, rfl⟩
/-- The rows of one or two vectors. -/
theorem rw_one {w : World} {v : Value} {g : List Int} (h : Rw w v [g]) : ∃ b off c u, v = .slice (some ⟨b, off, none⟩) 1 c ∧ b < w.heap.size ∧ w.cell? ⟨b, off, none⟩ = some u ∧ Sl w u (intVals g) := by
  obtain ⟨a, c, rfl, _, _⟩ := h.shape
  obtain ⟨b, off, u, rfl, hb, hc, hs⟩ := h.row 0 (by simp) rfl
  exact ⟨b, off, c, u, rfl, hb, by simpa using hc, hs⟩
theorem rw_two {w : World} {v : Value} {g h : List Int} (hv : Rw w v [g, h]) : ∃ b off c u y, v = .slice (some ⟨b, off, none⟩) 2 c ∧ b < w.heap.size ∧ w.cell? ⟨b, off, none⟩ = some u ∧ w.cell? ⟨b, off + 1, none⟩ = some y ∧ Sl w u (intVals g) ∧ Sl w y (intVals h) := by
  obtain ⟨a, c, rfl, _, _⟩ := hv.shape
  obtain ⟨b, off, u, rfl, hb, hc, hs⟩ := hv.row 0 (by simp) rfl
  obtain ⟨b', off', y, e, hb', hc', hs'⟩ := hv.row 1 (by simp) rfl
  simp only [Option.some.injEq, Addr.mk.injEq, and_true] at e
  obtain ⟨rfl, rfl⟩ := e
  exact ⟨b, off, c, u, y, rfl, hb, by simpa using hc, hc', hs, hs'⟩
theorem quo_bdT {n d m : Int} (h : -m ≤ n ∧ n ≤ m) : -m ≤ n.tdiv d ∧ n.tdiv d ≤ m := by
  have h1 := Int.natAbs_tdiv_le_natAbs n d
  generalize n.tdiv d = t at h1
  omega

set_option maxRecDepth 100000 in
set_option maxHeartbeats 800000 in
theorem s_hits0 (d : P2) (v b : Value) (w : World) (hv : Rw w v []) (hx : Sl w b (intVals (rowOf d))) :
    Calls Try.prog 92 #[v, b] w (Quiet w (.bool (hitsR [] d))) := by
  obtain ⟨a, c, rfl, _, _⟩ := hv.shape
  obtain ⟨b1, o1, c1, rfl, k1, l1, x1, y1⟩ := row_cells hx
  clear hv hx
  obtain ⟨p, q⟩ := d
  simp only at *
  unfold hitsR
  by_cases h1 : p = 0
  · by_cases h2 : q = 0
    · subst h1; subst h2
      go_enter Try.func92, Try.ntmps92
      go_wp2
      go_ret
      exact ⟨rfl, Below.refl _ _⟩
    · have E := Lib.hid (show decide ((p, q) = ((0, 0) : P2)) = false by rw [decide_eq_false_iff_not]; intro h; exact h2 (congrArg Prod.snd h))
      subst h1
      have hq : (q == 0) = false := by rw [beq_eq_false_iff_ne]; exact h2
      go_enter Try.func92, Try.ntmps92
      go_wp2
      go_ret
      exact ⟨ret_bool (by rw [E.out]), Below.refl _ _⟩
  · have E := Lib.hid (show decide ((p, q) = ((0, 0) : P2)) = false by rw [decide_eq_false_iff_not]; intro h; exact h1 (congrArg Prod.fst h))
    have hq : (p == 0) = false := by rw [beq_eq_false_iff_ne]; exact h1
    go_enter Try.func92, Try.ntmps92
    go_wp2
    go_ret
    exact ⟨ret_bool (by rw [E.out]), Below.refl _ _⟩

set_option maxRecDepth 100000 in
set_option maxHeartbeats 1600000 in
theorem s_hits1 (g d : P2) (hG : BdP 30 g) (hg0 : g ≠ (0, 0)) (hD : BdP 2000 d) (v b : Value) (w : World) (hv : Rw w v [rowOf g]) (hx : Sl w b (intVals (rowOf d))) :
    Calls Try.prog 92 #[v, b] w (Quiet w (.bool (hitsR [rowOf g] d))) := by
  obtain ⟨rb, ro, rc, u, rfl, lr, cr, hu⟩ := rw_one hv
  obtain ⟨b1, o1, c1, rfl, k1, l1, x1, y1⟩ := row_cells hx
  obtain ⟨b2, o2, c2, rfl, k2, l2, x2, y2⟩ := row_cells hu
  have HG := Lib.hid hu
  have HX := Lib.hid hx
  clear hv hx hu
  obtain ⟨p, q⟩ := d
  obtain ⟨x, y⟩ := g
  have hD : (-2000 ≤ p ∧ p ≤ 2000) ∧ -2000 ≤ q ∧ q ≤ 2000 := hD
  show Calls _ _ _ _ (Quiet w (.bool (hits1 (x, y) (p, q))))
  simp only at *
  by_cases h1 : x = 0
  · subst h1
    have hz : ¬ y = 0 := fun h => hg0 (Prod.ext rfl h)
    have hz1 : (y == 0) = false := by rw [beq_eq_false_iff_ne]; exact hz
    have hx0 : ((0 : Int) == 0) = true := rfl
    obtain ⟨n, hn⟩ : ∃ n, q.tdiv y = n := ⟨_, rfl⟩
    have nb : -2000 ≤ n ∧ n ≤ 2000 := by rw [← hn]; exact quo_bdT (by omega)
    have hw : IntKind.i64.wrap n = n := IntWalk.i64_in _ (by omega)
    have E := Lib.hid (show hits1 ((0, y) : P2) (p, q) = (decide (0 ≤ n) && decide (scaleL [0, y] n = rowOf (p, q))) by
      have e1 : quo1 ((0, y) : P2) (p, q) = n := by unfold quo1; simp only [if_true, ↓reduceIte]; exact hn
      unfold hits1
      rw [e1]
      congr 1
      rw [← Bool.decide_and]
      exact decide_eq_decide.2 (by simp only [scaleL, rowOf, List.map_cons, List.map_nil, List.cons.injEq, and_true]))
    have CS := Lib.hid (fun W hW => s_scale [0, y] (by simp) 30 2000 n hG.bd nb.1 nb.2 (by omega) (.slice (some ⟨b2, o2, none⟩) 2 c2) W hW)
    clear nb
    go_enter Try.func92, Try.ntmps92
    go_wp2_with fail
    refine (bit_of' _ _).mono ?_
    rintro e w1 ⟨rfl, rfl⟩
    simp only [if_true, ↓reduceIte]
    go_wp2_with fail
    go_quiet (fail)
    by_cases hp : 0 ≤ n
    · have E2 := Lib.hid (show hits1 ((0, y) : P2) (p, q) = decide (scaleL [0, y] n = rowOf (p, q)) by rw [E.out, decide_eq_true hp]; rfl)
      have B0 := Lib.hid (below_drewN' (Below.refl w.heap.size w) nq)
      go_wp2_with fail
      refine (CS.out _ (HG.out.below B0.out)).mono ?_
      rintro e w2 ⟨⟨sv, rfl, hs⟩, hb⟩
      have HSV := Lib.hid hs
      have B1 := Lib.hid (B0.out.trans (hb.mono B0.out.size))
      clear hs hb
      go_wp2_with fail
      refine (s_sameP (scaleL [0, y] n) (rowOf (p, q)) _ _ _ HSV.out.sl (HX.out.below B1.out)).mono ?_
      rintro e w3 ⟨rfl, hb⟩
      have B2 := Lib.hid (B1.out.trans (hb.mono B1.out.size))
      clear hb
      go_wp2_with fail
      go_ret
      exact ⟨ret_bool E2.out.symm, B2.out⟩
    · have E2 := Lib.hid (show hits1 ((0, y) : P2) (p, q) = false by rw [E.out, decide_eq_false hp]; rfl)
      have B0 := Lib.hid (below_drewN' (Below.refl w.heap.size w) nq)
      go_wp2_with fail
      go_ret
      exact ⟨ret_bool E2.out.symm, B0.out⟩
  · skip
    have hz : ¬ x = 0 := h1
    have hz1 : (x == 0) = false := by rw [beq_eq_false_iff_ne]; exact hz
    have hx0 : (x == 0) = false := by rw [beq_eq_false_iff_ne]; exact h1
    obtain ⟨n, hn⟩ : ∃ n, p.tdiv x = n := ⟨_, rfl⟩
    have nb : -2000 ≤ n ∧ n ≤ 2000 := by rw [← hn]; exact quo_bdT (by omega)
    have hw : IntKind.i64.wrap n = n := IntWalk.i64_in _ (by omega)
    have E := Lib.hid (show hits1 (x, y) (p, q) = (decide (0 ≤ n) && decide (scaleL [x, y] n = rowOf (p, q))) by
      have e1 : quo1 (x, y) (p, q) = n := by unfold quo1; simp only [h1, if_false, ↓reduceIte]; exact hn
      unfold hits1
      rw [e1]
      congr 1
      rw [← Bool.decide_and]
      exact decide_eq_decide.2 (by simp only [scaleL, rowOf, List.map_cons, List.map_nil, List.cons.injEq, and_true]))
    have CS := Lib.hid (fun W hW => s_scale [x, y] (by simp) 30 2000 n hG.bd nb.1 nb.2 (by omega) (.slice (some ⟨b2, o2, none⟩) 2 c2) W hW)
    clear nb
    go_enter Try.func92, Try.ntmps92
    go_wp2_with fail
    refine (bit_of' _ _).mono ?_
    rintro e w1 ⟨rfl, rfl⟩
    simp only [Bool.false_eq_true, if_false, ↓reduceIte]
    go_wp2_with fail
    go_quiet (fail)
    by_cases hp : 0 ≤ n
    · have E2 := Lib.hid (show hits1 (x, y) (p, q) = decide (scaleL [x, y] n = rowOf (p, q)) by rw [E.out, decide_eq_true hp]; rfl)
      have B0 := Lib.hid (below_drewN' (Below.refl w.heap.size w) nq)
      go_wp2_with fail
      refine (CS.out _ (HG.out.below B0.out)).mono ?_
      rintro e w2 ⟨⟨sv, rfl, hs⟩, hb⟩
      have HSV := Lib.hid hs
      have B1 := Lib.hid (B0.out.trans (hb.mono B0.out.size))
      clear hs hb
      go_wp2_with fail
      refine (s_sameP (scaleL [x, y] n) (rowOf (p, q)) _ _ _ HSV.out.sl (HX.out.below B1.out)).mono ?_
      rintro e w3 ⟨rfl, hb⟩
      have B2 := Lib.hid (B1.out.trans (hb.mono B1.out.size))
      clear hb
      go_wp2_with fail
      go_ret
      exact ⟨ret_bool E2.out.symm, B2.out⟩
    · have E2 := Lib.hid (show hits1 (x, y) (p, q) = false by rw [E.out, decide_eq_false hp]; rfl)
      have B0 := Lib.hid (below_drewN' (Below.refl w.heap.size w) nq)
      go_wp2_with fail
      go_ret
      exact ⟨ret_bool E2.out.symm, B0.out⟩

theorem cr_bdT {p q : P2} {n m : Int} (h : BdP n p) (k : BdP m q) : -(2 * (n * m)) ≤ crP p q ∧ crP p q ≤ 2 * (n * m) := by
  have a := mul_bd h.1.1 h.1.2 k.2.1 k.2.2
  have b := mul_bd h.2.1 h.2.2 k.1.1 k.1.2
  unfold crP
  omega
set_option maxRecDepth 100000 in
set_option maxHeartbeats 1600000 in
theorem s_hits2 (g h d : P2) (hG : BdP 30 g) (hH : BdP 30 h) (h0 : crP g h ≠ 0) (hD : BdP 2000 d) (v b : Value) (w : World) (hv : Rw w v [rowOf g, rowOf h]) (hx : Sl w b (intVals (rowOf d))) :
    Calls Try.prog 92 #[v, b] w (Quiet w (.bool (hitsR [rowOf g, rowOf h] d))) := by
  obtain ⟨rb, ro, rc, u, y, rfl, lr, cr0, cr1, hu, hy⟩ := rw_two hv
  have bA := cr_bdT hD hH
  have bB := cr_bdT hG hD
  have bD := cr_bdT hG hH
  have H1 := Lib.hid (fun W a b' (ha : Sl W a (intVals (rowOf g))) (hb : Sl W b' (intVals (rowOf h))) => (show Calls _ _ _ _ (Quiet W (.int .i64 (crP g h))) from s_cross g h (by unfold BdP at hG; omega) (by unfold BdP at hH; omega) a b' W ha hb))
  have H2 := Lib.hid (fun W a b' (ha : Sl W a (intVals (rowOf d))) (hb : Sl W b' (intVals (rowOf h))) => (show Calls _ _ _ _ (Quiet W (.int .i64 (crP d h))) from s_cross d h (by unfold BdP at hD; omega) (by unfold BdP at hH; omega) a b' W ha hb))
  have H3 := Lib.hid (fun W a b' (ha : Sl W a (intVals (rowOf g))) (hb : Sl W b' (intVals (rowOf d))) => (show Calls _ _ _ _ (Quiet W (.int .i64 (crP g d))) from s_cross g d (by unfold BdP at hG; omega) (by unfold BdP at hD; omega) a b' W ha hb))
  show Calls _ _ _ _ (Quiet w (.bool (hits2 (ptOf (rowOf g)) (ptOf (rowOf h)) d)))
  have E := Lib.hid (show hits2 (ptOf (rowOf g)) (ptOf (rowOf h)) d = (whole (crP d h) (crP g h) && whole (crP g d) (crP g h)) from rfl)
  have HU := Lib.hid hu
  have HY := Lib.hid hy
  have HX := Lib.hid hx
  generalize hits2 (ptOf (rowOf g)) (ptOf (rowOf h)) d = R at E ⊢
  generalize crP g h = D at *
  generalize crP d h = A at *
  generalize crP g d = B at *
  have d0 : ¬ D = 0 := h0
  have d1 : (D == 0) = false := by rw [beq_eq_false_iff_ne]; exact h0
  have qa := quo_bdT (n := A) (d := D) (m := 120000) (by omega)
  have qb := quo_bdT (n := B) (d := D) (m := 120000) (by omega)
  have wa : IntKind.i64.wrap (A.tdiv D) = A.tdiv D := IntWalk.i64_in _ (by omega)
  have wb : IntKind.i64.wrap (B.tdiv D) = B.tdiv D := IntWalk.i64_in _ (by omega)
  have i1 : (0 : Int) < 2 := by omega
  have i2 : (1 : Int) < 2 := by omega
  clear hv hx hu hy hG hH hD bA bB bD qa qb
  go_enter Try.func92, Try.ntmps92
  go_wp2_with fail
  go_region_held3 (fun w' => w'.cell? ⟨rb, ro, none⟩ = some u ∧ w'.cell? ⟨rb, ro + 1, none⟩ = some y ∧ Below w.heap.size w w')
    (first | exact keepF cr0 cr1 (Below.refl _ _) | (go_split_ands; exact keepE lr lr (by assumption) (by assumption) (by assumption) (by assumption)) | go_keep)
    (first | (go_at_call 78; refine (H1.out _ _ _ (HU.out.below (Below.refl _ _).drew) (HY.out.below (Below.refl _ _).drew)).mono ?_; rintro e w1 ⟨rfl, hb1⟩))
  rename_i hH
  have K1 := Lib.hid hH
  clear hH
  have c1 := K1.out.2.1
  go_wp2_with fail
  refine (H2.out _ _ _ (HX.out.below K1.out.2.2) (HY.out.below K1.out.2.2)).mono ?_
  rintro e w2 ⟨rfl, hb⟩
  have c0 := (hb.cell (p := ⟨rb, ro, none⟩) (Nat.lt_of_lt_of_le lr K1.out.2.2.size)).trans K1.out.1
  have B2 := Lib.hid (K1.out.2.2.trans (hb.mono K1.out.2.2.size))
  clear c1 hb
  go_wp2_with fail
  refine (H3.out _ _ _ (HU.out.below B2.out) (HX.out.below B2.out)).mono ?_
  rintro e w3 ⟨rfl, hb⟩
  have B3 := Lib.hid (B2.out.trans (hb.mono B2.out.size))
  clear c0 hb cr0 cr1
  unfold whole at E
  by_cases m1 : A.tmod D = 0
  case neg =>
    have E2 := Lib.hid (show R = false by rw [E.out, decide_eq_false m1]; rfl)
    have m1' : (A.tmod D == 0) = false := by rw [beq_eq_false_iff_ne]; exact m1
    go_wp2_with fail
    go_ret
    exact ⟨ret_bool E2.out.symm, B3.out⟩
  have m1' : (A.tmod D == 0) = true := by rw [beq_iff_eq]; exact m1
  by_cases m2 : B.tmod D = 0
  case neg =>
    have E2 := Lib.hid (show R = false by rw [E.out, decide_eq_false m2]; simp)
    have m2' : (B.tmod D == 0) = false := by rw [beq_eq_false_iff_ne]; exact m2
    go_wp2_with fail
    go_ret
    exact ⟨ret_bool E2.out.symm, B3.out⟩
  have m2' : (B.tmod D == 0) = true := by rw [beq_iff_eq]; exact m2
  by_cases m3 : 0 ≤ A.tdiv D
  case neg =>
    have E2 := Lib.hid (show R = false by rw [E.out, decide_eq_false m3]; simp)
    go_wp2_with fail
    go_ret
    exact ⟨ret_bool E2.out.symm, B3.out⟩
  by_cases m4 : 0 ≤ B.tdiv D
  case neg =>
    have E2 := Lib.hid (show R = false by rw [E.out, decide_eq_false m4]; simp)
    go_wp2_with fail
    go_ret
    exact ⟨ret_bool (by rw [E2.out, decide_eq_false (by omega)]), B3.out⟩
  have E2 := Lib.hid (show R = true by rw [E.out, decide_eq_true m1, decide_eq_true m2, decide_eq_true m3, decide_eq_true m4]; rfl)
  go_wp2_with fail
  go_ret
  exact ⟨ret_bool E2.out.symm, B3.out⟩

/-- All in one. -/
theorem s_hits (gs : List (List Int)) (d : P2) (hg : ∀ (i : Nat) (hi : i < gs.length), genR gs[i] = true) (hl : gs.length ≤ 2) (hd : gs.length = 2 → detG gs ≠ 0) (hD : BdP 2000 d) (v b : Value) (w : World) (hv : Rw w v gs) (hx : Sl w b (intVals (rowOf d))) :
    Calls Try.prog 92 #[v, b] w (Quiet w (.bool (hitsR gs d))) := by
  have bd30 : ∀ {p : P2}, Cn30 p → BdP 30 p := fun h => h
  match gs, hl with
  | [], _ => exact s_hits0 d v b w hv hx
  | [g], _ =>
    have h1 := genR_t (hg 0 (by simp))
    simp only [List.getElem_cons_zero] at h1
    have := s_hits1 (ptOf g) d (bd30 h1.2.2.1) h1.2.2.2.2 hD v b w (by rw [h1.2.2.2.1]; exact hv) hx
    rw [h1.2.2.2.1] at this
    exact this
  | [g, h], _ =>
    have h1 := genR_t (hg 0 (by simp))
    have h2 := genR_t (hg 1 (by simp))
    simp only [List.getElem_cons_zero, List.getElem_cons_succ] at h1 h2
    have := s_hits2 (ptOf g) (ptOf h) d (bd30 h1.2.2.1) (bd30 h2.2.2.1) (hd rfl) hD v b w (by rw [h1.2.2.2.1, h2.2.2.2.1]; exact hv) hx
    rw [h1.2.2.2.1, h2.2.2.2.1] at this
    exact this
  | _ :: _ :: _ :: _, h => simp at h
end Go.Proofs.Ytjijgagdaolkcaa
/- The model's terms: what one is, its value at a point; series of terms. -/
namespace Go.Proofs.Ytjijgagdaolkcaa
open Go Go.RowKit Go.Lib

theorem genR_f1 {g : List Int} (h : g.length ≠ 2) : genR g = false := by unfold genR; rw [decide_eq_false h]; rfl
theorem genR_f2 {g : List Int} (h : small g 30 = false) : genR g = false := by unfold genR; rw [h]; simp
theorem genR_e {g : List Int} (h : g.length = 2) (h2 : small g 30 = true) : genR g = !decide (allG g = 0) := by unfold genR; rw [decide_eq_true h, h2]; rfl
theorem termR_f1 {t : Tm} {k : Nat} (hk : k < t.2.2.length) (h : genR t.2.2[k] = false) : termR t = false := by
  unfold termR
  rw [all_not' hk h]; rfl
theorem termR_e {t : Tm} (h : t.2.2.all genR = true) : termR t = ((!(decide (t.2.2.length = 2) && decide (detG t.2.2 = 0))) && (signR t.1 && (planeR t.2.1 && decide (t.2.2.length ≤ 2)))) := by
  unfold termR
  rw [h]; rfl

theorem keepF3 {w W : World} {p q r : Addr} {x y z : Value} (h1 : W.cell? p = some x) (h2 : W.cell? q = some y) (h4 : W.cell? r = some z) (h3 : Below w.heap.size w W) : W.drew.cell? p = some x ∧ W.drew.cell? q = some y ∧ W.drew.cell? r = some z ∧ Below w.heap.size w W.drew := ⟨h1, h2, h4, h3.drew⟩
theorem keepE3 {w W w1 : World} {p q r : Addr} {x y z : Value} (hp : p.block < w.heap.size) (hq : q.block < w.heap.size) (hr : r.block < w.heap.size) (h1 : W.cell? p = some x) (h2 : W.cell? q = some y) (h4 : W.cell? r = some z) (h3 : Below w.heap.size w W) (hb : Below W.heap.size W w1) :
    w1.cell? p = some x ∧ w1.cell? q = some y ∧ w1.cell? r = some z ∧ Below w.heap.size w w1 :=
  ⟨(hb.cell (Nat.lt_of_lt_of_le hp h3.size)).trans h1, (hb.cell (Nat.lt_of_lt_of_le hq h3.size)).trans h2, (hb.cell (Nat.lt_of_lt_of_le hr h3.size)).trans h4, h3.trans (hb.mono h3.size)⟩

set_option maxRecDepth 100000 in
set_option maxHeartbeats 3200000 in
theorem s_term (t : Tm) (v : Value) (w : World) (hv : Tv w v t) :
    Calls Try.prog 43 #[v] w (Quiet w (.bool (termR t))) := by
  obtain ⟨u, g, rfl, hs, ht⟩ := hv
  obtain ⟨ga, gc, rfl, gm, _⟩ := ht.shape
  have HS := Lib.hid hs
  have HT := Lib.hid ht
  have K := Lib.hid (Bk.new w #[.int .i64 t.1, u, .slice ga t.2.2.length gc] 49)
  have B0 := Lib.hid (below1 w (.cells #[.int .i64 t.1, u, .slice ga t.2.2.length gc] 49))
  unfold maxLen at gm
  clear hs ht
  go_enter Try.func43, Try.ntmps43
  go_wp2
  go_loopw [3] (fun i wr => ∃ k : Nat, k ≤ t.2.2.length ∧ i = .int .i64 k ∧ (t.2.2.take k).all genR = true ∧ Below w.heap.size w wr ∧ Bk wr w.heap.size #[.int .i64 t.1, u, .slice ga t.2.2.length gc] 49) (fun i _ => t.2.2.length - (RowKit.intOf i).toNat)
  case atStart => exact ⟨0, Nat.zero_le _, rfl, rfl, B0.out, K.out⟩
  case round =>
    obtain ⟨k, hk, rfl, hall, hbr, hkr⟩ := hrel
    have HB := Lib.hid hbr
    have HK := Lib.hid hkr
    have HA := Lib.hid hall
    obtain ⟨⟨c0, c1, c2⟩, -⟩ := hkr.tri
    clear hall hbr hkr
    by_cases hlt : k < t.2.2.length
    · obtain ⟨b, off, x, rfl, hb2, hcell, hsx⟩ := HT.out.row k hlt rfl
      rw [← HB.out.cell (p := ⟨b, off + k, none⟩) hb2] at hcell
      have HX := Lib.hid (hsx.below HB.out)
      obtain ⟨xa, xc, rfl, xm, _⟩ := hsx.shape
      rw [intVals_len] at HX xm hcell
      have LB := Lib.hid (Nat.lt_of_lt_of_le hb2 HB.out.size)
      unfold maxLen at xm
      clear hsx
      have i1 : (0 : Int) ≤ (k : Int) := by omega
      have i2 : (k : Int) < (t.2.2.length : Int) := by omega
      by_cases h2 : t.2.2[k].length = 2
      case neg =>
        have E := Lib.hid (termR_f1 hlt (genR_f1 h2))
        have i3 : ((t.2.2[k].length : Int) == 2) = false := by rw [beq_eq_false_iff_ne]; omega
        have i3p : ¬ (t.2.2[k].length : Int) = 2 := by omega
        clear h2
        go_wp2_with fail
        go_ret
        exact ⟨ret_bool E.out.symm, HB.out⟩
      have i3 : ((t.2.2[k].length : Int) == 2) = true := by rw [beq_iff_eq]; omega
      have i3p : (t.2.2[k].length : Int) = 2 := by omega
      have H2 := Lib.hid h2
      clear h2
      go_wp2_with fail
      refine (s_small t.2.2[k] 30 (by omega) (by omega) _ _ HX.out).mono ?_
      rintro e w1 ⟨rfl, hb1⟩
      have HB1 := Lib.hid (HB.out.trans (hb1.mono HB.out.size))
      have HK1 := Lib.hid (HK.out.below hb1)
      have hcell1 := (hb1.cell (p := ⟨b, off + k, none⟩) LB.out).trans hcell
      have HX1 := Lib.hid (HX.out.below hb1)
      clear hb1 hcell c0 c1 c2
      obtain ⟨⟨c0, c1, c2⟩, -⟩ := HK1.out.tri
      cases hs : small t.2.2[k] 30
      · have E := Lib.hid (termR_f1 hlt (genR_f2 hs))
        clear hs
        go_wp2_with fail
        go_ret
        exact ⟨ret_bool E.out.symm, HB1.out⟩
      have E := Lib.hid (genR_e H2.out hs)
      have BD := Lib.hid (small_bd hs)
      clear hs
      go_wp2_with fail
      refine (s_all t.2.2[k] 30 (by omega) (by omega) BD.out _ _ HX1.out).mono ?_
      rintro e w2 ⟨rfl, hb1⟩
      have HB2 := Lib.hid (HB1.out.trans (hb1.mono HB1.out.size))
      have HK2 := Lib.hid (HK1.out.below hb1)
      clear hb1 hcell1 c0 c1 c2
      by_cases h0 : allG t.2.2[k] = 0
      · have E2 := Lib.hid (termR_f1 (t := t) hlt (by rw [E.out, decide_eq_true h0]; rfl))
        have i4 : (allG t.2.2[k] == 0) = true := by rw [beq_iff_eq]; exact h0
        clear h0
        go_wp2_with fail
        go_ret
        exact ⟨ret_bool E2.out.symm, HB2.out⟩
      · have E2 := Lib.hid (show genR t.2.2[k] = true by rw [E.out, decide_eq_false h0]; rfl)
        have i4 : (allG t.2.2[k] == 0) = false := by rw [beq_eq_false_iff_ne]; exact h0
        clear h0
        go_wp2_with fail
        exact ⟨⟨k + 1, by omega, by go_num, all_take' hlt HA.out E2.out, HB2.out, HK2.out⟩, by simp [RowKit.intOf]; omega⟩
    · obtain rfl : k = t.2.2.length := by omega
      have hA : t.2.2.all genR = true := by have := HA.out; rw [List.take_length] at this; exact this
      have E0 := Lib.hid (termR_e hA)
      have GA := Lib.hid hA
      clear hA hlt
      by_cases h2 : t.2.2.length = 2
      case neg =>
        have E := Lib.hid (show termR t = (signR t.1 && (planeR t.2.1 && decide (t.2.2.length ≤ 2))) by rw [E0.out, decide_eq_false h2]; rfl)
        have i3 : ((t.2.2.length : Int) == 2) = false := by rw [beq_eq_false_iff_ne]; omega
        have i3p : ¬ (t.2.2.length : Int) = 2 := by omega
        clear h2
        go_wp2_with fail
        go_quiet (fail)
        have HB3 := Lib.hid (below_drewN' HB.out nq)
        have HK3 := Lib.hid (show Bk (wr.drewN nq) _ _ _ from HK.out)
        clear c0 c1 c2
        obtain ⟨⟨c0, c1, c2⟩, -⟩ := HK3.out.tri
        by_cases g1 : t.1 = 1 ∨ t.1 = -1
        case neg =>
          have n1 : ¬ t.1 = 1 := fun h => g1 (.inl h)
          have n2 : ¬ t.1 = -1 := fun h => g1 (.inr h)
          have E2 := Lib.hid (show termR t = false by rw [E.out]; unfold signR; rw [decide_eq_false n1, decide_eq_false n2]; rfl)
          have n3 : (t.1 == 1) = false := by rw [beq_eq_false_iff_ne]; exact n1
          have n4 : (t.1 == -1) = false := by rw [beq_eq_false_iff_ne]; exact n2
          clear g1
          go_wp2_with fail
          go_ret
          exact ⟨ret_bool E2.out.symm, HB3.out⟩
        have E2 := Lib.hid (show termR t = (planeR t.2.1 && decide (t.2.2.length ≤ 2)) by rw [E.out]; unfold signR; rcases g1 with h | h <;> rw [h] <;> rfl)
        rcases g1 with g1 | g1
        · have n3 : (t.1 == 1) = true := by rw [g1]; rfl
          skip
          clear g1
          go_wp2_with fail
          refine (s_isv t.2.1 _ _ (HS.out.below HB3.out)).mono ?_
          rintro e w8 ⟨rfl, hb8⟩
          have HB8 := Lib.hid (HB3.out.trans (hb8.mono HB3.out.size))
          have HK8 := Lib.hid (HK3.out.below hb8)
          clear hb8 c0 c1 c2
          obtain ⟨⟨c0, c1, c2⟩, -⟩ := HK8.out.tri
          unfold planeR at E2
          cases hv : isV t.2.1
          · have E3 := Lib.hid (show termR t = false by rw [E2.out, hv]; rfl)
            clear hv
            go_wp2_with fail
            go_ret
            exact ⟨ret_bool E3.out.symm, HB8.out⟩
          obtain ⟨ua, uc, rfl, um, _⟩ := HS.out.shape
          rw [intVals_len] at c1
          by_cases hp : t.2.1.length = 2
          case neg =>
            have E3 := Lib.hid (show termR t = false by rw [E2.out, decide_eq_false hp]; simp)
            have i3 : ((t.2.1.length : Int) == 2) = false := by rw [beq_eq_false_iff_ne]; omega
            have i3p : ¬ (t.2.1.length : Int) = 2 := by omega
            clear hp hv
            go_wp2_with fail
            go_ret
            exact ⟨ret_bool E3.out.symm, HB8.out⟩
          have E3 := Lib.hid (show termR t = decide (t.2.2.length ≤ 2) by rw [E2.out, hv, decide_eq_true hp]; rfl)
          have i3 : ((t.2.1.length : Int) == 2) = true := by rw [beq_iff_eq]; omega
          have i3p : (t.2.1.length : Int) = 2 := by omega
          clear hp hv
          go_wp2_with fail
          go_ret
          exact ⟨ret_bool (by rw [E3.out]; exact decide_eq_decide.2 (by omega)), HB8.out⟩
        · have n3 : (t.1 == 1) = false := by rw [g1]; rfl
          have n4 : (t.1 == -1) = true := by rw [g1]; rfl
          clear g1
          go_wp2_with fail
          refine (s_isv t.2.1 _ _ (HS.out.below HB3.out)).mono ?_
          rintro e w8 ⟨rfl, hb8⟩
          have HB8 := Lib.hid (HB3.out.trans (hb8.mono HB3.out.size))
          have HK8 := Lib.hid (HK3.out.below hb8)
          clear hb8 c0 c1 c2
          obtain ⟨⟨c0, c1, c2⟩, -⟩ := HK8.out.tri
          unfold planeR at E2
          cases hv : isV t.2.1
          · have E3 := Lib.hid (show termR t = false by rw [E2.out, hv]; rfl)
            clear hv
            go_wp2_with fail
            go_ret
            exact ⟨ret_bool E3.out.symm, HB8.out⟩
          obtain ⟨ua, uc, rfl, um, _⟩ := HS.out.shape
          rw [intVals_len] at c1
          by_cases hp : t.2.1.length = 2
          case neg =>
            have E3 := Lib.hid (show termR t = false by rw [E2.out, decide_eq_false hp]; simp)
            have i3 : ((t.2.1.length : Int) == 2) = false := by rw [beq_eq_false_iff_ne]; omega
            have i3p : ¬ (t.2.1.length : Int) = 2 := by omega
            clear hp hv
            go_wp2_with fail
            go_ret
            exact ⟨ret_bool E3.out.symm, HB8.out⟩
          have E3 := Lib.hid (show termR t = decide (t.2.2.length ≤ 2) by rw [E2.out, hv, decide_eq_true hp]; rfl)
          have i3 : ((t.2.1.length : Int) == 2) = true := by rw [beq_iff_eq]; omega
          have i3p : (t.2.1.length : Int) = 2 := by omega
          clear hp hv
          go_wp2_with fail
          go_ret
          exact ⟨ret_bool (by rw [E3.out]; exact decide_eq_decide.2 (by omega)), HB8.out⟩
      obtain ⟨s, u', gs⟩ := t
      simp only at *
      match gs, h2 with
      | [g, h], _ =>
        obtain ⟨b, off, c', x, y, e0, hb2, hc0, hc1, hsx, hsy⟩ := rw_two HT.out
        simp only [Value.slice.injEq] at e0
        obtain ⟨rfl, -, rfl⟩ := e0
        have G1 := Lib.hid (genR_t (List.all_eq_true.1 GA.out g (by simp)))
        have G2 := Lib.hid (genR_t (List.all_eq_true.1 GA.out h (by simp)))
        have hc0' := (HB.out.cell (p := ⟨b, off, none⟩) hb2).trans hc0
        have hc1' := (HB.out.cell (p := ⟨b, off + 1, none⟩) hb2).trans hc1
        have LB := Lib.hid (Nat.lt_of_lt_of_le hb2 HB.out.size)
        have LK := Lib.hid HK.out.lt
        have HX := Lib.hid (show Sl wr x (intVals (rowOf (ptOf g))) by rw [G1.out.2.2.2.1]; exact hsx.below HB.out)
        have HY := Lib.hid (show Sl wr y (intVals (rowOf (ptOf h))) by rw [G2.out.2.2.2.1]; exact hsy.below HB.out)
        have i1 : (0 : Int) < 2 := by omega
        have i2 : (1 : Int) < 2 := by omega
        clear hsx hsy hc0 hc1
        have CC := Lib.hid (fun W (hb : Below wr.heap.size wr W) => (show Calls _ _ _ _ (Quiet W (.int .i64 (crP (ptOf g) (ptOf h)))) from s_cross (ptOf g) (ptOf h) G1.out.2.2.1.wide G2.out.2.2.1.wide x y W (HX.out.below hb) (HY.out.below hb)))
        have ED := Lib.hid (show detG [g, h] = crP (ptOf g) (ptOf h) from rfl)
        generalize crP (ptOf g) (ptOf h) = D at CC ED
        have c2 : wr.cell? ⟨w.heap.size, 2, none⟩ = some (.slice (some ⟨b, off, none⟩) 2 gc) := c2
        go_wp2_with fail
        go_region_held3 (fun w' => w'.cell? ⟨w.heap.size, 2, none⟩ = some (.slice (some ⟨b, off, none⟩) 2 gc) ∧ w'.cell? ⟨b, off, none⟩ = some x ∧ w'.cell? ⟨b, off + 1, none⟩ = some y ∧ Below wr.heap.size wr w')
          (first | with_reducible exact keepF3 c2 hc0' hc1' (Below.refl _ _) | (go_split_ands; with_reducible exact keepE3 LK.out LB.out LB.out (by assumption) (by assumption) (by assumption) (by assumption) (by assumption)) | go_keep)
          (first | (go_at_call 78; refine (CC.out _ (Below.refl _ _).drew).mono ?_; rintro e w1 ⟨rfl, hb1⟩))
        rename_i hH
        obtain ⟨w5, hw5⟩ : ∃ w5, w5 = w1 := ⟨_, rfl⟩
        subst hw5
        have HBW := Lib.hid hH.2.2.2
        have HB3 := Lib.hid (HB.out.trans (hH.2.2.2.mono HB.out.size))
        have HK3 := Lib.hid (HK.out.below hH.2.2.2)
        clear hH hb1 c0 c1 c2 hc0' hc1'
        by_cases hd : D = 0
        · have E := Lib.hid (show termR (s, u', [g, h]) = false by rw [E0.out, ED.out, decide_eq_true hd]; rfl)
          have i3 : (D == 0) = true := by rw [beq_iff_eq]; exact hd
          go_wp2_with fail
          go_ret
          exact ⟨ret_bool E.out.symm, HB3.out⟩
        have E := Lib.hid (show termR (s, u', [g, h]) = (signR s && (planeR u' && decide ([g, h].length ≤ 2))) by rw [E0.out, ED.out, decide_eq_false hd]; rfl)
        have i3 : (D == 0) = false := by rw [beq_eq_false_iff_ne]; exact hd
        clear hd
        obtain ⟨⟨c0, c1, c2⟩, -⟩ := HK3.out.tri
        by_cases g1 : s = 1 ∨ s = -1
        case neg =>
          have n1 : ¬ s = 1 := fun h => g1 (.inl h)
          have n2 : ¬ s = -1 := fun h => g1 (.inr h)
          have E2 := Lib.hid (show termR (s, u', [g, h]) = false by rw [E.out]; unfold signR; rw [decide_eq_false n1, decide_eq_false n2]; rfl)
          have n3 : (s == 1) = false := by rw [beq_eq_false_iff_ne]; exact n1
          have n4 : (s == -1) = false := by rw [beq_eq_false_iff_ne]; exact n2
          clear g1
          go_wp2_with fail
          go_ret
          exact ⟨ret_bool E2.out.symm, HB3.out⟩
        have E2 := Lib.hid (show termR (s, u', [g, h]) = (planeR u' && decide ([g, h].length ≤ 2)) by rw [E.out]; unfold signR; rcases g1 with h | h <;> rw [h] <;> rfl)
        rcases g1 with g1 | g1
        · have n3 : (s == 1) = true := by rw [g1]; rfl
          skip
          clear g1
          go_wp2_with fail
          refine (s_isv u' _ _ (HS.out.below HB3.out)).mono ?_
          rintro e w8 ⟨rfl, hb8⟩
          have HB8 := Lib.hid (HB3.out.trans (hb8.mono HB3.out.size))
          have HK8 := Lib.hid (HK3.out.below hb8)
          clear hb8 c0 c1 c2
          obtain ⟨⟨c0, c1, c2⟩, -⟩ := HK8.out.tri
          unfold planeR at E2
          cases hv : isV u'
          · have E3 := Lib.hid (show termR (s, u', [g, h]) = false by rw [E2.out, hv]; rfl)
            clear hv
            go_wp2_with fail
            go_ret
            exact ⟨ret_bool E3.out.symm, HB8.out⟩
          obtain ⟨ua, uc, rfl, um, _⟩ := HS.out.shape
          rw [intVals_len] at c1
          by_cases hp : u'.length = 2
          case neg =>
            have E3 := Lib.hid (show termR (s, u', [g, h]) = false by rw [E2.out, decide_eq_false hp]; simp)
            have i3 : ((u'.length : Int) == 2) = false := by rw [beq_eq_false_iff_ne]; omega
            have i3p : ¬ (u'.length : Int) = 2 := by omega
            clear hp hv
            go_wp2_with fail
            go_ret
            exact ⟨ret_bool E3.out.symm, HB8.out⟩
          have E3 := Lib.hid (show termR (s, u', [g, h]) = decide ([g, h].length ≤ 2) by rw [E2.out, hv, decide_eq_true hp]; rfl)
          have i3 : ((u'.length : Int) == 2) = true := by rw [beq_iff_eq]; omega
          have i3p : (u'.length : Int) = 2 := by omega
          clear hp hv
          go_wp2_with fail
          go_ret
          exact ⟨ret_bool (by rw [E3.out]; first | rfl | exact decide_eq_decide.2 (by simp)), HB8.out⟩
        · have n3 : (s == 1) = false := by rw [g1]; rfl
          have n4 : (s == -1) = true := by rw [g1]; rfl
          clear g1
          go_wp2_with fail
          refine (s_isv u' _ _ (HS.out.below HB3.out)).mono ?_
          rintro e w8 ⟨rfl, hb8⟩
          have HB8 := Lib.hid (HB3.out.trans (hb8.mono HB3.out.size))
          have HK8 := Lib.hid (HK3.out.below hb8)
          clear hb8 c0 c1 c2
          obtain ⟨⟨c0, c1, c2⟩, -⟩ := HK8.out.tri
          unfold planeR at E2
          cases hv : isV u'
          · have E3 := Lib.hid (show termR (s, u', [g, h]) = false by rw [E2.out, hv]; rfl)
            clear hv
            go_wp2_with fail
            go_ret
            exact ⟨ret_bool E3.out.symm, HB8.out⟩
          obtain ⟨ua, uc, rfl, um, _⟩ := HS.out.shape
          rw [intVals_len] at c1
          by_cases hp : u'.length = 2
          case neg =>
            have E3 := Lib.hid (show termR (s, u', [g, h]) = false by rw [E2.out, decide_eq_false hp]; simp)
            have i3 : ((u'.length : Int) == 2) = false := by rw [beq_eq_false_iff_ne]; omega
            have i3p : ¬ (u'.length : Int) = 2 := by omega
            clear hp hv
            go_wp2_with fail
            go_ret
            exact ⟨ret_bool E3.out.symm, HB8.out⟩
          have E3 := Lib.hid (show termR (s, u', [g, h]) = decide ([g, h].length ≤ 2) by rw [E2.out, hv, decide_eq_true hp]; rfl)
          have i3 : ((u'.length : Int) == 2) = true := by rw [beq_iff_eq]; omega
          have i3p : (u'.length : Int) = 2 := by omega
          clear hp hv
          go_wp2_with fail
          go_ret
          exact ⟨ret_bool (by rw [E3.out]; first | rfl | exact decide_eq_decide.2 (by simp)), HB8.out⟩
end Go.Proofs.Ytjijgagdaolkcaa
/- The program's terms: what one is; lists of terms. -/
namespace Go.Proofs.Ytjijgagdaolkcaa
open Go Go.RowKit Go.Lib

theorem gen_e {x y : Int} (h : small (rowOf (x, y)) 30 = true) : genR (rowOf (x, y)) = !decide ((x, y) = ((0, 0) : P2)) := by
  unfold genR
  rw [h, show allG (rowOf (x, y)) = gcdI x y from gcd_two x y]
  have e : (gcdI x y = 0) = ((x, y) = ((0, 0) : P2)) := by
    unfold gcdI
    rw [Prod.mk.injEq]
    exact propext ⟨fun k => Int.gcd_eq_zero_iff.1 (by omega), fun k => by rw [Int.gcd_eq_zero_iff.2 k]; rfl⟩
  simp only [e]
  rfl
set_option maxRecDepth 100000 in
set_option maxHeartbeats 1600000 in
theorem i_nogen (v : List Int) (a : Value) (w : World) (hv : Sl w a (intVals v)) :
    Calls Try.prog 97 #[a] w (Quiet w (.bool (!genR v))) := by
  have HV := Lib.hid hv
  obtain ⟨aa, c, rfl, hm, _⟩ := hv.shape
  rw [intVals_len] at hm HV ⊢
  unfold maxLen at hm
  clear hv
  by_cases h2 : v.length = 2
  case neg =>
    have E := Lib.hid (genR_f1 h2)
    have i3 : ((v.length : Int) != 2) = true := by rw [bne_iff_ne]; omega
    have i3p : ¬ (v.length : Int) = 2 := by omega
    clear h2
    go_enter Try.func97, Try.ntmps97
    go_wp2_with fail
    go_ret
    exact ⟨ret_bool (by rw [E.out]; rfl), Below.refl _ _⟩
  have i3p : (v.length : Int) = 2 := by omega
  obtain ⟨x, y, rfl⟩ := ray_two h2
  clear h2
  go_enter Try.func97, Try.ntmps97
  go_wp2_with fail
  refine (i_containsry _ _ _ HV.out).mono ?_
  rintro e w1 ⟨rfl, hb⟩
  have B1 := Lib.hid hb
  clear hb
  cases hs : small (rowOf (x, y)) 30
  · have E := Lib.hid (genR_f2 hs)
    clear hs
    go_wp2_with fail
    go_ret
    exact ⟨ret_bool (by rw [E.out]; rfl), B1.out⟩
  have E := Lib.hid (gen_e hs)
  clear hs
  by_cases hz : x = 0 ∧ y = 0 ∧ (0 : Int) = 0
  · have E2 := Lib.hid (show genR (rowOf (x, y)) = false by rw [E.out, hz.1, hz.2.1]; rfl)
    have hq := eq_arr_t (x := x) (y := y) (z := 0) (x' := 0) (y' := 0) (z' := 0) hz
    clear hz
    go_wp2_with fail
    refine (i_numP (x, y) _ _ (HV.out.below B1.out)).mono ?_
    rintro e w2 ⟨rfl, hb⟩
    unfold ptV
    have B2 := Lib.hid (B1.out.trans (hb.mono B1.out.size))
    clear hb
    go_wp2
    go_ret
    exact ⟨ret_bool (by rw [E2.out]; rfl), B2.out⟩
  · have E2 := Lib.hid (show genR (rowOf (x, y)) = true by rw [E.out, decide_eq_false (fun h => hz ⟨congrArg Prod.fst h, congrArg Prod.snd h, rfl⟩)]; rfl)
    have hq := eq_arr_f (x := x) (y := y) (z := 0) (x' := 0) (y' := 0) (z' := 0) hz
    clear hz
    go_wp2_with fail
    refine (i_numP (x, y) _ _ (HV.out.below B1.out)).mono ?_
    rintro e w2 ⟨rfl, hb⟩
    unfold ptV
    have B2 := Lib.hid (B1.out.trans (hb.mono B1.out.size))
    clear hb
    go_wp2
    go_ret
    exact ⟨ret_bool (by rw [E2.out]; rfl), B2.out⟩

/-- Where the first row lies that is no vector of a term, or -1. -/
def IdxGn (l : List (List Int)) (w : World) (e : Ending) (w' : World) : Prop :=
  ((l.all genR = true ∧ e = .returned (.int .i64 (-1))) ∨ (l.all genR = false ∧ ∃ k : Nat, e = .returned (.int .i64 k))) ∧ Below w.heap.size w w'
theorem allG_tk {l : List (List Int)} {k : Nat} (h : k < l.length) (h1 : (l.take k).all genR = true) (h2 : genR l[k] = true) : (l.take (k + 1)).all genR = true := by
  rw [List.take_succ_eq_append_getElem h]
  rw [List.all_append, h1, List.all_cons, h2]; rfl
theorem allG_nt {l : List (List Int)} {k : Nat} (h : k < l.length) (h2 : genR l[k] = false) : l.all genR = false := by
  rw [List.all_eq_false]
  exact ⟨l[k], List.getElem_mem h, by rw [h2]; simp⟩
set_option maxRecDepth 100000 in
set_option maxHeartbeats 400000 in
theorem i_indexgn (l : List (List Int)) (a : Value) (w : World) (hv : Rw w a l) :
    Calls Try.prog 121 #[a, .func (.func 97) #[] #[]] w (IdxGn l w) := by
  obtain ⟨a, c, rfl, hm, hopen⟩ := hv.shape
  unfold maxLen at hm
  have HO := Lib.hid hopen
  clear hopen hv
  go_enter Try.func121, Try.ntmps121
  go_wp2
  go_loopw [5, 8] (fun _ i wr => ∃ k : Nat, k ≤ l.length ∧ i = .int .i64 k ∧ (l.take k).all genR = true ∧ Below w.heap.size w wr) (fun _ i _ => l.length - (RowKit.intOf i).toNat)
  case atStart => exact ⟨0, Nat.zero_le _, rfl, rfl, Below.refl _ _⟩
  case round =>
    obtain ⟨k, hk, rfl, ht, hbr⟩ := hrel
    have HB := Lib.hid hbr
    have HT := Lib.hid ht
    clear ht
    by_cases hlt : k < l.length
    · obtain ⟨b, off, u, rfl, hc, hlt2, hcell, hsu⟩ := HO.out k _ (List.getElem?_eq_getElem hlt)
      rw [← hbr.cell (p := ⟨b, off + k, none⟩) hlt2] at hcell
      have HU := Lib.hid (hsu.below hbr)
      clear hbr hsu
      by_cases hin : genR l[k] = true
      · have HI := Lib.hid hin
        clear hin
        go_wp2_with fail
        refine (i_nogen l[k] _ _ HU.out).mono ?_
        rintro e w1 ⟨rfl, hb1⟩
        rw [HI.out]
        have HB1 := Lib.hid (HB.out.trans (hb1.mono HB.out.size))
        go_wp2_with fail
        exact ⟨⟨k + 1, by omega, by go_num, allG_tk hlt HT.out HI.out, HB1.out⟩, by simp [RowKit.intOf]; omega⟩
      · have HI := Lib.hid (Bool.not_eq_true _ ▸ hin)
        clear hin
        go_wp2_with fail
        refine (i_nogen l[k] _ _ HU.out).mono ?_
        rintro e w1 ⟨rfl, hb1⟩
        rw [HI.out]
        have HB1 := Lib.hid (HB.out.trans (hb1.mono HB.out.size))
        go_wp2_with fail
        go_ret
        exact ⟨.inr ⟨allG_nt hlt HI.out, k, rfl⟩, HB1.out⟩
    · obtain rfl : k = l.length := by omega
      clear hbr
      go_wp2
      go_ret
      refine ⟨.inl ⟨?_, rfl⟩, HB.out⟩
      have h := HT.out
      rw [List.take_length] at h
      exact h
set_option maxRecDepth 100000 in
theorem i_containsgn (l : List (List Int)) (a : Value) (w : World) (hv : Rw w a l) :
    Calls Try.prog 96 #[a, .func (.func 97) #[] #[]] w (Quiet w (.bool (!l.all genR))) := by
  have HV := Lib.hid hv
  clear hv
  go_enter Try.func96, Try.ntmps96
  go_wp2_with fail
  refine (i_indexgn l a _ HV.out).mono ?_
  rintro e w1 ⟨⟨hs, rfl⟩ | ⟨hs, k, rfl⟩, hb⟩
  · have HS := Lib.hid hs
    clear hs
    go_wp2_with fail
    go_ret
    exact ⟨ret_bool (by rw [HS.out]; rfl), hb⟩
  · have HS := Lib.hid hs
    clear hs
    have h0 : (0 : Int) ≤ (k : Int) := by omega
    go_wp2_with fail
    go_ret
    exact ⟨ret_bool (by rw [HS.out]; rfl), hb⟩

theorem pair_gens {w : World} {v : Value} (gs : List (List Int)) (h : gs.length = 2) (ha : gs.all genR = true) (hv : Rw w v gs) : ∃ b off c u y, v = .slice (some ⟨b, off, none⟩) gs.length c ∧ b < w.heap.size ∧ w.cell? ⟨b, off, none⟩ = some u ∧ w.cell? ⟨b, off + 1, none⟩ = some y ∧ Sl w u (intVals (rowOf (ptOf (gs.getD 0 [])))) ∧ Sl w y (intVals (rowOf (ptOf (gs.getD 1 [])))) ∧ Cn30 (ptOf (gs.getD 0 [])) ∧ Cn30 (ptOf (gs.getD 1 [])) ∧ detG gs = crP (ptOf (gs.getD 0 [])) (ptOf (gs.getD 1 [])) := by
  match gs, h with
  | [g, k], _ =>
    have h1 := genR_t (List.all_eq_true.1 ha g (by simp))
    have h2 := genR_t (List.all_eq_true.1 ha k (by simp))
    obtain ⟨b, off, c, u, y, e, hb, c0, c1, s0, s1⟩ := rw_two hv
    refine ⟨b, off, c, u, y, e, hb, c0, c1, ?_, ?_, h1.2.2.1, h2.2.2.1, rfl⟩
    · show Sl w u (intVals (rowOf (ptOf g))); rw [h1.2.2.2.1]; exact s0
    · show Sl w y (intVals (rowOf (ptOf k))); rw [h2.2.2.2.1]; exact s1

theorem termR_fs {t : Tm} (h : signR t.1 = false) : termR t = false := by unfold termR; rw [h]; simp
theorem termR_fp {t : Tm} (h : planeR t.2.1 = false) : termR t = false := by unfold termR; rw [h]; simp
theorem termR_fl {t : Tm} (h : ¬ t.2.2.length ≤ 2) : termR t = false := by unfold termR; rw [decide_eq_false h]; simp
theorem termR_fg {t : Tm} (h : t.2.2.all genR = false) : termR t = false := by unfold termR; rw [h]; rfl
theorem termR_e2 {t : Tm} (h1 : signR t.1 = true) (h2 : planeR t.2.1 = true) (h3 : t.2.2.length ≤ 2) (h4 : t.2.2.all genR = true) : termR t = !(decide (t.2.2.length = 2) && decide (detG t.2.2 = 0)) := by unfold termR; rw [h1, h2, h4, decide_eq_true h3]; simp
set_option maxRecDepth 100000 in
set_option maxHeartbeats 6400000 in
theorem i_term_p (sh : List Int) (gs : List (List Int)) (v : Value) (w : World) (hv : Tv w v (1, sh, gs)) :
    Calls Try.prog 42 #[v] w (Quiet w (.bool (termR (1, sh, gs)))) := by
  obtain ⟨u, g, rfl, hs, ht⟩ := hv
  simp only at hs ht
  obtain ⟨ga, gc, rfl, gm, _⟩ := ht.shape
  have HS := Lib.hid hs
  have HT := Lib.hid ht
  have K := Lib.hid (Bk.new w #[.int .i64 1, u, .slice ga gs.length gc] 49)
  have B0 := Lib.hid (below1 w (.cells #[.int .i64 1, u, .slice ga gs.length gc] 49))
  unfold maxLen at gm
  clear hs ht
  obtain ⟨⟨c0, c1, c2⟩, -⟩ := K.out.tri
  have GS := Lib.hid (show signR 1 = true from rfl)
  go_enter Try.func42, Try.ntmps42
  go_wp2_with fail
  refine (i_plane sh _ _ (HS.out.below B0.out)).mono ?_
  rintro e w1 ⟨rfl, hb⟩
  have B1 := Lib.hid (B0.out.trans (hb.mono B0.out.size))
  have K1 := Lib.hid (K.out.below hb)
  clear hb c0 c1 c2
  obtain ⟨⟨c0, c1, c2⟩, -⟩ := K1.out.tri
  cases h2 : (isV sh && decide (sh.length = 2))
  · have E2 := Lib.hid (termR_fp (t := (1, sh, gs)) h2)
    clear h2
    go_wp2_with fail
    go_ret
    exact ⟨ret_bool E2.out.symm, B1.out⟩
  have GP := Lib.hid (show planeR sh = true from h2)
  clear h2
  by_cases h3 : gs.length ≤ 2
  case neg =>
    have E2 := Lib.hid (termR_fl (t := (1, sh, gs)) h3)
    have i3 : (2 : Int) < (gs.length : Int) := by omega
    clear h3
    go_wp2_with fail
    go_ret
    exact ⟨ret_bool E2.out.symm, B1.out⟩
  have i3 : ¬ (2 : Int) < (gs.length : Int) := by omega
  have i3b : (gs.length : Int) ≤ 2 := by omega
  have G3 := Lib.hid h3
  go_wp2_with fail
  refine (i_containsgn gs _ _ (HT.out.below B1.out)).mono ?_
  rintro e w2 ⟨rfl, hb⟩
  have B2 := Lib.hid (B1.out.trans (hb.mono B1.out.size))
  have K2 := Lib.hid (K1.out.below hb)
  clear hb c0 c1 c2
  obtain ⟨⟨c0, c1, c2⟩, -⟩ := K2.out.tri
  cases h4 : gs.all genR
  · have E2 := Lib.hid (termR_fg (t := (1, sh, gs)) h4)
    clear h4
    go_wp2_with fail
    go_ret
    exact ⟨ret_bool E2.out.symm, B2.out⟩
  have E := Lib.hid (termR_e2 (t := (1, sh, gs)) GS.out GP.out G3.out h4)
  have GA := Lib.hid h4
  clear h4
  by_cases h5 : gs.length = 2
  case neg =>
    have E2 := Lib.hid (show termR (1, sh, gs) = true by rw [E.out, decide_eq_false h5]; rfl)
    have i5 : (gs.length : Int) < 2 := by omega
    have i5b : decide ((gs.length : Int) < 2) = true := decide_eq_true i5
    go_wp2_with fail
    go_quiet (fail)
    go_wp2_with fail
    go_ret
    exact ⟨ret_bool E2.out.symm, below_drewN' B2.out _⟩
  have PAIR := Lib.hid (pair_gens gs h5 GA.out (HT.out.below B2.out))
  obtain ⟨b, off, c', x, y, e0, hb2, hc0, hc1, hsx, hsy, G1, G2, ED⟩ := PAIR.out
  simp only [Value.slice.injEq] at e0
  obtain ⟨rfl, -, rfl⟩ := e0
  obtain ⟨D, hD⟩ : ∃ D, detG gs = D := ⟨_, rfl⟩
  obtain ⟨pp, hpp⟩ : ∃ pp, ptOf (gs.getD 0 []) = pp := ⟨_, rfl⟩
  obtain ⟨qq, hqq⟩ : ∃ qq, ptOf (gs.getD 1 []) = qq := ⟨_, rfl⟩
  rw [hpp] at hsx G1 ED
  rw [hqq] at hsy G2 ED
  rw [h5] at c2
  have CX := Lib.hid (fun W (hb : Below w2.heap.size w2 W) => i_numP pp x W (hsx.below hb))
  have CY := Lib.hid (fun W (hb : Below w2.heap.size w2 W) => i_numP qq y W (hsy.below hb))
  have CD := Lib.hid (fun W => (show Calls _ _ _ _ (Quiet W (.int .i64 D)) by rw [← hD, ED]; exact i_pdet pp qq G1.bd4 G2.bd4 W))
  rw [hD] at E
  have i6 : (0 : Int) < 2 := by omega
  have i7 : (1 : Int) < 2 := by omega
  have LK := Lib.hid K2.out.lt
  have E5 := Lib.hid h5
  clear hsx hsy G1 G2 ED hD PAIR h5 h3 hpp hqq
  go_wp2_with fail
  go_region_held3 (fun w' => w'.cell? ⟨w.heap.size, 2, none⟩ = some (.slice (some ⟨b, off, none⟩) 2 gc) ∧ w'.cell? ⟨b, off, none⟩ = some x ∧ w'.cell? ⟨b, off + 1, none⟩ = some y ∧ Below w2.heap.size w2 w')
    (first | with_reducible exact keepF3 c2 hc0 hc1 (Below.refl _ _) | (go_split_ands; with_reducible exact keepE3 LK.out hb2 hb2 (by assumption) (by assumption) (by assumption) (by assumption) (by assumption)) | go_keep)
    (first | (go_at_call 82; (with_reducible refine (CX.out _ (Below.refl _ _).drew).mono ?_); rintro e w3 ⟨rfl, hb3⟩) | (go_at_call 82; (with_reducible refine (CY.out _ (drew_below hb3)).mono ?_); rintro e w4 ⟨rfl, hb4⟩) | (go_at_call 65; (with_reducible refine (CD.out _).mono ?_); rintro e w5 ⟨rfl, hb5⟩))
  rename_i hH
  obtain ⟨w9, hw9⟩ : ∃ w9, w9 = w5 := ⟨_, rfl⟩
  subst hw9
  have B9 := Lib.hid (B2.out.trans (hH.2.2.2.mono B2.out.size))
  have EE := Lib.hid (show termR (1, sh, gs) = !decide (D = 0) by rw [E.out, decide_eq_true E5.out]; rfl)
  clear hH hb3 hb4 hb5 c0 c1 c2 hc0 hc1
  by_cases hd : D = 0
  · have E2 := Lib.hid (show termR (1, sh, gs) = false by rw [EE.out, decide_eq_true hd]; rfl)
    have i8 : (D != 0) = false := by rw [hd]; rfl
    have i9 : (D == 0) = true := by rw [hd]; rfl
    go_wp2_with fail
    go_ret
    exact ⟨ret_bool (by rw [E2.out]; first | rfl | exact i8 | simp [i9]), B9.out⟩
  · have E2 := Lib.hid (show termR (1, sh, gs) = true by rw [EE.out, decide_eq_false hd]; rfl)
    have i8 : (D != 0) = true := by rw [bne_iff_ne]; exact hd
    have i9 : (D == 0) = false := by rw [beq_eq_false_iff_ne]; exact hd
    go_wp2_with fail
    go_ret
    exact ⟨ret_bool (by rw [E2.out]; first | rfl | exact i8 | simp [i9]), B9.out⟩

set_option maxRecDepth 100000 in
set_option maxHeartbeats 6400000 in
theorem i_term_m (sh : List Int) (gs : List (List Int)) (v : Value) (w : World) (hv : Tv w v ((-1), sh, gs)) :
    Calls Try.prog 42 #[v] w (Quiet w (.bool (termR ((-1), sh, gs)))) := by
  obtain ⟨u, g, rfl, hs, ht⟩ := hv
  simp only at hs ht
  obtain ⟨ga, gc, rfl, gm, _⟩ := ht.shape
  have HS := Lib.hid hs
  have HT := Lib.hid ht
  have K := Lib.hid (Bk.new w #[.int .i64 (-1), u, .slice ga gs.length gc] 49)
  have B0 := Lib.hid (below1 w (.cells #[.int .i64 (-1), u, .slice ga gs.length gc] 49))
  unfold maxLen at gm
  clear hs ht
  obtain ⟨⟨c0, c1, c2⟩, -⟩ := K.out.tri
  have GS := Lib.hid (show signR (-1) = true from rfl)
  go_enter Try.func42, Try.ntmps42
  go_wp2_with fail
  refine (i_plane sh _ _ (HS.out.below B0.out)).mono ?_
  rintro e w1 ⟨rfl, hb⟩
  have B1 := Lib.hid (B0.out.trans (hb.mono B0.out.size))
  have K1 := Lib.hid (K.out.below hb)
  clear hb c0 c1 c2
  obtain ⟨⟨c0, c1, c2⟩, -⟩ := K1.out.tri
  cases h2 : (isV sh && decide (sh.length = 2))
  · have E2 := Lib.hid (termR_fp (t := ((-1), sh, gs)) h2)
    clear h2
    go_wp2_with fail
    go_ret
    exact ⟨ret_bool E2.out.symm, B1.out⟩
  have GP := Lib.hid (show planeR sh = true from h2)
  clear h2
  by_cases h3 : gs.length ≤ 2
  case neg =>
    have E2 := Lib.hid (termR_fl (t := ((-1), sh, gs)) h3)
    have i3 : (2 : Int) < (gs.length : Int) := by omega
    clear h3
    go_wp2_with fail
    go_ret
    exact ⟨ret_bool E2.out.symm, B1.out⟩
  have i3 : ¬ (2 : Int) < (gs.length : Int) := by omega
  have i3b : (gs.length : Int) ≤ 2 := by omega
  have G3 := Lib.hid h3
  go_wp2_with fail
  refine (i_containsgn gs _ _ (HT.out.below B1.out)).mono ?_
  rintro e w2 ⟨rfl, hb⟩
  have B2 := Lib.hid (B1.out.trans (hb.mono B1.out.size))
  have K2 := Lib.hid (K1.out.below hb)
  clear hb c0 c1 c2
  obtain ⟨⟨c0, c1, c2⟩, -⟩ := K2.out.tri
  cases h4 : gs.all genR
  · have E2 := Lib.hid (termR_fg (t := ((-1), sh, gs)) h4)
    clear h4
    go_wp2_with fail
    go_ret
    exact ⟨ret_bool E2.out.symm, B2.out⟩
  have E := Lib.hid (termR_e2 (t := ((-1), sh, gs)) GS.out GP.out G3.out h4)
  have GA := Lib.hid h4
  clear h4
  by_cases h5 : gs.length = 2
  case neg =>
    have E2 := Lib.hid (show termR ((-1), sh, gs) = true by rw [E.out, decide_eq_false h5]; rfl)
    have i5 : (gs.length : Int) < 2 := by omega
    have i5b : decide ((gs.length : Int) < 2) = true := decide_eq_true i5
    go_wp2_with fail
    go_quiet (fail)
    go_wp2_with fail
    go_ret
    exact ⟨ret_bool E2.out.symm, below_drewN' B2.out _⟩
  have PAIR := Lib.hid (pair_gens gs h5 GA.out (HT.out.below B2.out))
  obtain ⟨b, off, c', x, y, e0, hb2, hc0, hc1, hsx, hsy, G1, G2, ED⟩ := PAIR.out
  simp only [Value.slice.injEq] at e0
  obtain ⟨rfl, -, rfl⟩ := e0
  obtain ⟨D, hD⟩ : ∃ D, detG gs = D := ⟨_, rfl⟩
  obtain ⟨pp, hpp⟩ : ∃ pp, ptOf (gs.getD 0 []) = pp := ⟨_, rfl⟩
  obtain ⟨qq, hqq⟩ : ∃ qq, ptOf (gs.getD 1 []) = qq := ⟨_, rfl⟩
  rw [hpp] at hsx G1 ED
  rw [hqq] at hsy G2 ED
  rw [h5] at c2
  have CX := Lib.hid (fun W (hb : Below w2.heap.size w2 W) => i_numP pp x W (hsx.below hb))
  have CY := Lib.hid (fun W (hb : Below w2.heap.size w2 W) => i_numP qq y W (hsy.below hb))
  have CD := Lib.hid (fun W => (show Calls _ _ _ _ (Quiet W (.int .i64 D)) by rw [← hD, ED]; exact i_pdet pp qq G1.bd4 G2.bd4 W))
  rw [hD] at E
  have i6 : (0 : Int) < 2 := by omega
  have i7 : (1 : Int) < 2 := by omega
  have LK := Lib.hid K2.out.lt
  have E5 := Lib.hid h5
  clear hsx hsy G1 G2 ED hD PAIR h5 h3 hpp hqq
  go_wp2_with fail
  go_region_held3 (fun w' => w'.cell? ⟨w.heap.size, 2, none⟩ = some (.slice (some ⟨b, off, none⟩) 2 gc) ∧ w'.cell? ⟨b, off, none⟩ = some x ∧ w'.cell? ⟨b, off + 1, none⟩ = some y ∧ Below w2.heap.size w2 w')
    (first | with_reducible exact keepF3 c2 hc0 hc1 (Below.refl _ _) | (go_split_ands; with_reducible exact keepE3 LK.out hb2 hb2 (by assumption) (by assumption) (by assumption) (by assumption) (by assumption)) | go_keep)
    (first | (go_at_call 82; (with_reducible refine (CX.out _ (Below.refl _ _).drew).mono ?_); rintro e w3 ⟨rfl, hb3⟩) | (go_at_call 82; (with_reducible refine (CY.out _ (drew_below hb3)).mono ?_); rintro e w4 ⟨rfl, hb4⟩) | (go_at_call 65; (with_reducible refine (CD.out _).mono ?_); rintro e w5 ⟨rfl, hb5⟩))
  rename_i hH
  obtain ⟨w9, hw9⟩ : ∃ w9, w9 = w5 := ⟨_, rfl⟩
  subst hw9
  have B9 := Lib.hid (B2.out.trans (hH.2.2.2.mono B2.out.size))
  have EE := Lib.hid (show termR ((-1), sh, gs) = !decide (D = 0) by rw [E.out, decide_eq_true E5.out]; rfl)
  clear hH hb3 hb4 hb5 c0 c1 c2 hc0 hc1
  by_cases hd : D = 0
  · have E2 := Lib.hid (show termR ((-1), sh, gs) = false by rw [EE.out, decide_eq_true hd]; rfl)
    have i8 : (D != 0) = false := by rw [hd]; rfl
    have i9 : (D == 0) = true := by rw [hd]; rfl
    go_wp2_with fail
    go_ret
    exact ⟨ret_bool (by rw [E2.out]; first | rfl | exact i8 | simp [i9]), B9.out⟩
  · have E2 := Lib.hid (show termR ((-1), sh, gs) = true by rw [EE.out, decide_eq_false hd]; rfl)
    have i8 : (D != 0) = true := by rw [bne_iff_ne]; exact hd
    have i9 : (D == 0) = false := by rw [beq_eq_false_iff_ne]; exact hd
    go_wp2_with fail
    go_ret
    exact ⟨ret_bool (by rw [E2.out]; first | rfl | exact i8 | simp [i9]), B9.out⟩

set_option maxRecDepth 100000 in
set_option maxHeartbeats 1600000 in
theorem i_term (t : Tm) (v : Value) (w : World) (hv : Tv w v t) :
    Calls Try.prog 42 #[v] w (Quiet w (.bool (termR t))) := by
  by_cases g1 : t.1 = 1 ∨ t.1 = -1
  case pos =>
    obtain ⟨s, sh, gs⟩ := t
    rcases g1 with h | h
    · obtain rfl : s = 1 := h
      exact i_term_p sh gs v w hv
    · obtain rfl : s = -1 := h
      exact i_term_m sh gs v w hv
  obtain ⟨u, g, rfl, hs, ht⟩ := hv
  obtain ⟨ga, gc, rfl, gm, _⟩ := ht.shape
  have HS := Lib.hid hs
  have HT := Lib.hid ht
  have K := Lib.hid (Bk.new w #[.int .i64 t.1, u, .slice ga t.2.2.length gc] 49)
  have B0 := Lib.hid (below1 w (.cells #[.int .i64 t.1, u, .slice ga t.2.2.length gc] 49))
  unfold maxLen at gm
  clear hs ht
  obtain ⟨⟨c0, c1, c2⟩, -⟩ := K.out.tri
  have n1 : ¬ t.1 = 1 := fun h => g1 (.inl h)
  have n2 : ¬ t.1 = -1 := fun h => g1 (.inr h)
  have E2 := Lib.hid (termR_fs (t := t) (by unfold signR; rw [decide_eq_false n1, decide_eq_false n2]; rfl))
  have n3 : (t.1 == 1) = false := by rw [beq_eq_false_iff_ne]; exact n1
  have n4 : (t.1 == -1) = false := by rw [beq_eq_false_iff_ne]; exact n2
  have n5 : (t.1 != 1) = true := by rw [bne_iff_ne]; exact n1
  have n6 : (t.1 != -1) = true := by rw [bne_iff_ne]; exact n2
  clear g1
  go_enter Try.func42, Try.ntmps42
  go_wp2_with fail
  go_ret
  exact ⟨ret_bool E2.out.symm, B0.out⟩

set_option maxRecDepth 100000 in
theorem i_noterm (t : Tm) (v : Value) (w : World) (hv : Tv w v t) :
    Calls Try.prog 94 #[v] w (Quiet w (.bool (!termR t))) := by
  have HV := Lib.hid hv
  obtain ⟨u, g, rfl, hs, ht⟩ := hv
  have K := Lib.hid (Bk.new w #[.int .i64 t.1, u, g] 49)
  have B0 := Lib.hid (below1 w (.cells #[.int .i64 t.1, u, g] 49))
  clear hs ht
  obtain ⟨⟨c0, c1, c2⟩, -⟩ := K.out.tri
  go_enter Try.func94, Try.ntmps94
  go_wp2_with fail
  refine (i_term t _ _ (HV.out.below B0.out)).mono ?_
  rintro e w1 ⟨rfl, hb⟩
  have B1 := Lib.hid (B0.out.trans (hb.mono B0.out.size))
  clear hb
  go_wp2_with fail
  go_ret
  exact ⟨rfl, B1.out⟩
/-- Where the first value lies that is no term, or -1. -/
def IdxTm (l : List Tm) (w : World) (e : Ending) (w' : World) : Prop :=
  ((l.all termR = true ∧ e = .returned (.int .i64 (-1))) ∨ (l.all termR = false ∧ ∃ k : Nat, e = .returned (.int .i64 k))) ∧ Below w.heap.size w w'
set_option maxRecDepth 100000 in
set_option maxHeartbeats 800000 in
theorem i_indextm (l : List Tm) (a : Value) (w : World) (hv : Tms w a l) :
    Calls Try.prog 120 #[a, .func (.func 94) #[] #[]] w (IdxTm l w) := by
  have HV := Lib.hid hv
  obtain ⟨a, c, rfl, hm⟩ := hv.shape
  unfold maxLen at hm
  clear hv
  go_enter Try.func120, Try.ntmps120
  go_wp2
  go_loopw [5, 8] (fun _ i wr => ∃ k : Nat, k ≤ l.length ∧ i = .int .i64 k ∧ (l.take k).all termR = true ∧ Below w.heap.size w wr) (fun _ i _ => l.length - (RowKit.intOf i).toNat)
  case atStart => exact ⟨0, Nat.zero_le _, rfl, rfl, Below.refl _ _⟩
  case round =>
    obtain ⟨k, hk, rfl, ht, hbr⟩ := hrel
    have HB := Lib.hid hbr
    have HT := Lib.hid ht
    clear ht
    by_cases hlt : k < l.length
    · obtain ⟨b, off, x, xg, rfl, _, hb2, hcell, hcell1, hcell2, hsx, hrx⟩ := HV.out.term k hlt rfl
      rw [← hbr.cell (p := ⟨b, off + k * 3, none⟩) hb2] at hcell
      rw [← hbr.cell (p := ⟨b, off + k * 3 + 1, none⟩) hb2] at hcell1
      rw [← hbr.cell (p := ⟨b, off + k * 3 + 2, none⟩) hb2] at hcell2
      have HX := Lib.hid (show Tv _ (.agg #[.int .i64 l[k].1, x, xg]) l[k] from ⟨x, xg, rfl, hsx.below hbr, hrx.below hbr⟩)
      clear hsx hrx hbr
      by_cases hin : termR l[k] = true
      · have HI := Lib.hid hin
        clear hin
        go_wp2_with fail
        refine (i_noterm l[k] _ _ HX.out).mono ?_
        rintro e w1 ⟨rfl, hb1⟩
        rw [HI.out]
        have HB1 := Lib.hid (HB.out.trans (hb1.mono HB.out.size))
        go_wp2_with fail
        exact ⟨⟨k + 1, by omega, by go_num, all_take' hlt HT.out HI.out, HB1.out⟩, by simp [RowKit.intOf]; omega⟩
      · have HI := Lib.hid (Bool.not_eq_true _ ▸ hin)
        clear hin
        go_wp2_with fail
        refine (i_noterm l[k] _ _ HX.out).mono ?_
        rintro e w1 ⟨rfl, hb1⟩
        rw [HI.out]
        have HB1 := Lib.hid (HB.out.trans (hb1.mono HB.out.size))
        go_wp2_with fail
        go_ret
        exact ⟨.inr ⟨all_not' hlt HI.out, k, rfl⟩, HB1.out⟩
    · obtain rfl : k = l.length := by omega
      clear hbr
      go_wp2
      go_ret
      refine ⟨.inl ⟨?_, rfl⟩, HB.out⟩
      have h := HT.out
      rw [List.take_length] at h
      exact h
set_option maxRecDepth 100000 in
theorem i_containstm (l : List Tm) (a : Value) (w : World) (hv : Tms w a l) :
    Calls Try.prog 93 #[a, .func (.func 94) #[] #[]] w (Quiet w (.bool (!l.all termR))) := by
  have HV := Lib.hid hv
  clear hv
  go_enter Try.func93, Try.ntmps93
  go_wp2_with fail
  refine (i_indextm l a _ HV.out).mono ?_
  rintro e w1 ⟨⟨hs, rfl⟩ | ⟨hs, k, rfl⟩, hb⟩
  · have HS := Lib.hid hs
    clear hs
    go_wp2_with fail
    go_ret
    exact ⟨ret_bool (by rw [HS.out]; rfl), hb⟩
  · have HS := Lib.hid hs
    clear hs
    have h0 : (0 : Int) ≤ (k : Int) := by omega
    go_wp2_with fail
    go_ret
    exact ⟨ret_bool (by rw [HS.out]; rfl), hb⟩
end Go.Proofs.Ytjijgagdaolkcaa
/- The program's gens of a term: a value behind an interface; sums of them. -/
namespace Go.Proofs.Ytjijgagdaolkcaa
open Go Go.RowKit Go.Lib

/-- The value behind the interface. -/
def gensV : List (List Int) → Value
  | [] => .iface 123 (.agg #[])
  | [g] => .iface 125 (.agg #[.int .i64 (ptOf g).1, .int .i64 (ptOf g).2, .int .i64 0])
  | g :: h :: _ => .iface 127 (.agg #[.int .i64 (ptOf g).1, .int .i64 (ptOf g).2, .int .i64 0, .int .i64 (ptOf h).1, .int .i64 (ptOf h).2, .int .i64 0])

set_option maxRecDepth 100000 in
set_option maxHeartbeats 1600000 in
theorem i_gensof0 (s : Int) (sh : List Int) (v : Value) (w : World) (hv : Tv w v (s, sh, [])) :
    Calls Try.prog 91 #[v] w (Quiet w (gensV [])) := by
  obtain ⟨u, g, rfl, hs, ht⟩ := hv
  obtain ⟨ga, gc, e, gm, _⟩ := ht.shape
  simp only [List.length_nil] at e
  subst e
  have K := Lib.hid (Bk.new w #[.int .i64 s, u, .slice ga 0 gc] 49)
  have B0 := Lib.hid (below1 w (.cells #[.int .i64 s, u, .slice ga 0 gc] 49))
  clear hs ht gm
  obtain ⟨⟨c0, c1, c2⟩, -⟩ := K.out.tri
  go_enter Try.func91, Try.ntmps91
  go_wp2
  go_ret
  exact ⟨rfl, B0.out⟩
set_option maxRecDepth 100000 in
set_option maxHeartbeats 1600000 in
theorem i_gensof1 (s : Int) (sh : List Int) (p : P2) (v : Value) (w : World) (hv : Tv w v (s, sh, [rowOf p])) :
    Calls Try.prog 91 #[v] w (Quiet w (gensV [rowOf p])) := by
  obtain ⟨u, g, rfl, hs, ht⟩ := hv
  obtain ⟨b, off, gc, x, rfl, hb, hc, hx⟩ := rw_one ht
  have HX := Lib.hid hx
  have K := Lib.hid (Bk.new w #[.int .i64 s, u, .slice (some ⟨b, off, none⟩) 1 gc] 49)
  have B0 := Lib.hid (below1 w (.cells #[.int .i64 s, u, .slice (some ⟨b, off, none⟩) 1 gc] 49))
  clear hs ht hx
  obtain ⟨⟨c0, c1, c2⟩, -⟩ := K.out.tri
  rw [← B0.out.cell (p := ⟨b, off, none⟩) hb] at hc
  have i1 : (0 : Int) < 1 := by omega
  go_enter Try.func91, Try.ntmps91
  go_wp2_with fail
  refine (i_numP p _ _ (HX.out.below B0.out)).mono ?_
  rintro e w1 ⟨rfl, hb1⟩
  unfold ptV
  have B1 := Lib.hid (B0.out.trans (hb1.mono B0.out.size))
  clear hb1
  go_wp2
  go_ret
  exact ⟨rfl, B1.out⟩
set_option maxRecDepth 100000 in
set_option maxHeartbeats 1600000 in
theorem i_gensof2 (s : Int) (sh : List Int) (p q : P2) (v : Value) (w : World) (hv : Tv w v (s, sh, [rowOf p, rowOf q])) :
    Calls Try.prog 91 #[v] w (Quiet w (gensV [rowOf p, rowOf q])) := by
  obtain ⟨u, g, rfl, hs, ht⟩ := hv
  obtain ⟨b, off, gc, x, y, rfl, hb, hc0, hc1, hx, hy⟩ := rw_two ht
  have K := Lib.hid (Bk.new w #[.int .i64 s, u, .slice (some ⟨b, off, none⟩) 2 gc] 49)
  have B0 := Lib.hid (below1 w (.cells #[.int .i64 s, u, .slice (some ⟨b, off, none⟩) 2 gc] 49))
  generalize hw0 : w.alloc (.cells #[.int .i64 s, u, .slice (some ⟨b, off, none⟩) 2 gc] 49) = w0 at K B0
  have CX := Lib.hid (fun W (h : Below w0.heap.size w0 W) => i_numP p x W ((hx.below B0.out).below h))
  have CY := Lib.hid (fun W (h : Below w0.heap.size w0 W) => i_numP q y W ((hy.below B0.out).below h))
  clear hs ht hx hy
  obtain ⟨⟨c0, c1, c2⟩, -⟩ := K.out.tri
  rw [← B0.out.cell (p := ⟨b, off, none⟩) hb] at hc0
  rw [← B0.out.cell (p := ⟨b, off + 1, none⟩) hb] at hc1
  have LB := Lib.hid (Nat.lt_of_lt_of_le hb B0.out.size)
  have LK := Lib.hid K.out.lt
  have i1 : (0 : Int) < 2 := by omega
  have i2 : (1 : Int) < 2 := by omega
  go_enter Try.func91, Try.ntmps91
  go_wp2_with fail
  clear hw0
  go_region_held3 (fun w' => w'.cell? ⟨w.heap.size, 2, none⟩ = some (.slice (some ⟨b, off, none⟩) 2 gc) ∧ w'.cell? ⟨b, off, none⟩ = some x ∧ w'.cell? ⟨b, off + 1, none⟩ = some y ∧ Below w0.heap.size w0 w')
    (first | with_reducible exact keepF3 c2 hc0 hc1 (Below.refl _ _) | (go_split_ands; with_reducible exact keepE3 LK.out LB.out LB.out (by assumption) (by assumption) (by assumption) (by assumption) (by assumption)) | go_keep)
    (first | (go_at_call 82; (with_reducible refine (CX.out _ (Below.refl _ _).drew).mono ?_); rintro e w3 ⟨rfl, hb3⟩; unfold ptV) | (go_at_call 82; (with_reducible refine (CY.out _ (drew_below hb3)).mono ?_); rintro e w4 ⟨rfl, hb4⟩; unfold ptV))
  rename_i hH
  have B9 := Lib.hid (B0.out.trans (hH.2.2.2.mono B0.out.size))
  clear hH
  go_wp2
  go_ret
  exact ⟨rfl, B9.out⟩
theorem i_gensof (t : Tm) (ht : termR t = true) (v : Value) (w : World) (hv : Tv w v t) :
    Calls Try.prog 91 #[v] w (Quiet w (gensV t.2.2)) := by
  obtain ⟨h1, _, _, _, h5⟩ := termR_t ht
  obtain ⟨s, sh, gs⟩ := t
  match gs, h5 with
  | [], _ => exact i_gensof0 s sh v w hv
  | [g], _ =>
    have g1 := (genR_t (h1 0 (by simp))).2.2.2.1
    simp only [List.getElem_cons_zero] at g1
    have := i_gensof1 s sh (ptOf g) v w (by rw [g1]; exact hv)
    rw [g1] at this
    exact this
  | [g, h], _ =>
    have g1 := (genR_t (h1 0 (by simp))).2.2.2.1
    have g2 := (genR_t (h1 1 (by simp))).2.2.2.1
    simp only [List.getElem_cons_zero, List.getElem_cons_succ] at g1 g2
    have := i_gensof2 s sh (ptOf g) (ptOf h) v w (by rw [g1, g2]; exact hv)
    rw [g1, g2] at this
    exact this
  | _ :: _ :: _ :: _, h => simp at h

set_option maxRecDepth 100000 in
theorem i_factor (n d : Int) (hn : -1000000 ≤ n ∧ n ≤ 1000000) (hd : d ≠ 0) (w : World) :
    Calls Try.prog 118 #[.int .i64 n, .int .i64 d] w (Quiet w (.bool (whole n d))) := by
  have d0 : ¬ d = 0 := hd
  have d1 : (d == 0) = false := by rw [beq_eq_false_iff_ne]; exact hd
  have q := quo_bdT (d := d) hn
  have wq : IntKind.i64.wrap (n.tdiv d) = n.tdiv d := IntWalk.i64_in _ (by omega)
  have E := Lib.hid (show whole n d = (decide (n.tmod d = 0) && decide (0 ≤ n.tdiv d)) from rfl)
  clear q hn hd
  by_cases m1 : n.tmod d = 0
  · have m1' : (n.tmod d == 0) = true := by rw [beq_iff_eq]; exact m1
    have E2 := Lib.hid (show whole n d = decide (0 ≤ n.tdiv d) by rw [E.out, decide_eq_true m1]; rfl)
    go_enter Try.func118, Try.ntmps118
    go_wp2
    go_ret
    exact ⟨ret_bool (by rw [E2.out]), Below.refl _ _⟩
  · have m1' : (n.tmod d == 0) = false := by rw [beq_eq_false_iff_ne]; exact m1
    have E2 := Lib.hid (show whole n d = false by rw [E.out, decide_eq_false m1]; rfl)
    go_enter Try.func118, Try.ntmps118
    go_wp2
    go_ret
    exact ⟨ret_bool E2.out.symm, Below.refl _ _⟩

theorem prodT4 {a b : Int} (h1 : -4000 ≤ a ∧ a ≤ 4000) (h2 : -4000 ≤ b ∧ b ≤ 4000) : -16000000 ≤ a * b ∧ a * b ≤ 16000000 := mul_bd h1.1 h1.2 h2.1 h2.2
set_option maxRecDepth 100000 in
set_option maxHeartbeats 800000 in
theorem i_dotP (p q : P2) (hp : BdP 4000 p) (hq : BdP 4000 q) (w : World) :
    Calls Try.prog 117 #[.agg #[.int .i64 p.1, .int .i64 p.2, .int .i64 0], .agg #[.int .i64 q.1, .int .i64 q.2, .int .i64 0]] w (Quiet w (.int .i64 (p.1 * q.1 + p.2 * q.2))) := by
  obtain ⟨p1, p2⟩ := prodT4 hp.1 hq.1
  obtain ⟨p3, p4⟩ := prodT4 hp.2 hq.2
  clear hp hq
  obtain ⟨a, b⟩ := p
  obtain ⟨x, y⟩ := q
  simp only at *
  go_enter Try.func117, Try.ntmps117
  go_wp2
  refine wp_loop_rounds 4 ?_
  rw [rounds_succ]
  go_wp2
  go_region
  go_wp2
  rw [rounds_succ]
  go_wp2
  go_region
  go_wp2
  rw [rounds_succ]
  go_wp2
  go_region
  go_wp2
  rw [rounds_succ]
  go_wp2
  go_ret
  exact ⟨ret_int (by omega), by first | exact (((below2 w _ _).drew).drew).drew⟩

theorem as_00 (v : Value) (w : World) : (Instr.typeAssert (.iface 123 v) 107 123 true).run Try.prog w = .ok (.tuple #[v, .bool true]) w := by kernel_rfl
theorem as_10 (v : Value) (w : World) : (Instr.typeAssert (.iface 125 v) 107 123 true).run Try.prog w = .ok (.tuple #[.agg #[], .bool false]) w := by kernel_rfl
theorem as_11 (v : Value) (w : World) : (Instr.typeAssert (.iface 125 v) 107 125 true).run Try.prog w = .ok (.tuple #[v, .bool true]) w := by kernel_rfl
theorem as_20 (v : Value) (w : World) : (Instr.typeAssert (.iface 127 v) 107 123 true).run Try.prog w = .ok (.tuple #[.agg #[], .bool false]) w := by kernel_rfl
theorem as_21 (v : Value) (w : World) : (Instr.typeAssert (.iface 127 v) 107 125 true).run Try.prog w = .ok (.tuple #[.agg #[.int .i64 0, .int .i64 0, .int .i64 0], .bool false]) w := by kernel_rfl
theorem as_22 (v : Value) (w : World) : (Instr.typeAssert (.iface 127 v) 107 127 true).run Try.prog w = .ok (.tuple #[v, .bool true]) w := by kernel_rfl
theorem Bk.six {w : World} {b : Nat} {x y z x' y' z' : Value} {T : TypeId} (h : Bk w b #[x, y, z, x', y', z'] T) : w.cell? ⟨b, 0, none⟩ = some x ∧ w.cell? ⟨b, 1, none⟩ = some y ∧ w.cell? ⟨b, 2, none⟩ = some z ∧ w.cell? ⟨b, 3, none⟩ = some x' ∧ w.cell? ⟨b, 4, none⟩ = some y' ∧ w.cell? ⟨b, 5, none⟩ = some z' :=
  ⟨h.cell 0 rfl, h.cell 1 rfl, h.cell 2 rfl, h.cell 3 rfl, h.cell 4 rfl, h.cell 5 rfl⟩
set_option maxRecDepth 100000 in
set_option maxHeartbeats 1600000 in
theorem i_sumof0 (d : P2) (w : World) :
    Calls Try.prog 90 #[gensV [], .agg #[.int .i64 d.1, .int .i64 d.2, .int .i64 0]] w (Quiet w (.bool (hitsR [] d))) := by
  unfold gensV
  obtain ⟨p, q⟩ := d
  simp only
  have a0 := as_00
  by_cases hz : p = 0 ∧ q = 0 ∧ (0 : Int) = 0
  · have E2 := Lib.hid (show hitsR [] (p, q) = true by rw [hz.1, hz.2.1]; rfl)
    have hq := eq_arr_t (x := p) (y := q) (z := 0) (x' := 0) (y' := 0) (z' := 0) hz
    clear hz
    go_enter Try.func90, Try.ntmps90
    go_wp2
    go_ret
    exact ⟨ret_bool E2.out.symm, below2 w _ _⟩
  · have E2 := Lib.hid (show hitsR [] (p, q) = false by show decide ((p, q) = ((0, 0) : P2)) = false; rw [decide_eq_false (fun h => hz ⟨congrArg Prod.fst h, congrArg Prod.snd h, rfl⟩)])
    have hq := eq_arr_f (x := p) (y := q) (z := 0) (x' := 0) (y' := 0) (z' := 0) hz
    clear hz
    go_enter Try.func90, Try.ntmps90
    go_wp2
    go_ret
    exact ⟨ret_bool E2.out.symm, below2 w _ _⟩

set_option maxRecDepth 100000 in
set_option maxHeartbeats 3200000 in
theorem i_sumof1 (g d : P2) (hG : BdP 30 g) (hg0 : g ≠ (0, 0)) (hD : BdP 2000 d) (w : World) :
    Calls Try.prog 90 #[.iface 125 (.agg #[.int .i64 g.1, .int .i64 g.2, .int .i64 0]), .agg #[.int .i64 d.1, .int .i64 d.2, .int .i64 0]] w (Quiet w (.bool (hits1 g d))) := by
  have E := Lib.hid (hits1_D (d := d) hg0)
  have bA : -120000 ≤ d.1 * g.1 + d.2 * g.2 ∧ d.1 * g.1 + d.2 * g.2 ≤ 120000 := by
    have a := mul_bd hD.1.1 hD.1.2 hG.1.1 hG.1.2
    have b := mul_bd hD.2.1 hD.2.2 hG.2.1 hG.2.2
    omega
  have c0 := sq_pos hg0
  have w4 : ∀ {n : Int} {p : P2}, n ≤ 4000 → BdP n p → BdP 4000 p := fun h k => by unfold BdP at *; omega
  have C1 := Lib.hid (fun W => i_dotP d g (w4 (by omega) hD) (w4 (by omega) hG) W)
  have C2 := Lib.hid (fun W => i_dotP g g (w4 (by omega) hG) (w4 (by omega) hG) W)
  obtain ⟨n, hn⟩ : ∃ n, quoD g d = n := ⟨_, rfl⟩
  rw [hn] at E
  have hn2 : (d.1 * g.1 + d.2 * g.2).tdiv (g.1 * g.1 + g.2 * g.2) = n := hn
  have nb : -120000 ≤ n ∧ n ≤ 120000 := by rw [← hn2]; exact quo_bdT bA
  obtain ⟨p, q⟩ := d
  obtain ⟨x, y⟩ := g
  simp only at *
  have m1 := mul_bd nb.1 nb.2 hG.1.1 hG.1.2
  have m2 := mul_bd nb.1 nb.2 hG.2.1 hG.2.2
  simp only at m1 m2
  have C3 := Lib.hid (fun W => i_addtP 0 0 0 n x y 0 W (by omega) (by omega) (by omega) (by omega) (by omega) (by omega))
  obtain ⟨nx, hnx⟩ : ∃ r, 0 + n * x = r := ⟨_, rfl⟩
  obtain ⟨ny, hny⟩ : ∃ r, 0 + n * y = r := ⟨_, rfl⟩
  obtain ⟨nz, hnz⟩ : ∃ r, 0 + n * 0 = r := ⟨_, rfl⟩
  rw [hnx, hny, hnz] at C3
  have E := Lib.hid (show hits1 (x, y) (p, q) = (decide (0 ≤ n) && decide ((p, q) = (nx, ny))) by rw [E.out, ← hnx, ← hny, Int.zero_add, Int.zero_add])
  have ez : nz = 0 := by rw [← hnz]; simp
  subst ez
  clear hnx hny hnz
  generalize p * x + q * y = A at C1 hn2 bA
  generalize x * x + y * y = C at C2 hn2 c0
  have d0 : ¬ C = 0 := by omega
  have d1 : (C == 0) = false := by rw [beq_eq_false_iff_ne]; omega
  have wn : IntKind.i64.wrap n = n := IntWalk.i64_in _ (by omega)
  have a0 := as_10
  have a1 := as_11
  have KK := Lib.hid (Bk.pair w #[.int .i64 p, .int .i64 q, .int .i64 0] #[.int .i64 x, .int .i64 y, .int .i64 0] 85 125)
  have BB := Lib.hid (below2 w (.cells #[.int .i64 p, .int .i64 q, .int .i64 0] 85) (.cells #[.int .i64 x, .int .i64 y, .int .i64 0] 125))
  clear hn m1 m2 nb bA c0 hG hD hg0
  go_enter Try.func90, Try.ntmps90
  go_wp2_with fail
  refine wgen ?_
  intro w0 hw0
  have KK := Lib.hid (show Bk w0 w.heap.size #[.int .i64 p, .int .i64 q, .int .i64 0] 85 ∧ Bk w0 (w.heap.size + 1) #[.int .i64 x, .int .i64 y, .int .i64 0] 125 by rw [hw0]; exact KK.out)
  have BB := Lib.hid (show Below w.heap.size w w0 by rw [hw0]; exact BB.out)
  clear hw0
  obtain ⟨⟨k0, k1, k2⟩, -⟩ := KK.out.1.tri
  obtain ⟨⟨l0, l1, l2⟩, -⟩ := KK.out.2.tri
  have L1 := Lib.hid KK.out.1.lt
  have L2 := Lib.hid KK.out.2.lt
  go_region_held3 (fun w' => w'.cell? ⟨w.heap.size, 0, none⟩ = some (.int .i64 p) ∧ w'.cell? ⟨w.heap.size, 1, none⟩ = some (.int .i64 q) ∧ w'.cell? ⟨w.heap.size, 2, none⟩ = some (.int .i64 0) ∧ w'.cell? ⟨w.heap.size + 1, 0, none⟩ = some (.int .i64 x) ∧ w'.cell? ⟨w.heap.size + 1, 1, none⟩ = some (.int .i64 y) ∧ w'.cell? ⟨w.heap.size + 1, 2, none⟩ = some (.int .i64 0) ∧ Below w0.heap.size w0 w')
    (first | with_reducible exact keepF6 k0 k1 k2 l0 l1 l2 (Below.refl _ _) | (go_split_ands; with_reducible exact keepE6 L1.out L1.out L1.out L2.out L2.out L2.out (by assumption) (by assumption) (by assumption) (by assumption) (by assumption) (by assumption) (by assumption) (by assumption)) | go_keep)
    (first | (go_at_call 117; (with_reducible refine (C1.out _).mono ?_); rintro e w3 ⟨rfl, hb3⟩) | (go_at_call 117; (with_reducible refine (C2.out _).mono ?_); rintro e w4 ⟨rfl, hb4⟩))
  rename_i hH
  obtain ⟨w5, hw5⟩ : ∃ w5, w5 = w4 := ⟨_, rfl⟩
  subst hw5
  have B5 := Lib.hid (BB.out.trans (hH.2.2.2.2.2.2.mono BB.out.size))
  have K5 := Lib.hid (And.intro (KK.out.1.below hH.2.2.2.2.2.2) (KK.out.2.below hH.2.2.2.2.2.2))
  clear hH hb3 hb4 k0 k1 k2 l0 l1 l2 L1 L2
  obtain ⟨⟨k0, k1, k2⟩, -⟩ := K5.out.1.tri
  obtain ⟨⟨l0, l1, l2⟩, -⟩ := K5.out.2.tri
  have L1 := Lib.hid K5.out.1.lt
  have L2 := Lib.hid K5.out.2.lt
  by_cases hp : 0 ≤ n
  · have hpb : decide (0 ≤ n) = true := decide_eq_true hp
    by_cases he : p = nx ∧ q = ny ∧ (0 : Int) = 0
    · skip
      have E2 := Lib.hid (show hits1 (x, y) (p, q) = true by rw [E.out, decide_eq_true hp]; simp only [Bool.true_and]; exact decide_eq_true (by rw [he.1, he.2.1]))
      have hq := eq_arr_t (x := p) (y := q) (z := 0) (x' := nx) (y' := ny) (z' := 0) he
      clear he
      go_wp2_with fail
      go_region_held3 (fun w' => w'.cell? ⟨w.heap.size, 0, none⟩ = some (.int .i64 p) ∧ w'.cell? ⟨w.heap.size, 1, none⟩ = some (.int .i64 q) ∧ w'.cell? ⟨w.heap.size, 2, none⟩ = some (.int .i64 0) ∧ w'.cell? ⟨w.heap.size + 1, 0, none⟩ = some (.int .i64 x) ∧ w'.cell? ⟨w.heap.size + 1, 1, none⟩ = some (.int .i64 y) ∧ w'.cell? ⟨w.heap.size + 1, 2, none⟩ = some (.int .i64 0) ∧ Below w5.heap.size w5 w')
        (first | with_reducible exact keepF6 k0 k1 k2 l0 l1 l2 (Below.refl _ _) | (go_split_ands; with_reducible exact keepE6 L1.out L1.out L1.out L2.out L2.out L2.out (by assumption) (by assumption) (by assumption) (by assumption) (by assumption) (by assumption) (by assumption) (by assumption)) | go_keep)
        (first | (go_at_call 73; (with_reducible refine (C3.out _).mono ?_); rintro e w6 ⟨rfl, hb6⟩))
      rename_i hH
      have B6 := Lib.hid (B5.out.trans (hH.2.2.2.2.2.2.mono B5.out.size))
      clear hH
      go_wp2_with fail
      go_ret
      exact ⟨ret_bool E2.out.symm, B6.out⟩
    · skip
      have E2 := Lib.hid (show hits1 (x, y) (p, q) = false by rw [E.out, decide_eq_true hp]; simp only [Bool.true_and]; exact decide_eq_false (fun h => he ⟨congrArg Prod.fst h, congrArg Prod.snd h, rfl⟩))
      have hq := eq_arr_f (x := p) (y := q) (z := 0) (x' := nx) (y' := ny) (z' := 0) he
      clear he
      go_wp2_with fail
      go_region_held3 (fun w' => w'.cell? ⟨w.heap.size, 0, none⟩ = some (.int .i64 p) ∧ w'.cell? ⟨w.heap.size, 1, none⟩ = some (.int .i64 q) ∧ w'.cell? ⟨w.heap.size, 2, none⟩ = some (.int .i64 0) ∧ w'.cell? ⟨w.heap.size + 1, 0, none⟩ = some (.int .i64 x) ∧ w'.cell? ⟨w.heap.size + 1, 1, none⟩ = some (.int .i64 y) ∧ w'.cell? ⟨w.heap.size + 1, 2, none⟩ = some (.int .i64 0) ∧ Below w5.heap.size w5 w')
        (first | with_reducible exact keepF6 k0 k1 k2 l0 l1 l2 (Below.refl _ _) | (go_split_ands; with_reducible exact keepE6 L1.out L1.out L1.out L2.out L2.out L2.out (by assumption) (by assumption) (by assumption) (by assumption) (by assumption) (by assumption) (by assumption) (by assumption)) | go_keep)
        (first | (go_at_call 73; (with_reducible refine (C3.out _).mono ?_); rintro e w6 ⟨rfl, hb6⟩))
      rename_i hH
      have B6 := Lib.hid (B5.out.trans (hH.2.2.2.2.2.2.mono B5.out.size))
      clear hH
      go_wp2_with fail
      go_ret
      exact ⟨ret_bool E2.out.symm, B6.out⟩
  · have E2 := Lib.hid (show hits1 (x, y) (p, q) = false by rw [E.out, decide_eq_false hp]; rfl)
    have hpb : decide (0 ≤ n) = false := decide_eq_false hp
    go_wp2_with fail
    go_quiet (fail)
    go_wp2_with fail
    go_ret
    exact ⟨ret_bool E2.out.symm, below_drewN' B5.out _⟩

set_option maxRecDepth 100000 in
set_option maxHeartbeats 3200000 in
theorem i_sumof2 (g h d : P2) (hG : BdP 30 g) (hH : BdP 30 h) (h0 : crP g h ≠ 0) (hD : BdP 2000 d) (w : World) :
    Calls Try.prog 90 #[.iface 127 (.agg #[.int .i64 g.1, .int .i64 g.2, .int .i64 0, .int .i64 h.1, .int .i64 h.2, .int .i64 0]), .agg #[.int .i64 d.1, .int .i64 d.2, .int .i64 0]] w (Quiet w (.bool (hits2 g h d))) := by
  have bA := cr_bdT hD hH
  have bB := cr_bdT hG hD
  have w4 : ∀ {n : Int} {p : P2}, n ≤ 4000 → BdP n p → BdP 4000 p := fun h k => by unfold BdP at *; omega
  have C1 := Lib.hid (fun W => (show Calls _ _ _ _ (Quiet W (.int .i64 (crP g h))) from i_pdet g h (w4 (by omega) hG) (w4 (by omega) hH) W))
  have C2 := Lib.hid (fun W => (show Calls _ _ _ _ (Quiet W (.int .i64 (crP d h))) from i_pdet d h (w4 (by omega) hD) (w4 (by omega) hH) W))
  have C3 := Lib.hid (fun W => (show Calls _ _ _ _ (Quiet W (.int .i64 (crP g d))) from i_pdet g d (w4 (by omega) hG) (w4 (by omega) hD) W))
  have E := Lib.hid (show hits2 g h d = (whole (crP d h) (crP g h) && whole (crP g d) (crP g h)) from rfl)
  have F1 := Lib.hid (fun W => i_factor (crP d h) (crP g h) (by omega) h0 W)
  have F2 := Lib.hid (fun W => i_factor (crP g d) (crP g h) (by omega) h0 W)
  generalize hits2 g h d = R at E ⊢
  generalize whole (crP d h) (crP g h) = r1 at E F1
  generalize whole (crP g d) (crP g h) = r2 at E F2
  generalize crP g h = D at *
  generalize crP d h = A at *
  generalize crP g d = B at *
  clear bA bB hG hH hD
  obtain ⟨p, q⟩ := d
  obtain ⟨x, y⟩ := g
  obtain ⟨z, t⟩ := h
  unfold ptV at C1 C2 C3
  simp only at *
  have a0 := as_20
  have a1 := as_21
  have a2 := as_22
  have KK := Lib.hid (Bk.pair w #[.int .i64 p, .int .i64 q, .int .i64 0] #[.int .i64 x, .int .i64 y, .int .i64 0, .int .i64 z, .int .i64 t, .int .i64 0] 85 127)
  have BB := Lib.hid (below2 w (.cells #[.int .i64 p, .int .i64 q, .int .i64 0] 85) (.cells #[.int .i64 x, .int .i64 y, .int .i64 0, .int .i64 z, .int .i64 t, .int .i64 0] 127))
  go_enter Try.func90, Try.ntmps90
  go_wp2_with fail
  refine (C1.out _).mono ?_
  rintro e w1 ⟨rfl, hb⟩
  have B1 := Lib.hid (BB.out.trans (hb.mono BB.out.size))
  have K1 := Lib.hid (And.intro (KK.out.1.below hb) (KK.out.2.below hb))
  clear hb
  obtain ⟨⟨k0, k1, k2⟩, -⟩ := K1.out.1.tri
  obtain ⟨l0, l1, l2, l3, l4, l5⟩ := K1.out.2.six
  go_wp2_with fail
  refine (C2.out _).mono ?_
  rintro e w2 ⟨rfl, hb⟩
  have B2 := Lib.hid (B1.out.trans (hb.mono B1.out.size))
  have K2 := Lib.hid (And.intro (K1.out.1.below hb) (K1.out.2.below hb))
  clear hb k0 k1 k2 l0 l1 l2 l3 l4 l5
  go_wp2_with fail
  refine (F1.out _).mono ?_
  rintro e w3 ⟨rfl, hb⟩
  have B3 := Lib.hid (B2.out.trans (hb.mono B2.out.size))
  have K3 := Lib.hid (And.intro (K2.out.1.below hb) (K2.out.2.below hb))
  clear hb
  cases r1
  · have E2 := Lib.hid (show R = false by rw [E.out]; rfl)
    go_wp2_with fail
    go_ret
    exact ⟨ret_bool E2.out.symm, B3.out⟩
  have E2 := Lib.hid (show R = r2 by rw [E.out]; rfl)
  obtain ⟨⟨k0, k1, k2⟩, -⟩ := K3.out.1.tri
  obtain ⟨l0, l1, l2, l3, l4, l5⟩ := K3.out.2.six
  go_wp2_with fail
  refine (C3.out _).mono ?_
  rintro e w4' ⟨rfl, hb⟩
  have B4 := Lib.hid (B3.out.trans (hb.mono B3.out.size))
  clear hb k0 k1 k2 l0 l1 l2 l3 l4 l5
  go_wp2_with fail
  refine (F2.out _).mono ?_
  rintro e w5 ⟨rfl, hb⟩
  have B5 := Lib.hid (B4.out.trans (hb.mono B4.out.size))
  clear hb
  go_wp2_with fail
  go_ret
  exact ⟨ret_bool E2.out.symm, B5.out⟩

theorem i_sumof (t : Tm) (ht : termR t = true) (d : P2) (hD : BdP 2000 d) (w : World) :
    Calls Try.prog 90 #[gensV t.2.2, ptV d] w (Quiet w (.bool (hitsR t.2.2 d))) := by
  obtain ⟨h1, h2, _, _, h5⟩ := termR_t ht
  obtain ⟨s, sh, gs⟩ := t
  have bd30 : ∀ {p : P2}, Cn30 p → BdP 30 p := fun h => h
  match gs, h5 with
  | [], _ => exact i_sumof0 d w
  | [g], _ =>
    have k1 := genR_t (h1 0 (by simp))
    simp only [List.getElem_cons_zero] at k1
    exact i_sumof1 (ptOf g) d (bd30 k1.2.2.1) k1.2.2.2.2 hD w
  | [g, h], _ =>
    have k1 := genR_t (h1 0 (by simp))
    have k2 := genR_t (h1 1 (by simp))
    simp only [List.getElem_cons_zero, List.getElem_cons_succ] at k1 k2
    exact i_sumof2 (ptOf g) (ptOf h) d (bd30 k1.2.2.1) (bd30 k2.2.2.1) (h2 rfl) hD w
  | _ :: _ :: _ :: _, h => simp at h
end Go.Proofs.Ytjijgagdaolkcaa
/- The model's terms: the value at a point; series of terms; how many there are. -/
namespace Go.Proofs.Ytjijgagdaolkcaa
open Go Go.RowKit Go.Lib

theorem termAt_f {t : Tm} {x : List Int} (h : ¬ (termR t = true ∧ planeR x = true)) : termAtR t x = 0 := if_neg fun k => h ⟨k.1, k.2.1⟩
theorem termAt_e {t : Tm} {x : List Int} (h1 : termR t = true) (h2 : planeR x = true) : termAtR t x = if hitsR t.2.2 (lessP (ptOf x) (ptOf t.2.1)) = true then t.1 else 0 := by
  unfold termAtR
  rw [h1, h2]
  simp
theorem less_bd {x y : P2} (h : (-1000 ≤ x.1 ∧ x.1 ≤ 1000) ∧ -1000 ≤ x.2 ∧ x.2 ≤ 1000) (k : (-1000 ≤ y.1 ∧ y.1 ≤ 1000) ∧ -1000 ≤ y.2 ∧ y.2 ≤ 1000) : BdP 2000 (lessP x y) := by
  unfold BdP lessP
  simp only
  omega
theorem bd1000 {x : P2} (h : (-1000 ≤ x.1 ∧ x.1 ≤ 1000) ∧ -1000 ≤ x.2 ∧ x.2 ≤ 1000) : Bd (rowOf x) 1000 := (show BdP 1000 x from h).bd

set_option maxRecDepth 100000 in
set_option maxHeartbeats 3200000 in
theorem s_termat (t : Tm) (x : List Int) (v a : Value) (w : World) (hv : Tv w v t) (hx : Sl w a (intVals x)) :
    Calls Try.prog 39 #[v, a] w (Quiet w (.int .i64 (termAtR t x))) := by
  have HV := Lib.hid hv
  have HX := Lib.hid hx
  obtain ⟨u, g, rfl, hs, ht⟩ := hv
  obtain ⟨ga, gc, rfl, gm, _⟩ := ht.shape
  obtain ⟨ua, uc, rfl, um, _⟩ := hs.shape
  obtain ⟨xa, xc, rfl, xm, _⟩ := hx.shape
  simp only [intVals_len] at um xm hs HX HV ⊢
  unfold maxLen at um xm gm
  have HS := Lib.hid hs
  have HT := Lib.hid ht
  have K := Lib.hid (Bk.new w #[.int .i64 t.1, .slice ua t.2.1.length uc, .slice ga t.2.2.length gc] 49)
  have B0 := Lib.hid (below1 w (.cells #[.int .i64 t.1, .slice ua t.2.1.length uc, .slice ga t.2.2.length gc] 49))
  clear hs ht hx
  obtain ⟨⟨c0, c1, c2⟩, -⟩ := K.out.tri
  go_enter Try.func39, Try.ntmps39
  go_wp2_with fail
  refine (s_term t _ _ (HV.out.below B0.out)).mono ?_
  rintro e w1 ⟨rfl, hb1⟩
  have B1 := Lib.hid (B0.out.trans (hb1.mono B0.out.size))
  have K1 := Lib.hid (K.out.below hb1)
  clear hb1 c0 c1 c2
  cases h1 : termR t
  · have E := Lib.hid (termAt_f (t := t) (x := x) (fun h => by rw [h1] at h; exact absurd h.1 (by decide)))
    clear h1
    go_wp2_with fail
    go_ret
    exact ⟨ret_int E.out.symm, B1.out⟩
  have T1 := Lib.hid h1
  clear h1
  go_wp2_with fail
  refine (s_isv x _ _ (HX.out.below B1.out)).mono ?_
  rintro e w2 ⟨rfl, hb1⟩
  have B2 := Lib.hid (B1.out.trans (hb1.mono B1.out.size))
  have K2 := Lib.hid (K1.out.below hb1)
  clear hb1
  cases h2 : isV x
  · have E := Lib.hid (termAt_f (t := t) (x := x) (fun h => by unfold planeR at h; rw [h2] at h; exact absurd h.2 (by simp)))
    clear h2
    go_wp2_with fail
    go_ret
    exact ⟨ret_int E.out.symm, B2.out⟩
  by_cases h3 : x.length = 2
  case neg =>
    have E := Lib.hid (termAt_f (t := t) (x := x) (fun h => by unfold planeR at h; rw [decide_eq_false h3] at h; exact absurd h.2 (by simp)))
    have i3 : ((x.length : Int) == 2) = false := by rw [beq_eq_false_iff_ne]; omega
    have i3p : ¬ (x.length : Int) = 2 := by omega
    clear h2 h3
    go_wp2_with fail
    go_ret
    exact ⟨ret_int E.out.symm, B2.out⟩
  have PX := Lib.hid (show planeR x = true by unfold planeR; rw [h2, decide_eq_true h3]; rfl)
  have E := Lib.hid (termAt_e T1.out PX.out)
  have QX := Lib.hid (planeR_t PX.out)
  have i3 : ((x.length : Int) == 2) = true := by rw [beq_iff_eq]; omega
  have i3p : (x.length : Int) = 2 := by omega
  clear h2 h3
  have TT := Lib.hid (termR_t T1.out)
  have QS := Lib.hid (planeR_t TT.out.2.2.2.1)
  have CL := Lib.hid (fun W (hb : Below w2.heap.size w2 W) => (show Calls _ _ _ _ (Made W (rowOf (lessP (ptOf x) (ptOf t.2.1)))) from s_lessP (rowOf (ptOf x)) (rowOf (ptOf t.2.1)) rfl (by simp [rowOf]) 1000 (by omega) (bd1000 QX.out.2.2.2) (bd1000 QS.out.2.2.2) (.slice xa x.length xc) (.slice ua t.2.1.length uc) W (by rw [QX.out.2.2.1]; exact (HX.out.below B2.out).below hb) (by rw [QS.out.2.2.1]; exact (HS.out.below B2.out).below hb)))
  have CH := Lib.hid (fun b W (hb : Below w2.heap.size w2 W) (hx : Sl W b (intVals (rowOf (lessP (ptOf x) (ptOf t.2.1))))) => s_hits t.2.2 (lessP (ptOf x) (ptOf t.2.1)) TT.out.1 TT.out.2.2.2.2 TT.out.2.1 (less_bd QX.out.2.2.2 QS.out.2.2.2) (.slice ga t.2.2.length gc) b W ((HT.out.below B2.out).below hb) hx)
  have L2 := Lib.hid K2.out.lt
  obtain ⟨⟨c0, c1, c2⟩, -⟩ := K2.out.tri
  go_wp2_with fail
  go_region_held3 (fun w' => w'.cell? ⟨w.heap.size, 1, none⟩ = some (.slice ua t.2.1.length uc) ∧ w'.cell? ⟨w.heap.size, 2, none⟩ = some (.slice ga t.2.2.length gc) ∧ Below w2.heap.size w2 w')
    (first | with_reducible exact keepF c1 c2 (Below.refl _ _) | (go_split_ands; with_reducible exact keepE L2.out L2.out (by assumption) (by assumption) (by assumption) (by assumption)) | go_keep)
    (first | (go_at_call 75; refine (CL.out _ (Below.refl _ _).drew).mono ?_; rintro e w3 ⟨⟨sv, rfl, ho⟩, hb1⟩) | (go_at_call 92; refine (CH.out _ _ (drew_below hb1) ho.sl).mono ?_; rintro e w4 ⟨rfl, hb2⟩))
  rename_i hH
  obtain ⟨w5, hw5⟩ : ∃ w5, w5 = w4 := ⟨_, rfl⟩
  subst hw5
  have HB3 := Lib.hid (B2.out.trans (hH.2.2.mono B2.out.size))
  have HK3 := Lib.hid (K2.out.below hH.2.2)
  clear hH hb1 hb2 ho c0 c1 c2
  obtain ⟨⟨c0, c1, c2⟩, -⟩ := HK3.out.tri
  cases hh : hitsR t.2.2 (lessP (ptOf x) (ptOf t.2.1))
  · have E2 := Lib.hid (show termAtR t x = 0 by rw [E.out, hh]; rfl)
    go_wp2_with fail
    go_ret
    exact ⟨ret_int E2.out.symm, HB3.out⟩
  · have E2 := Lib.hid (show termAtR t x = t.1 by rw [E.out, hh]; rfl)
    go_wp2_with fail
    go_ret
    exact ⟨ret_int E2.out.symm, HB3.out⟩

theorem allT_e {ts : List Tm} (h : ts.all termR = true) : allT ts = decide (ts.length ≤ 60) := by unfold allT; rw [h]; rfl
theorem allT_f {ts : List Tm} {k : Nat} (hk : k < ts.length) (h : termR ts[k] = false) : allT ts = false := by unfold allT; rw [all_not' hk h]; rfl
set_option maxRecDepth 100000 in
set_option maxHeartbeats 1600000 in
theorem s_all10 (ts : List Tm) (v : Value) (w : World) (hv : Tms w v ts) :
    Calls Try.prog 95 #[v] w (Quiet w (.bool (allT ts))) := by
  have HV := Lib.hid hv
  obtain ⟨a, c, rfl, hm⟩ := hv.shape
  unfold maxLen at hm
  clear hv
  go_enter Try.func95, Try.ntmps95
  go_wp2
  go_loopw [3] (fun i wr => ∃ k : Nat, k ≤ ts.length ∧ i = .int .i64 k ∧ (ts.take k).all termR = true ∧ Below w.heap.size w wr) (fun i _ => ts.length - (RowKit.intOf i).toNat)
  case atStart => exact ⟨0, Nat.zero_le _, rfl, rfl, Below.refl _ _⟩
  case round =>
    obtain ⟨k, hk, rfl, hall, hbr⟩ := hrel
    have HB := Lib.hid hbr
    have HA := Lib.hid hall
    clear hall
    by_cases hlt : k < ts.length
    · obtain ⟨b, off, x, xg, rfl, _, hb2, hcell, hcell1, hcell2, hsx, hrx⟩ := HV.out.term k hlt rfl
      rw [← hbr.cell (p := ⟨b, off + k * 3, none⟩) hb2] at hcell
      rw [← hbr.cell (p := ⟨b, off + k * 3 + 1, none⟩) hb2] at hcell1
      rw [← hbr.cell (p := ⟨b, off + k * 3 + 2, none⟩) hb2] at hcell2
      have HX := Lib.hid (show Tv _ (.agg #[.int .i64 ts[k].1, x, xg]) ts[k] from ⟨x, xg, rfl, hsx.below hbr, hrx.below hbr⟩)
      clear hsx hrx hbr
      go_wp2_with fail
      refine (s_term ts[k] _ _ HX.out).mono ?_
      rintro e w1 ⟨rfl, hb1⟩
      have HB1 := Lib.hid (HB.out.trans (hb1.mono HB.out.size))
      clear hb1
      cases h1 : termR ts[k]
      · have E := Lib.hid (allT_f hlt h1)
        clear h1
        go_wp2_with fail
        go_ret
        exact ⟨ret_bool E.out.symm, HB1.out⟩
      have H1 := Lib.hid h1
      clear h1
      go_wp2_with fail
      exact ⟨⟨k + 1, by omega, by go_num, all_take' hlt HA.out H1.out, HB1.out⟩, by simp [RowKit.intOf]; omega⟩
    · obtain rfl : k = ts.length := by omega
      have E := Lib.hid (allT_e (ts := ts) (by have := HA.out; rw [List.take_length] at this; exact this))
      clear hbr
      go_wp2
      go_ret
      exact ⟨ret_bool (by rw [E.out]; exact decide_eq_decide.2 (by omega)), HB.out⟩

set_option maxRecDepth 100000 in
set_option maxHeartbeats 1600000 in
theorem s_seriesat (ts : List Tm) (x : List Int) (v a : Value) (w : World) (hv : Tms w v ts) (hx : Sl w a (intVals x)) :
    Calls Try.prog 41 #[v, a] w (Quiet w (.int .i64 (seriesAtR ts x))) := by
  have HV := Lib.hid hv
  have HX := Lib.hid hx
  obtain ⟨va, vc, rfl, hm⟩ := hv.shape
  unfold maxLen at hm
  clear hv hx
  cases h1 : allT ts
  · have E := Lib.hid (show seriesAtR ts x = 0 by unfold seriesAtR; rw [h1]; rfl)
    have H1 := Lib.hid h1
    clear h1
    by_cases h0 : 0 < ts.length
    · have i0 : (0 : Int) < (ts.length : Int) := by omega
      go_enter Try.func41, Try.ntmps41
      go_wp2
      refine wp_loop_rounds 1 ?_
      rw [rounds_succ]
      go_wp2_with fail
      refine (s_all10 ts _ _ HV.out).mono ?_
      rintro e w1 ⟨rfl, hb1⟩
      rw [H1.out]
      go_wp2_with fail
      go_ret
      exact ⟨ret_int E.out.symm, hb1⟩
    · have i0 : ¬ (0 : Int) < (ts.length : Int) := by omega
      go_enter Try.func41, Try.ntmps41
      go_wp2
      refine wp_loop_rounds 1 ?_
      rw [rounds_succ]
      go_wp2_with fail
      go_ret
      exact ⟨ret_int E.out.symm, Below.refl _ _⟩
  have E := Lib.hid (show seriesAtR ts x = sumT ts x by unfold seriesAtR; rw [h1]; rfl)
  have H1 := Lib.hid h1
  have h60 : ts.length ≤ 60 := by unfold allT at h1; rw [Bool.and_eq_true] at h1; exact of_decide_eq_true h1.2
  clear h1
  go_enter Try.func41, Try.ntmps41
  go_wp2
  go_loopw [5, 6] (fun q i wr => ∃ k : Nat, k ≤ ts.length ∧ i = .int .i64 k ∧ q = .int .i64 (sumT (ts.take k) x) ∧ Below w.heap.size w wr) (fun _ i _ => ts.length - (RowKit.intOf i).toNat)
  case atStart => exact ⟨0, Nat.zero_le _, rfl, rfl, Below.refl _ _⟩
  case round =>
    obtain ⟨k, hk, rfl, rfl, hbr⟩ := hrel
    have HB := Lib.hid hbr
    by_cases hlt : k < ts.length
    · obtain ⟨b, off, y, yg, rfl, _, hb2, hcell, hcell1, hcell2, hsx, hrx⟩ := HV.out.term k hlt rfl
      have HY := Lib.hid (show Tv _ (.agg #[.int .i64 ts[k].1, y, yg]) ts[k] from ⟨y, yg, rfl, hsx.below hbr, hrx.below hbr⟩)
      have C0 := Lib.hid ((hbr.cell (p := ⟨b, off + k * 3, none⟩) hb2).trans hcell)
      have C1 := Lib.hid ((hbr.cell (p := ⟨b, off + k * 3 + 1, none⟩) hb2).trans hcell1)
      have C2 := Lib.hid ((hbr.cell (p := ⟨b, off + k * 3 + 2, none⟩) hb2).trans hcell2)
      have LB := Lib.hid (Nat.lt_of_lt_of_le hb2 hbr.size)
      have BD := Lib.hid (sumT_bd ts x k (by omega))
      have BT := Lib.hid (termAt_bd ts[k] x)
      have ST := Lib.hid (sumT_take (x := x) hlt)
      clear hsx hrx hbr hcell hcell1 hcell2
      obtain ⟨s, hs⟩ : ∃ s, sumT (ts.take k) x = s := ⟨_, rfl⟩
      rw [hs] at BD ST ⊢
      obtain ⟨q, hq⟩ : ∃ q, termAtR ts[k] x = q := ⟨_, rfl⟩
      have CT := Lib.hid (fun v W (h1 : Tv W v ts[k]) (h2 : Sl W a (intVals x)) => (show Calls _ _ _ _ (Quiet W (.int .i64 q)) by rw [← hq]; exact s_termat ts[k] x v a W h1 h2))
      rw [hq] at BT ST
      clear hs hq
      have hw : IntKind.i64.wrap (s + q) = s + q := IntWalk.i64_in _ (by have := BD.out; have := BT.out; omega)
      go_wp2_with fail
      refine (s_all10 ts _ _ (HV.out.since HB.out)).mono ?_
      rintro e w1 ⟨rfl, hb1⟩
      rw [H1.out]
      have HB1 := Lib.hid (HB.out.trans (hb1.mono HB.out.size))
      have c0 := (hb1.cell (p := ⟨b, off + k * 3, none⟩) LB.out).trans C0.out
      have c1 := (hb1.cell (p := ⟨b, off + k * 3 + 1, none⟩) LB.out).trans C1.out
      have c2 := (hb1.cell (p := ⟨b, off + k * 3 + 2, none⟩) LB.out).trans C2.out
      have HY1 := Lib.hid (HY.out.below hb1)
      clear hb1
      go_wp2_with fail
      refine (CT.out _ _ HY1.out (HX.out.below HB1.out)).mono ?_
      rintro e w2 ⟨rfl, hb1⟩
      have HB2 := Lib.hid (HB1.out.trans (hb1.mono HB1.out.size))
      clear hb1 c0 c1 c2
      go_wp2_with fail
      exact ⟨⟨k + 1, by omega, by go_num, by rw [ST.out], HB2.out⟩, by simp [RowKit.intOf]; omega⟩
    · obtain rfl : k = ts.length := by omega
      have E2 := Lib.hid (show sumT (ts.take ts.length) x = seriesAtR ts x by rw [List.take_length, E.out])
      rw [E2.out]
      clear hbr
      go_wp2
      go_ret
      exact ⟨rfl, HB.out⟩

set_option maxRecDepth 100000 in
set_option maxHeartbeats 1600000 in
theorem s_count (ts : List Tm) (v : Value) (w : World) (hv : Tms w v ts) (hl : ts.length ≤ 4611686018427387904) :
    Calls Try.prog 45 #[v] w (Quiet w (.int .i64 (countR ts))) := by
  have HV := Lib.hid hv
  obtain ⟨va, vc, rfl, hm⟩ := hv.shape
  unfold maxLen at hm
  clear hv
  go_enter Try.func45, Try.ntmps45
  go_wp2
  go_loopw [3, 4] (fun q i wr => ∃ k : Nat, k ≤ ts.length ∧ i = .int .i64 k ∧ q = .int .i64 (countR (ts.take k)) ∧ Below w.heap.size w wr) (fun _ i _ => ts.length - (RowKit.intOf i).toNat)
  case atStart => exact ⟨0, Nat.zero_le _, rfl, rfl, Below.refl _ _⟩
  case round =>
    obtain ⟨k, hk, rfl, rfl, hbr⟩ := hrel
    have HB := Lib.hid hbr
    by_cases hlt : k < ts.length
    · obtain ⟨b, off, y, yg, rfl, _, hb2, hcell, hcell1, hcell2, hsx, hrx⟩ := HV.out.term k hlt rfl
      rw [← hbr.cell (p := ⟨b, off + k * 3, none⟩) hb2] at hcell
      have BD := Lib.hid (count_bd ts k (by omega))
      have ST := Lib.hid (count_take hlt)
      clear hsx hrx hbr hcell1 hcell2
      obtain ⟨s, hs⟩ : ∃ s, countR (ts.take k) = s := ⟨_, rfl⟩
      rw [hs] at BD ST ⊢
      have bd := BD.out
      clear hs
      by_cases h1 : ts[k].1 = -1
      · have i1 : (ts[k].1 == -1) = true := by rw [beq_iff_eq]; exact h1
        have E := Lib.hid (show countR (ts.take (k + 1)) = s - 1 by rw [ST.out, if_pos h1]; omega)
        rw [h1] at hcell
        go_wp2_with fail
        refine (bit_of' _ _).mono ?_
        rintro e w1 ⟨rfl, rfl⟩
        go_wp2_with fail
        exact ⟨⟨k + 1, by omega, by go_num, by rw [E.out]; exact int_eq (by omega), HB.out⟩, by simp [RowKit.intOf]; omega⟩
      · have i1 : (ts[k].1 == -1) = false := by rw [beq_eq_false_iff_ne]; exact h1
        have E := Lib.hid (show countR (ts.take (k + 1)) = s + 1 by rw [ST.out, if_neg h1])
        go_wp2_with fail
        refine (bit_of' _ _).mono ?_
        rintro e w1 ⟨rfl, rfl⟩
        go_wp2_with fail
        exact ⟨⟨k + 1, by omega, by go_num, by rw [E.out], HB.out⟩, by simp [RowKit.intOf]; omega⟩
    · obtain rfl : k = ts.length := by omega
      have E2 := Lib.hid (show countR (ts.take ts.length) = countR ts by rw [List.take_length])
      rw [E2.out]
      clear hbr
      go_wp2
      go_ret
      exact ⟨rfl, HB.out⟩
end Go.Proofs.Ytjijgagdaolkcaa
/- The program's terms: the value at a point; series of terms; how many there are. -/
namespace Go.Proofs.Ytjijgagdaolkcaa
open Go Go.RowKit Go.Lib

set_option maxRecDepth 100000 in
set_option maxHeartbeats 3200000 in
theorem i_termat (t : Tm) (x : List Int) (v a : Value) (w : World) (hv : Tv w v t) (hx : Sl w a (intVals x)) :
    Calls Try.prog 38 #[v, a] w (Quiet w (.int .i64 (termAtR t x))) := by
  have HV := Lib.hid hv
  have HX := Lib.hid hx
  obtain ⟨u, g, rfl, hs, ht⟩ := hv
  have HS := Lib.hid hs
  have K := Lib.hid (Bk.new w #[.int .i64 t.1, u, g] 49)
  have B0 := Lib.hid (below1 w (.cells #[.int .i64 t.1, u, g] 49))
  clear hs ht hx
  obtain ⟨⟨c0, c1, c2⟩, -⟩ := K.out.tri
  go_enter Try.func38, Try.ntmps38
  go_wp2_with fail
  refine (i_term t _ _ (HV.out.below B0.out)).mono ?_
  rintro e w1 ⟨rfl, hb1⟩
  have B1 := Lib.hid (B0.out.trans (hb1.mono B0.out.size))
  have K1 := Lib.hid (K.out.below hb1)
  clear hb1 c0 c1 c2
  cases h1 : termR t
  · have E := Lib.hid (termAt_f (t := t) (x := x) (fun h => by rw [h1] at h; exact absurd h.1 (by decide)))
    clear h1
    go_wp2_with fail
    go_ret
    exact ⟨ret_int E.out.symm, B1.out⟩
  have T1 := Lib.hid h1
  clear h1
  go_wp2_with fail
  refine (i_plane x _ _ (HX.out.below B1.out)).mono ?_
  rintro e w2 ⟨rfl, hb1⟩
  have B2 := Lib.hid (B1.out.trans (hb1.mono B1.out.size))
  have K2 := Lib.hid (K1.out.below hb1)
  clear hb1
  cases h2 : (isV x && decide (x.length = 2))
  · have E := Lib.hid (termAt_f (t := t) (x := x) (fun h => by have k : planeR x = false := h2; rw [k] at h; exact absurd h.2 (by decide)))
    clear h2
    go_wp2_with fail
    go_ret
    exact ⟨ret_int E.out.symm, B2.out⟩
  have PX := Lib.hid (show planeR x = true from h2)
  have E := Lib.hid (termAt_e T1.out PX.out)
  have QX := Lib.hid (planeR_t PX.out)
  clear h2
  have TT := Lib.hid (termR_t T1.out)
  have QS := Lib.hid (planeR_t TT.out.2.2.2.1)
  obtain ⟨px, hpx⟩ : ∃ px, ptOf x = px := ⟨_, rfl⟩
  obtain ⟨ps, hps⟩ : ∃ ps, ptOf t.2.1 = ps := ⟨_, rfl⟩
  rw [hpx] at QX E
  rw [hps] at QS E
  have bx := QX.out.2.2.2
  have bs := QS.out.2.2.2
  have CG := Lib.hid (fun W (hb : Below w2.heap.size w2 W) => i_gensof t T1.out (.agg #[.int .i64 t.1, u, g]) W ((HV.out.below B2.out).below hb))
  have CX := Lib.hid (fun W (hb : Below w2.heap.size w2 W) => i_numP px a W (by rw [QX.out.2.2.1]; exact (HX.out.below B2.out).below hb))
  have CS := Lib.hid (fun W (hb : Below w2.heap.size w2 W) => i_numP ps u W (by rw [QS.out.2.2.1]; exact (HS.out.below B2.out).below hb))
  have CA := Lib.hid (fun W => (show Calls Try.prog 73 #[ptV px, .int .i64 (-1), ptV ps] W (Quiet W (ptV (lessP px ps))) from (i_addtP px.1 px.2 0 (-1) ps.1 ps.2 0 W (by omega) (by omega) (by omega) (by omega) (by omega) (by omega)).mono (by
    rintro e w' ⟨rfl, hb⟩
    refine ⟨?_, hb⟩
    unfold ptV lessP
    rw [show px.1 + -1 * ps.1 = px.1 - ps.1 by omega, show px.2 + -1 * ps.2 = px.2 - ps.2 by omega]
    rfl)))
  have CH := Lib.hid (fun W => i_sumof t T1.out (lessP px ps) (less_bd bx bs) W)
  obtain ⟨hh, hhh⟩ : ∃ hh, hitsR t.2.2 (lessP px ps) = hh := ⟨_, rfl⟩
  rw [hhh] at E CH
  generalize gensV t.2.2 = GV at CG CH
  generalize ptV (lessP px ps) = VD at CA CH
  generalize ptV px = VX at CX CA
  generalize ptV ps = VS at CS CA
  have L2 := Lib.hid K2.out.lt
  obtain ⟨⟨c0, c1, c2⟩, -⟩ := K2.out.tri
  clear bx bs hpx hps hhh
  go_wp2_with fail
  go_region_held3 (fun w' => w'.cell? ⟨w.heap.size, 0, none⟩ = some (.int .i64 t.1) ∧ w'.cell? ⟨w.heap.size, 1, none⟩ = some u ∧ w'.cell? ⟨w.heap.size, 2, none⟩ = some g ∧ Below w2.heap.size w2 w')
    (first | with_reducible exact keepF3 c0 c1 c2 (Below.refl _ _) | (go_split_ands; with_reducible exact keepE3 L2.out L2.out L2.out (by assumption) (by assumption) (by assumption) (by assumption) (by assumption)) | go_keep)
    (first | (go_at_call 91; (with_reducible refine (CG.out _ (by assumption)).mono ?_); rintro e w3 ⟨rfl, hb3⟩) | (go_at_call 91; (with_reducible refine (CG.out _ (Below.refl _ _).drew).mono ?_); rintro e w3 ⟨rfl, hb3⟩) | (go_at_call 82; (with_reducible refine (CX.out _ (drew_below hb3)).mono ?_); rintro e w4 ⟨rfl, hb4⟩) | (go_at_call 82; (with_reducible refine (CS.out _ ((drew_below hb3).trans (hb4.mono (drew_below hb3).size))).mono ?_); rintro e w5 ⟨rfl, hb5⟩) | (go_at_call 73; (with_reducible refine (CA.out _).mono ?_); rintro e w6 ⟨rfl, hb6⟩) | (go_at_call 90; (with_reducible refine (CH.out _).mono ?_); rintro e w7 ⟨rfl, hb7⟩))
  rename_i hH
  obtain ⟨w9, hw9⟩ : ∃ w9, w9 = w7 := ⟨_, rfl⟩
  subst hw9
  have HB3 := Lib.hid (B2.out.trans (hH.2.2.2.mono B2.out.size))
  have HK3 := Lib.hid (K2.out.below hH.2.2.2)
  clear hH hb3 hb4 hb5 hb6 hb7 c0 c1 c2
  obtain ⟨⟨c0, c1, c2⟩, -⟩ := HK3.out.tri
  cases hh
  · have E2 := Lib.hid (show termAtR t x = 0 by rw [E.out]; rfl)
    go_wp2_with fail
    go_ret
    exact ⟨ret_int E2.out.symm, HB3.out⟩
  · have E2 := Lib.hid (show termAtR t x = t.1 by rw [E.out]; rfl)
    go_wp2_with fail
    go_ret
    exact ⟨ret_int E2.out.symm, HB3.out⟩

set_option maxRecDepth 100000 in
set_option maxHeartbeats 1600000 in
theorem i_seriesat (ts : List Tm) (x : List Int) (v a : Value) (w : World) (hv : Tms w v ts) (hx : Sl w a (intVals x)) :
    Calls Try.prog 40 #[v, a] w (Quiet w (.int .i64 (seriesAtR ts x))) := by
  have HV := Lib.hid hv
  have HX := Lib.hid hx
  obtain ⟨va, vc, rfl, hm⟩ := hv.shape
  unfold maxLen at hm
  clear hv hx
  by_cases h60 : ts.length ≤ 60
  case neg =>
    have E := Lib.hid (show seriesAtR ts x = 0 from if_neg (fun h => h60 (by unfold allT at h; rw [Bool.and_eq_true] at h; exact of_decide_eq_true h.2)))
    have i0 : (60 : Int) < (ts.length : Int) := by omega
    go_enter Try.func40, Try.ntmps40
    go_wp2_with fail
    go_ret
    exact ⟨ret_int E.out.symm, Below.refl _ _⟩
  have i0 : ¬ (60 : Int) < (ts.length : Int) := by omega
  cases h1 : ts.all termR
  · have E := Lib.hid (show seriesAtR ts x = 0 from if_neg (fun h => by unfold allT at h; rw [h1] at h; exact absurd h (by simp)))
    have H1 := Lib.hid h1
    clear h1
    go_enter Try.func40, Try.ntmps40
    go_wp2_with fail
    refine (i_containstm ts _ _ HV.out).mono ?_
    rintro e w1 ⟨rfl, hb1⟩
    rw [H1.out]
    go_wp2_with fail
    go_ret
    exact ⟨ret_int E.out.symm, hb1⟩
  have E := Lib.hid (show seriesAtR ts x = sumT ts x from if_pos (by unfold allT; rw [h1, decide_eq_true h60]; rfl))
  have H1 := Lib.hid h1
  clear h1
  go_enter Try.func40, Try.ntmps40
  go_wp2_with fail
  refine (i_containstm ts _ _ HV.out).mono ?_
  rintro e w1 ⟨rfl, hb1⟩
  rw [H1.out]
  have B1 := Lib.hid hb1
  clear hb1
  go_wp2_with fail
  go_loopw [5, 17] (fun q i wr => ∃ k : Nat, k ≤ ts.length ∧ i = .int .i64 k ∧ q = .int .i64 (sumT (ts.take k) x) ∧ Below w.heap.size w wr) (fun _ i _ => ts.length - (RowKit.intOf i).toNat)
  case atStart => exact ⟨0, Nat.zero_le _, rfl, rfl, B1.out⟩
  case round =>
    obtain ⟨k, hk, rfl, rfl, hbr⟩ := hrel
    have HB := Lib.hid hbr
    by_cases hlt : k < ts.length
    · obtain ⟨b, off, y, yg, rfl, _, hb2, hcell, hcell1, hcell2, hsx, hrx⟩ := HV.out.term k hlt rfl
      obtain ⟨ya, yc, rfl, _, _⟩ := hsx.shape
      obtain ⟨yga, ygc, rfl, _, _⟩ := hrx.shape
      have HBx := Lib.hid (below1 wr (.cells #[.int .i64 ts[k].1, .slice ya (intVals ts[k].2.1).length yc, .slice yga ts[k].2.2.length ygc] 49))
      have HY := Lib.hid (show Tv _ (.agg #[.int .i64 ts[k].1, .slice ya (intVals ts[k].2.1).length yc, .slice yga ts[k].2.2.length ygc]) ts[k] from ⟨_, _, rfl, (hsx.below hbr).below HBx.out, (hrx.below hbr).below HBx.out⟩)
      rw [← hbr.cell (p := ⟨b, off + k * 3, none⟩) hb2] at hcell
      rw [← hbr.cell (p := ⟨b, off + k * 3 + 1, none⟩) hb2] at hcell1
      rw [← hbr.cell (p := ⟨b, off + k * 3 + 2, none⟩) hb2] at hcell2
      have BD := Lib.hid (sumT_bd ts x k (by omega))
      have BT := Lib.hid (termAt_bd ts[k] x)
      have ST := Lib.hid (sumT_take (x := x) hlt)
      have HB1 := Lib.hid (HB.out.trans (HBx.out.mono HB.out.size))
      clear hsx hrx hbr
      obtain ⟨s, hs⟩ : ∃ s, sumT (ts.take k) x = s := ⟨_, rfl⟩
      rw [hs] at BD ST ⊢
      obtain ⟨q, hq⟩ : ∃ q, termAtR ts[k] x = q := ⟨_, rfl⟩
      have CT := Lib.hid (fun v W (h1 : Tv W v ts[k]) (h2 : Sl W a (intVals x)) => (show Calls _ _ _ _ (Quiet W (.int .i64 q)) by rw [← hq]; exact i_termat ts[k] x v a W h1 h2))
      rw [hq] at BT ST
      clear hs hq
      have hw : IntKind.i64.wrap (s + q) = s + q := IntWalk.i64_in _ (by have := BD.out; have := BT.out; omega)
      go_wp2_with fail
      refine (CT.out _ _ HY.out (HX.out.below HB1.out)).mono ?_
      rintro e w2 ⟨rfl, hb1⟩
      have HB2 := Lib.hid (HB1.out.trans (hb1.mono HB1.out.size))
      clear hb1
      go_wp2_with fail
      exact ⟨⟨k + 1, by omega, by go_num, by rw [ST.out], HB2.out⟩, by simp [RowKit.intOf]; omega⟩
    · obtain rfl : k = ts.length := by omega
      have E2 := Lib.hid (show sumT (ts.take ts.length) x = seriesAtR ts x by rw [List.take_length, E.out])
      rw [E2.out]
      clear hbr
      go_wp2
      go_ret
      exact ⟨rfl, HB.out⟩

theorem count2 {ts : List Tm} {k : Nat} (h : k < ts.length) : (ts.length : Int) + (countR (ts.take (k + 1)) - (k + 1 : Nat)) = ((ts.length : Int) + (countR (ts.take k) - k)) - (if ts[k].1 = -1 then (2 : Int) else 0) := by
  rw [count_take h]
  split <;> omega
set_option maxRecDepth 100000 in
set_option maxHeartbeats 1600000 in
theorem i_count (ts : List Tm) (v : Value) (w : World) (hv : Tms w v ts) (hl : ts.length ≤ 2305843009213693952) :
    Calls Try.prog 44 #[v] w (Quiet w (.int .i64 (countR ts))) := by
  have HV := Lib.hid hv
  obtain ⟨va, vc, rfl, hm⟩ := hv.shape
  unfold maxLen at hm
  clear hv
  go_enter Try.func44, Try.ntmps44
  go_wp2_with fail
  go_loopw [3, 10] (fun q i wr => ∃ k : Nat, k ≤ ts.length ∧ i = .int .i64 k ∧ q = .int .i64 ((ts.length : Int) + (countR (ts.take k) - k)) ∧ Below w.heap.size w wr) (fun _ i _ => ts.length - (RowKit.intOf i).toNat)
  case atStart => exact ⟨0, Nat.zero_le _, rfl, int_eq (by simp [countR]), Below.refl _ _⟩
  case round =>
    obtain ⟨k, hk, rfl, rfl, hbr⟩ := hrel
    have HB := Lib.hid hbr
    by_cases hlt : k < ts.length
    · obtain ⟨b, off, y, yg, rfl, _, hb2, hcell, hcell1, hcell2, hsx, hrx⟩ := HV.out.term k hlt rfl
      obtain ⟨ya, yc, rfl, _, _⟩ := hsx.shape
      obtain ⟨yga, ygc, rfl, _, _⟩ := hrx.shape
      have HBx := Lib.hid (below1 wr (.cells #[.int .i64 ts[k].1, .slice ya (intVals ts[k].2.1).length yc, .slice yga ts[k].2.2.length ygc] 49))
      rw [← hbr.cell (p := ⟨b, off + k * 3, none⟩) hb2] at hcell
      rw [← hbr.cell (p := ⟨b, off + k * 3 + 1, none⟩) hb2] at hcell1
      rw [← hbr.cell (p := ⟨b, off + k * 3 + 2, none⟩) hb2] at hcell2
      have BD := Lib.hid (count_bd ts k (by omega))
      have ST := Lib.hid (count2 hlt)
      have HB1 := Lib.hid (HB.out.trans (HBx.out.mono HB.out.size))
      clear hsx hrx hbr
      obtain ⟨s, hs⟩ : ∃ s, (ts.length : Int) + (countR (ts.take k) - k) = s := ⟨_, rfl⟩
      have bs : -9223372036854775800 ≤ s ∧ s ≤ 9223372036854775800 := by rw [← hs]; have := BD.out; omega
      rw [hs] at ST ⊢
      clear hs
      by_cases h1 : ts[k].1 = -1
      · have i1 : (ts[k].1 == -1) = true := by rw [beq_iff_eq]; exact h1
        have E := Lib.hid (show (ts.length : Int) + (countR (ts.take (k + 1)) - (k + 1 : Nat)) = s - 2 by rw [ST.out, if_pos h1])
        have hw : IntKind.i64.wrap (s - 2) = s - 2 := IntWalk.i64_in _ (by omega)
        have HB1 := Lib.hid (show Below w.heap.size w (wr.alloc (.cells #[.int .i64 (-1), .slice ya (intVals ts[k].2.1).length yc, .slice yga ts[k].2.2.length ygc] 49)) by have := HB1.out; rw [h1] at this; exact this)
        rw [h1] at hcell
        go_wp2_with fail
        exact ⟨⟨k + 1, by omega, by go_num, by rw [E.out], HB1.out⟩, by simp [RowKit.intOf]; omega⟩
      · have i1 : (ts[k].1 == -1) = false := by rw [beq_eq_false_iff_ne]; exact h1
        have E := Lib.hid (show (ts.length : Int) + (countR (ts.take (k + 1)) - (k + 1 : Nat)) = s by rw [ST.out, if_neg h1]; omega)
        go_wp2_with fail
        exact ⟨⟨k + 1, by omega, by go_num, by rw [E.out], HB1.out⟩, by simp [RowKit.intOf]; omega⟩
    · obtain rfl : k = ts.length := by omega
      have E2 := Lib.hid (show (ts.length : Int) + (countR (ts.take ts.length) - ts.length) = countR ts by rw [List.take_length]; omega)
      rw [E2.out]
      clear hbr
      go_wp2
      go_ret
      exact ⟨rfl, HB.out⟩
end Go.Proofs.Ytjijgagdaolkcaa
