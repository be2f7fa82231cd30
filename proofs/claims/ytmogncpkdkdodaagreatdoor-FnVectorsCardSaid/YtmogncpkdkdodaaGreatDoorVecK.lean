/- The program's vectors: PrimitiveOf, BeforeVector. -/
import Derived.Test.YtmogncpkdkdodaaGreatDoorVecJ
import Derived.Laws.StructEq
import Derived.Laws.Cover2
namespace Go.Proofs.YtmogncpkdkdodaaGreatDoor
open Go.RowKit Go.Lib

theorem allG_zero {x y z : Int} (n : Nat) (h : x = 0 ∧ y = 0 ∧ z = 0) : allG ([x, y, z].take n) = 0 := by
  obtain ⟨rfl, rfl, rfl⟩ := h
  match n with
  | 0 => rfl
  | 1 => rfl
  | 2 => rfl
  | n + 3 => simp [allG, gcdI]
theorem allG_dvd (v : List Int) : ∀ x ∈ v, allG v ∣ x := by
  have key : ∀ (v : List Int) (g : Int), (v.foldl gcdI g ∣ g) ∧ ∀ x ∈ v, v.foldl gcdI g ∣ x := by
    intro v
    induction v with
    | nil => intro g; exact ⟨Int.dvd_refl _, by simp⟩
    | cons y r ih =>
      intro g
      obtain ⟨h1, h2⟩ := ih (gcdI g y)
      refine ⟨Int.dvd_trans h1 (Int.gcd_dvd_left ..), fun x hx => ?_⟩
      rcases List.mem_cons.1 hx with rfl | hx
      · exact Int.dvd_trans h1 (Int.gcd_dvd_right ..)
      · exact h2 x hx
  exact (key v 0).2
theorem allG_pos {v : List Int} (h : ¬ ∀ x ∈ v, x = 0) : 0 < allG v := by
  have h0 := allG_nonneg v
  by_cases hz : allG v = 0
  · exfalso; apply h
    intro x hx
    have := allG_dvd v x hx
    rw [hz] at this
    exact Int.zero_dvd.1 this
  · omega
theorem pad_zero {v : List Int} {x y z : Int} (e : v = [x, y, z].take v.length) (h3 : v.length < 3 → z = 0) (h2 : v.length < 2 → y = 0) (h1 : 1 ≤ v.length) (h : ∀ u ∈ v, u = 0) : x = 0 ∧ y = 0 ∧ z = 0 := by
  have hx : x ∈ v := by
    rw [e]
    obtain ⟨n, hn⟩ : ∃ n, v.length = n + 1 := ⟨v.length - 1, by omega⟩
    rw [hn]; simp
  refine ⟨h x hx, ?_, ?_⟩
  · by_cases hl : v.length < 2
    · exact h2 hl
    · refine h y ?_
      rw [e]
      obtain ⟨n, hn⟩ : ∃ n, v.length = n + 2 := ⟨v.length - 2, by omega⟩
      rw [hn]; simp
  · by_cases hl : v.length < 3
    · exact h3 hl
    · refine h z ?_
      rw [e]
      obtain ⟨n, hn⟩ : ∃ n, v.length = n + 3 := ⟨v.length - 3, by omega⟩
      rw [hn]; simp
theorem take_prim {x y z g : Int} (n : Nat) : ([x, y, z].take n).map (fun u => u.tdiv g) = [x.tdiv g, y.tdiv g, z.tdiv g].take n := by
  match n with
  | 0 => rfl
  | 1 => rfl
  | 2 => rfl
  | n + 3 => simp
theorem tdiv_bd {x g M : Int} (h1 : -M ≤ x) (h2 : x ≤ M) : -M ≤ x.tdiv g ∧ x.tdiv g ≤ M := by
  have h := Int.natAbs_tdiv_le_natAbs x g
  generalize x.tdiv g = q at *
  omega
theorem small_mk {v : List Int} {n : Int} (h : Bd v n) : small v n = true := by
  unfold small
  rw [List.all_eq_true]
  intro x hx
  obtain ⟨k, hk, rfl⟩ := List.getElem_of_mem hx
  exact inR_mk (h k hk).1 (h k hk).2
theorem isV_prim {v : List Int} (h : isV v = true) : isV (primL v) = true := by
  obtain ⟨h1, h2, h3⟩ := isV_t h
  have hl : (primL v).length = v.length := by simp [primL]
  rw [isV_mk (by omega) (by omega)]
  refine small_mk ?_
  intro k hk
  have hb := small_bd h3 k (by omega)
  simp only [primL, List.getElem_map]
  exact tdiv_bd hb.1 hb.2
theorem primR_vec {u : List Int} (h : isV u = true) (h0 : 0 < allG u) : primR u = vecR (primL u) := by
  unfold primR vecR
  rw [if_pos ⟨h, h0⟩, if_pos (isV_prim h)]
theorem padz {x y z x' y' z' : Int} {u v : List Int} (hl : u.length = v.length) (e : u = [x, y, z].take u.length) (e' : v = [x', y', z'].take v.length) (h : x = x' ∧ y = y' ∧ z = z') : u = v := by
  obtain ⟨rfl, rfl, rfl⟩ := h
  rw [e, e', hl]
theorem pad_same {x y z x' y' z' : Int} {u : List Int} (h : splice [Value.int .i64 0, .int .i64 0, .int .i64 0] 0 (intVals u) = [.int .i64 x, .int .i64 y, .int .i64 z]) (h' : splice [Value.int .i64 0, .int .i64 0, .int .i64 0] 0 (intVals u) = [.int .i64 x', .int .i64 y', .int .i64 z']) : x = x' ∧ y = y' ∧ z = z' := by
  rw [h] at h'
  simpa using h'

theorem eq_arr (x y z x' y' z' : Int) (w : World) : (Op.equalIn 10000 84 (.agg #[.int .i64 x, .int .i64 y, .int .i64 z]) (.agg #[.int .i64 x', .int .i64 y', .int .i64 z'])).run Tryz.prog w = .ok (decide (x = x' ∧ y = y' ∧ z = z')) w := by
  have u3 := Tryz.underlying3
  have a3 := Tryz.isAgg3
  have z3 := Tryz.sizeOf3
  rw [show (10000 : Nat) = 9999 + 1 from rfl, Op.equalIn]
  simp only [Sem.run_bind, run_underlying Tryz.underlying84, Result.andThen_ok]
  simp only [Std.Legacy.Range.forIn_eq_forIn_range', Std.Legacy.Range.size, Nat.sub_zero, Nat.add_sub_cancel, Nat.div_one, List.range'_succ, List.range'_zero, List.forIn_cons, List.forIn_nil]
  go_simp
  by_cases h1 : x = x' <;> by_cases h2 : y = y' <;> by_cases h3 : z = z' <;> simp [h1, h2, h3]
theorem eq_arr_t {x y z x' y' z' : Int} (h : x = x' ∧ y = y' ∧ z = z') (w : World) : (Op.equalIn 10000 84 (.agg #[.int .i64 x, .int .i64 y, .int .i64 z]) (.agg #[.int .i64 x', .int .i64 y', .int .i64 z'])).run Tryz.prog w = .ok true w := by
  rw [eq_arr, decide_eq_true h]
theorem eq_arr_f {x y z x' y' z' : Int} (h : ¬ (x = x' ∧ y = y' ∧ z = z')) (w : World) : (Op.equalIn 10000 84 (.agg #[.int .i64 x, .int .i64 y, .int .i64 z]) (.agg #[.int .i64 x', .int .i64 y', .int .i64 z'])).run Tryz.prog w = .ok false w := by
  rw [eq_arr, decide_eq_false h]

set_option maxRecDepth 100000 in
set_option maxHeartbeats 800000 in
theorem i_primv (u : List Int) (a : Value) (w : World) (ha : Sl w a (intVals u)) :
    Calls Tryz.prog 9 #[a] w (Got w (primR u)) := by
  have HA := Lib.hid ha
  obtain ⟨a, c, rfl, _, _⟩ := ha.shape
  rw [intVals_len] at HA ⊢
  clear ha
  by_cases h1 : isV u = true
  · obtain ⟨m1, m2, m3⟩ := isV_t h1
    obtain ⟨x, y, z, p1, p2, p4, p5, p3⟩ := pad3 u m1 m2
    obtain ⟨a1, a2, a3, a4, a5, a6⟩ := p3 1000 (by omega) (small_bd m3)
    have E1 := Lib.hid h1
    have P1 := Lib.hid p1
    have P2 := Lib.hid p2
    by_cases hz : x = 0 ∧ y = 0 ∧ z = 0
    · have HR := Lib.hid (show primR u = ([], false) from if_neg (fun h => by have h2 := h.2; rw [p2, allG_zero _ hz] at h2; omega))
      obtain ⟨rfl, rfl, rfl⟩ := hz
      have hq := eq_arr_t (x := 0) (y := 0) (z := 0) (x' := 0) (y' := 0) (z' := 0) ⟨rfl, rfl, rfl⟩
      clear h1 m3 p1 p2 p3 p4 p5
      go_enter Tryz.func9, Tryz.ntmps9
      go_wp2_with fail
      refine (i_isv u _ _ HA.out).mono ?_
      rintro e w1 ⟨rfl, hb1⟩
      rw [E1.out]
      have B1 := Lib.hid hb1
      clear hb1
      go_wp2_with fail
      refine (i_num u _ _ _ P1.out m1 m2 _ _ (HA.out.below B1.out)).mono ?_
      rintro e w2 ⟨rfl, hb2⟩
      have B2 := Lib.hid (B1.out.trans (hb2.mono B1.out.size))
      clear hb2
      go_wp2_with fail
      go_ret2
      rw [HR.out]
      exact ⟨⟨_, rfl, OwnV.nil⟩, B2.out⟩
    · have hg : 0 < allG u := allG_pos (fun h => hz (pad_zero p2 p4 p5 m1 h))
      have hgm : max (allG u) 1 = allG u := by omega
      have HR := Lib.hid (show primR u = vecR ([x.tdiv (allG u), y.tdiv (allG u), z.tdiv (allG u)].take u.length) by rw [primR_vec h1 hg, primL, hgm, ← take_prim, ← p2])
      have HG := Lib.hid (show gcdR u = allG u from if_pos h1)
      clear h1 m3 p1 p2 p3 p4 p5 hgm
      generalize allG u = G at hg HR HG
      have d1 := tdiv_bd (g := G) a1 a2
      have d2 := tdiv_bd (g := G) a3 a4
      have d3 := tdiv_bd (g := G) a5 a6
      obtain ⟨d1, e1⟩ := d1
      obtain ⟨d2, e2⟩ := d2
      obtain ⟨d3, e3⟩ := d3
      have hgz : (G == 0) = false := by rw [beq_eq_false_iff_ne]; omega
      have hgn : ¬ G = 0 := by omega
      have hq := eq_arr_f (x' := 0) (y' := 0) (z' := 0) hz
      clear hz
      go_enter Tryz.func9, Tryz.ntmps9
      go_wp2_with fail
      refine (i_isv u _ _ HA.out).mono ?_
      rintro e w1 ⟨rfl, hb1⟩
      rw [E1.out]
      have B1 := Lib.hid hb1
      clear hb1
      go_wp2_with fail
      refine (i_num u _ _ _ P1.out m1 m2 _ _ (HA.out.below B1.out)).mono ?_
      rintro e w2 ⟨rfl, hb2⟩
      have B2 := Lib.hid (B1.out.trans (hb2.mono B1.out.size))
      clear hb2
      go_wp2_with fail
      refine (i_num u _ _ _ P1.out m1 m2 _ _ (HA.out.below B2.out)).mono ?_
      rintro e w3 ⟨rfl, hb3⟩
      have B3 := Lib.hid (B2.out.trans (hb3.mono B2.out.size))
      clear hb3
      go_wp2_with fail
      refine (i_gcdof u _ _ (HA.out.below B3.out)).mono ?_
      rintro e w4 ⟨rfl, hb4⟩
      rw [HG.out]
      have B4 := Lib.hid (B3.out.trans (hb4.mono B3.out.size))
      clear hb4
      go_wp2_with fail
      refine wp_loop_rounds 4 ?_
      rw [rounds_succ]
      go_wp2
      rw [rounds_succ]
      go_wp2
      rw [rounds_succ]
      go_wp2
      rw [rounds_succ]
      go_wp2_with fail
      refine (i_vecof _ _ _ u.length m1 m2 _).mono ?_
      rintro e w5 ⟨⟨r, rfl, ho⟩, hb5⟩
      have B5 := Lib.hid ((B4.out.alloc B4.out.size _).trans (hb5.mono (by have := B4.out.size; simp; omega)))
      have HO := Lib.hid (ho.mono (lo' := w.heap.size) (by have := B4.out.size; simp; omega) (Nat.le_refl _))
      clear hb5 ho
      go_wp2_with fail
      go_ret2
      rw [HR.out]
      exact ⟨⟨_, rfl, HO.out⟩, B5.out⟩
  · have HR := Lib.hid (show primR u = ([], false) from if_neg (fun h => h1 h.1))
    have E1 := Lib.hid (bool_f h1)
    clear h1
    go_enter Tryz.func9, Tryz.ntmps9
    go_wp2_with fail
    refine (i_isv u _ _ HA.out).mono ?_
    rintro e w1 ⟨rfl, hb1⟩
    rw [E1.out]
    go_wp2_with fail
    go_ret2
    rw [HR.out]
    exact ⟨⟨_, rfl, OwnV.nil⟩, hb1⟩

set_option maxRecDepth 100000 in
set_option maxHeartbeats 800000 in
theorem i_beforev (u v : List Int) (a b : Value) (w : World) (ha : Sl w a (intVals u)) (hb : Sl w b (intVals v)) :
    Calls Tryz.prog 23 #[a, b] w (Quiet w (.bool (beforeR u v))) := by
  have HC := Lib.hid (i_alike u v a b w ha hb)
  by_cases hal : alikeB u v = true
  · obtain ⟨l1, l2, l3⟩ := alikeB_t hal
    obtain ⟨m1, m2, m3⟩ := isV_t l1
    have HR := Lib.hid (show beforeR u v = beforeL u v from if_pos ⟨l1, l2, l3⟩)
    obtain ⟨x, y, z, p1, p2, p3, p4, _⟩ := pad3 u m1 m2
    obtain ⟨x', y', z', q1, q2, q3, q4, _⟩ := pad3 v (by omega) (by omega)
    have P1 := Lib.hid p1
    have Q1 := Lib.hid q1
    have SA := Lib.hid ha
    have SB := Lib.hid hb
    have AL := Lib.hid hal
    by_cases hz : x = x' ∧ y = y' ∧ z = z'
    · have hq := eq_arr_t hz
      have HF := Lib.hid (show beforeL u v = false by rw [padz l3 p2 q2 hz]; exact before_end rfl)
      have L3 := Lib.hid l3
      clear ha hb hal hz l1 l2 l3 m3 p1 p2 p3 p4 q1 q2 q3 q4
      go_enter Tryz.func23, Tryz.ntmps23
      go_wp2_with fail
      refine HC.out.mono ?_
      rintro e w1 ⟨rfl, hb1⟩
      rw [AL.out]
      have B1 := Lib.hid hb1
      clear hb1
      go_wp2_with fail
      refine (i_num u x y z P1.out m1 m2 _ _ (SA.out.below B1.out)).mono ?_
      rintro e w2 ⟨rfl, hb2⟩
      have B2 := Lib.hid (B1.out.trans (hb2.mono B1.out.size))
      clear hb2
      go_wp2_with fail
      refine (i_num v x' y' z' Q1.out (by have := L3.out; omega) (by have := L3.out; omega) _ _ (SB.out.below B2.out)).mono ?_
      rintro e w3 ⟨rfl, hb3⟩
      have B3 := Lib.hid (B2.out.trans (hb3.mono B2.out.size))
      clear hb3
      go_wp2_with fail
      go_ret
      exact ⟨ret_bool (by rw [HR.out, HF.out]), B3.out⟩
    · have hq := eq_arr_f hz
      have HN := Lib.hid (fun (e : u = v) => hz (by subst e; exact pad_same p1 q1))
      have L3 := Lib.hid l3
      obtain ⟨a, c, rfl, _, ha⟩ := ha.shape
      obtain ⟨b, d, rfl, _, hb⟩ := hb.shape
      rw [intVals_len] at ha hb SA SB
      rw [intVals_len, intVals_len, ← l3]
      rw [intVals_len, intVals_len, ← l3] at HC
      rw [← l3] at hb
      rw [← l3] at SB
      have HA := Lib.hid ha
      have HB0 := Lib.hid hb
      clear ha hb hal hz l1 l2 l3 m3 p1 p2 p3 p4 q1 q2 q3 q4
      go_enter Tryz.func23, Tryz.ntmps23
      go_wp2_with fail
      refine HC.out.mono ?_
      rintro e w1 ⟨rfl, hb1⟩
      rw [AL.out]
      have B1 := Lib.hid hb1
      clear hb1
      go_wp2_with fail
      refine (i_num u x y z P1.out m1 m2 _ _ (SA.out.below B1.out)).mono ?_
      rintro e w2 ⟨rfl, hb2⟩
      have B2 := Lib.hid (B1.out.trans (hb2.mono B1.out.size))
      clear hb2
      go_wp2_with fail
      refine (i_num v x' y' z' Q1.out (by have := L3.out; omega) (by have := L3.out; omega) _ _ (SB.out.below B2.out)).mono ?_
      rintro e w3 ⟨rfl, hb3⟩
      have B3 := Lib.hid (B2.out.trans (hb3.mono B2.out.size))
      clear hb3
      go_wp2_with fail
      go_loopw [5] (fun i wr => ∃ k : Nat, k ≤ u.length ∧ i = .int .i64 k ∧ u.take k = v.take k ∧ Below w.heap.size w wr) (fun i _ => u.length - (RowKit.intOf i).toNat)
      case atStart => exact ⟨0, Nat.zero_le _, rfl, rfl, B3.out⟩
      case round =>
        obtain ⟨k, hk, rfl, ht, hbr⟩ := hrel
        have HB := Lib.hid hbr
        have HT := Lib.hid ht
        have hlt : k < u.length := by
          by_cases hh : k < u.length
          · exact hh
          · exfalso
            obtain rfl : k = u.length := by omega
            rw [List.take_length, L3.out, List.take_length] at ht
            exact HN.out ht
        clear ht
        have hlt' : k < v.length := by have := L3.out; omega
        obtain ⟨b1, o1, rfl, hc1, hlt1, hx1⟩ := HA.out (by omega)
        obtain ⟨b2, o2, rfl, hc2, hlt2, hx2⟩ := HB0.out (by omega)
        have hcell1 := hx1 k _ (intVals_get u k hlt)
        have hcell2 := hx2 k _ (intVals_get v k hlt')
        rw [← hbr.cell (p := ⟨b1, o1 + k, none⟩) hlt1] at hcell1
        rw [← hbr.cell (p := ⟨b2, o2 + k, none⟩) hlt2] at hcell2
        clear hx1 hx2 hbr
        have i1 : (0 : Int) ≤ (k : Int) := by omega
        have i2 : (k : Int) < (u.length : Int) := by omega
        by_cases heq : u[k] = v[k]
        · have hne : (u[k] == v[k]) = true := by simp [heq]
          have HE := Lib.hid heq
          clear heq
          go_wp2
          go_quiet (fail)
          go_wp2
          refine ⟨⟨k + 1, by omega, by go_num, ?_, below_drewN' HB.out _⟩, by simp [RowKit.intOf]; omega⟩
          rw [List.take_succ_eq_append_getElem hlt, List.take_succ_eq_append_getElem hlt', HT.out, HE.out]
        · have hne : (u[k] == v[k]) = false := by simpa using heq
          have HE := Lib.hid (before_at hlt hlt' HT.out heq)
          clear heq
          go_wp2
          go_quiet (fail)
          go_wp2
          go_quiet (fail)
          go_wp2
          go_ret
          exact ⟨ret_bool (by rw [HR.out]; exact HE.out.symm), below_drewN' (below_drewN' HB.out _) _⟩
  · have AL := Lib.hid (bool_f hal)
    have HR := Lib.hid (show beforeR u v = false from if_neg (fun h => alikeB_f hal h))
    clear hal ha hb
    go_enter Tryz.func23, Tryz.ntmps23
    go_wp2_with fail
    refine HC.out.mono ?_
    rintro e w1 ⟨rfl, hb1⟩
    rw [AL.out]
    go_wp2_with fail
    go_ret
    exact ⟨ret_bool HR.out.symm, hb1⟩
end Go.Proofs.YtmogncpkdkdodaaGreatDoor
