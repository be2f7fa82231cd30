/- The program's vectors: the functions out of arrays. -/
import Derived.Test.YtoekgcafhcamjaaGreatDoorVecI
import Derived.Test.YtoekgcafhcamjaaGreatDoorMag
import Derived.RegionTactic
namespace Go.Proofs.YtoekgcafhcamjaaGreatDoor
open Go.RowKit Go.Lib

def vecR (l : List Int) : List Int × Bool := if isV l = true then (l, true) else ([], false)
theorem sl_arr (w : World) (x y z : Int) (n : Nat) (hn : n ≤ 3) (T : TypeId) :
    Sl (w.alloc (.cells #[.int .i64 x, .int .i64 y, .int .i64 z] T)) (.slice (some ⟨w.heap.size, 0, none⟩) n 3) (intVals ([x, y, z].take n)) := by
  refine sl_of_cells (by rw [intVals_len, List.length_take]; simp; omega) hn (by unfold maxLen; omega) ?_
  intro i u hi
  have hlt : i < n := by
    by_cases hh : i < n
    · exact hh
    · rw [List.getElem?_eq_none (by rw [intVals_len, List.length_take]; omega)] at hi; cases hi
  have h0 : (⟨w.heap.size, 0, none⟩ : Addr).add i = ⟨w.heap.size, i, none⟩ := by unfold Addr.add; split <;> simp_all
  rw [h0, cell_of_row _ _ i _ _ _ (heap_alloc_new w _), ← hi]
  simp only [intVals, List.getElem?_map, List.getElem?_take_of_lt hlt]
  match i, (by omega : i < 3) with
  | 0, _ => rfl
  | 1, _ => rfl
  | 2, _ => rfl

set_option maxRecDepth 100000 in
set_option maxHeartbeats 400000 in
theorem i_vecof (x y z : Int) (n : Nat) (h1 : 1 ≤ n) (h2 : n ≤ 3) (w : World) :
    Calls Tryz.prog 103 #[.agg #[.int .i64 x, .int .i64 y, .int .i64 z], .int .i64 n] w (Got w (vecR ([x, y, z].take n))) := by
  have HS := Lib.hid (sl_arr w x y z n h2 60)
  have HL := Lib.hid (show ([x, y, z].take n).length = n by rw [List.length_take]; simp; omega)
  generalize hL : [x, y, z].take n = L at HS HL
  have i1 : (0 : Int) ≤ (n : Int) := by omega
  have i2 : (n : Int) ≤ 3 := by omega
  clear hL
  by_cases h : isV L = true
  · have E1 := Lib.hid h
    have ER := Lib.hid (show vecR L = (L, true) from if_pos h)
    clear h
    go_enter Tryz.func103, Tryz.ntmps103
    go_wp2_with fail
    refine (i_isv L _ _ HS.out).mono ?_
    rintro e w1 ⟨rfl, hb1⟩
    rw [E1.out]
    have HB1 := Lib.hid (((Below.refl w.heap.size w).alloc (Nat.le_refl _) _).trans (hb1.mono (by simp)))
    have HS1 := Lib.hid (HS.out.below hb1)
    clear hb1
    go_wp2_with fail
    refine (i_clone L _ _ _ _ (by have := HL.out; omega) (by have := HL.out; omega) HS1.out).mono ?_
    rintro e w2 ⟨⟨v, rfl, ho⟩, hb2⟩
    have HO := Lib.hid (ho.mono HB1.out.size (Nat.le_refl _))
    have HB2 := Lib.hid (HB1.out.trans (hb2.mono HB1.out.size))
    clear hb2 ho
    go_wp2_with fail
    go_ret2
    rw [ER.out]
    exact ⟨⟨_, rfl, HO.out⟩, HB2.out⟩
  · have E1 := Lib.hid (bool_f h)
    have ER := Lib.hid (show vecR L = ([], false) from if_neg h)
    clear h
    go_enter Tryz.func103, Tryz.ntmps103
    go_wp2_with fail
    refine (i_isv L _ _ HS.out).mono ?_
    rintro e w1 ⟨rfl, hb1⟩
    rw [E1.out]
    have HB1 := Lib.hid (((Below.refl w.heap.size w).alloc (Nat.le_refl _) _).trans (hb1.mono (by simp)))
    clear hb1
    go_wp2_with fail
    go_ret2
    rw [ER.out]
    exact ⟨⟨_, rfl, OwnV.nil⟩, HB1.out⟩

theorem tmod_bd {a b M : Int} (hb : ¬ b = 0) (h : -M ≤ b) (h' : b ≤ M) : -M ≤ a.tmod b ∧ a.tmod b ≤ M ∧ (a.tmod b).natAbs < b.natAbs := by
  have h2 : (a.tmod b).natAbs < b.natAbs := by rw [Int.natAbs_tmod]; exact Nat.mod_lt _ (by omega)
  generalize a.tmod b = t at *
  omega
set_option maxRecDepth 100000 in
set_option maxHeartbeats 400000 in
theorem i_alike (u v : List Int) (a b : Value) (w : World) (ha : Sl w a (intVals u)) (hb : Sl w b (intVals v)) :
    Calls Tryz.prog 96 #[a, b] w (Quiet w (.bool (alikeB u v))) := by
  have HA := Lib.hid ha
  have HB := Lib.hid hb
  obtain ⟨a, c, rfl, hm, _⟩ := ha.shape
  obtain ⟨b, d, rfl, hm', _⟩ := hb.shape
  rw [intVals_len] at HA hm
  rw [intVals_len] at HB hm'
  rw [intVals_len, intVals_len]
  unfold maxLen at hm hm'
  clear ha hb
  by_cases h1 : isV u = true
  · by_cases h2 : isV v = true
    · by_cases h3 : u.length = v.length
      · have hq : ((u.length : Int) == (v.length : Int)) = true := by simp [h3]
        have HR := Lib.hid (show alikeB u v = true by unfold alikeB; rw [h1, h2, decide_eq_true h3]; rfl)
        have E1 := Lib.hid h1
        have E2 := Lib.hid h2
        clear h1 h2 h3
        go_enter Tryz.func96, Tryz.ntmps96
        go_wp2_with fail
        refine (i_isv u _ _ HA.out).mono ?_
        rintro e w1 ⟨rfl, hb1⟩
        rw [E1.out]
        go_wp2_with fail
        refine (i_isv v _ _ (HB.out.below hb1)).mono ?_
        rintro e w2 ⟨rfl, hb2⟩
        rw [E2.out]
        have B := Lib.hid (hb1.trans (hb2.mono hb1.size))
        clear hb1 hb2
        go_wp2_with fail
        go_ret
        exact ⟨ret_bool HR.out.symm, B.out⟩
      · have hq : ((u.length : Int) == (v.length : Int)) = false := by rw [beq_eq_false_iff_ne]; omega
        have HR := Lib.hid (show alikeB u v = false by unfold alikeB; rw [h1, h2, decide_eq_false h3]; rfl)
        have E1 := Lib.hid h1
        have E2 := Lib.hid h2
        clear h1 h2 h3
        go_enter Tryz.func96, Tryz.ntmps96
        go_wp2_with fail
        refine (i_isv u _ _ HA.out).mono ?_
        rintro e w1 ⟨rfl, hb1⟩
        rw [E1.out]
        go_wp2_with fail
        refine (i_isv v _ _ (HB.out.below hb1)).mono ?_
        rintro e w2 ⟨rfl, hb2⟩
        rw [E2.out]
        have B := Lib.hid (hb1.trans (hb2.mono hb1.size))
        clear hb1 hb2
        go_wp2_with fail
        go_ret
        exact ⟨ret_bool HR.out.symm, B.out⟩
    · have HR := Lib.hid (show alikeB u v = false by unfold alikeB; rw [h1, bool_f h2]; rfl)
      have E1 := Lib.hid h1
      have E2 := Lib.hid (bool_f h2)
      clear h1 h2
      go_enter Tryz.func96, Tryz.ntmps96
      go_wp2_with fail
      refine (i_isv u _ _ HA.out).mono ?_
      rintro e w1 ⟨rfl, hb1⟩
      rw [E1.out]
      go_wp2_with fail
      refine (i_isv v _ _ (HB.out.below hb1)).mono ?_
      rintro e w2 ⟨rfl, hb2⟩
      rw [E2.out]
      have B := Lib.hid (hb1.trans (hb2.mono hb1.size))
      clear hb1 hb2
      go_wp2_with fail
      go_ret
      exact ⟨ret_bool HR.out.symm, B.out⟩
  · have HR := Lib.hid (show alikeB u v = false by unfold alikeB; rw [bool_f h1]; rfl)
    have E1 := Lib.hid (bool_f h1)
    clear h1
    go_enter Tryz.func96, Tryz.ntmps96
    go_wp2_with fail
    refine (i_isv u _ _ HA.out).mono ?_
    rintro e w1 ⟨rfl, hb1⟩
    rw [E1.out]
    go_wp2_with fail
    go_ret
    exact ⟨ret_bool HR.out.symm, hb1⟩

set_option maxRecDepth 100000 in
set_option maxHeartbeats 400000 in
theorem i_gcd (x y : Int) (h1 : -4611686018427387904 ≤ x) (h2 : x ≤ 4611686018427387904) (h3 : -4611686018427387904 ≤ y) (h4 : y ≤ 4611686018427387904) (w : World) :
    Calls Tryz.prog 110 #[.int .i64 x, .int .i64 y] w (Quiet w (.int .i64 (gcdI x y))) := by
  go_enter Tryz.func110, Tryz.ntmps110
  go_wp2_with fail
  go_loopw [0, 1] (fun p q wr => ∃ a b : Int, -4611686018427387904 ≤ a ∧ a ≤ 4611686018427387904 ∧ -4611686018427387904 ≤ b ∧ b ≤ 4611686018427387904 ∧ p = .int .i64 a ∧ q = .int .i64 b ∧ gcdI a b = gcdI x y ∧ Below w.heap.size w wr) (fun _ q _ => (RowKit.intOf q).natAbs)
  case atStart => exact ⟨x, y, h1, h2, h3, h4, rfl, rfl, rfl, Below.refl _ _⟩
  case round =>
    obtain ⟨a, b, ha, ha', hb, hb', rfl, rfl, hg, hbr⟩ := hrel
    have HG := Lib.hid hg
    have HB := Lib.hid hbr
    clear hg hbr
    by_cases hz : b = 0
    · subst hz
      by_cases h : -a ≤ a
      · have HM := Lib.hid (show a = gcdI a 0 by unfold gcdI; rw [Int.gcd_zero_right]; omega)
        go_wp2
        go_ret
        exact ⟨ret_int (by rw [← HG.out]; exact HM.out), HB.out⟩
      · have HM := Lib.hid (show -a = gcdI a 0 by unfold gcdI; rw [Int.gcd_zero_right]; omega)
        go_wp2
        go_ret
        exact ⟨ret_int (by rw [← HG.out]; exact HM.out), HB.out⟩
    · have hnz : (b != 0) = true := by rw [bne_iff_ne]; omega
      have hz0 : (b == 0) = false := by rw [beq_eq_false_iff_ne]; omega
      have HM := Lib.hid (tmod_bd (a := a) hz hb hb')
      have HS := Lib.hid (gcdI_tmod a b)
      go_wp2
      go_quiet (fail)
      go_wp2
      exact ⟨⟨b, a.tmod b, hb, hb', HM.out.1, HM.out.2.1, rfl, rfl, by rw [HS.out, HG.out], below_drewN' HB.out _⟩, HM.out.2.2⟩

theorem take_add {x y z x' y' z' : Int} (n : Nat) : addL ([x, y, z].take n) ([x', y', z'].take n) = [x + x', y + y', z + z'].take n := by
  unfold addL
  match n with
  | 0 => rfl
  | 1 => rfl
  | 2 => rfl
  | n + 3 => simp
theorem addR_vec {u v : List Int} (h : isV u = true ∧ isV v = true ∧ u.length = v.length) : addR u v = vecR (addL u v) := by
  unfold addR vecR
  by_cases h4 : isV (addL u v) = true
  · rw [if_pos ⟨h.1, h.2.1, h.2.2, h4⟩, if_pos h4]
  · rw [if_neg (fun h => h4 h.2.2.2), if_neg h4]
theorem take_scale {x y z k : Int} (n : Nat) : scaleL ([x, y, z].take n) k = [x * k, y * k, z * k].take n := by
  unfold scaleL
  match n with
  | 0 => rfl
  | 1 => rfl
  | 2 => rfl
  | n + 3 => simp
theorem scaleR_vec {u : List Int} {k : Int} (h : isV u = true ∧ inR k (-1000) 1000 = true) : scaleR u k = vecR (scaleL u k) := by
  unfold scaleR vecR
  by_cases h4 : isV (scaleL u k) = true
  · rw [if_pos ⟨h.1, h.2, h4⟩, if_pos h4]
  · rw [if_neg (fun h => h4 h.2.2), if_neg h4]
set_option maxRecDepth 100000 in
set_option maxHeartbeats 800000 in
theorem i_dotof (u v : List Int) (a b : Value) (w : World) (ha : Sl w a (intVals u)) (hb : Sl w b (intVals v)) :
    Calls Tryz.prog 61 #[a, b] w (Quiet w (.int .i64 (dotR u v))) := by
  have HC := Lib.hid (i_alike u v a b w ha hb)
  by_cases hal : alikeB u v = true
  · obtain ⟨l1, l2, l3⟩ := alikeB_t hal
    obtain ⟨m1, m2, m3⟩ := isV_t l1
    have HR := Lib.hid (show dotR u v = dotL u v from if_pos ⟨l1, l2, l3⟩)
    have HU := Lib.hid (small_bd m3)
    have HV := Lib.hid (small_bd (isV_t l2).2.2)
    have HL := Lib.hid l3
    obtain ⟨a, c, rfl, _, ha⟩ := ha.shape
    obtain ⟨b, d, rfl, _, hb⟩ := hb.shape
    rw [intVals_len] at ha hb
    rw [intVals_len, intVals_len, ← l3]
    rw [intVals_len, intVals_len, ← l3] at HC
    rw [← l3] at hb
    have HA := Lib.hid ha
    have HB0 := Lib.hid hb
    have AL := Lib.hid hal
    clear ha hb hal l1 l2 l3 m3
    go_enter Tryz.func61, Tryz.ntmps61
    go_wp2_with fail
    refine HC.out.mono ?_
    rintro e w1 ⟨rfl, hb1⟩
    rw [AL.out]
    have B1 := Lib.hid hb1
    clear hb1
    go_wp2_with fail
    go_loopw [5, 13] (fun s i wr => ∃ k : Nat, k ≤ u.length ∧ i = .int .i64 k ∧ s = .int .i64 (dotL (u.take k) (v.take k)) ∧ Below w.heap.size w wr) (fun _ i _ => u.length - (RowKit.intOf i).toNat)
    case atStart => exact ⟨0, Nat.zero_le _, rfl, rfl, B1.out⟩
    case round =>
      obtain ⟨k, hk, rfl, rfl, hbr⟩ := hrel
      have HB := Lib.hid hbr
      by_cases hlt : k < u.length
      · have hlt' : k < v.length := by have := HL.out; omega
        obtain ⟨b1, o1, rfl, hc1, hlt1, hx1⟩ := HA.out (by omega)
        obtain ⟨b2, o2, rfl, hc2, hlt2, hx2⟩ := HB0.out (by omega)
        have hcell1 := hx1 k _ (intVals_get u k hlt)
        have hcell2 := hx2 k _ (intVals_get v k hlt')
        rw [← hbr.cell (p := ⟨b1, o1 + k, none⟩) hlt1] at hcell1
        rw [← hbr.cell (p := ⟨b2, o2 + k, none⟩) hlt2] at hcell2
        clear hx1 hx2 hbr
        have i1 : (0 : Int) ≤ (k : Int) := by omega
        have i2 : (k : Int) < (u.length : Int) := by omega
        have MB := Lib.hid (mul_bd (HU.out k hlt).1 (HU.out k hlt).2 (HV.out k hlt').1 (HV.out k hlt').2)
        have DT := Lib.hid (dot_take hlt hlt')
        have DB := Lib.hid (dot_bd (by omega) HU.out HV.out k (by omega) (by omega))
        generalize hS : dotL (u.take k) (v.take k) = sk at DT DB ⊢
        have HS := Lib.hid hS
        clear hS
        go_wp2
        go_quiet (fail)
        go_wp2
        refine ⟨⟨k + 1, by omega, by go_num, ?_, below_drewN' HB.out _⟩, by simp [RowKit.intOf]; omega⟩
        rw [DT.out]
        have e1 := MB.out
        have e2 := DB.out
        rw [w64 (n := u[k] * v[k]) (by omega) (by omega), w64 (by omega) (by omega)]
      · obtain rfl : k = u.length := by omega
        clear hbr
        go_wp2
        go_ret
        exact ⟨ret_int (by rw [HR.out, List.take_length, HL.out, List.take_length]), HB.out⟩
  · have AL := Lib.hid (bool_f hal)
    have HR := Lib.hid (show dotR u v = 0 from if_neg (fun h => alikeB_f hal h))
    clear hal ha hb
    go_enter Tryz.func61, Tryz.ntmps61
    go_wp2_with fail
    refine HC.out.mono ?_
    rintro e w1 ⟨rfl, hb1⟩
    rw [AL.out]
    go_wp2_with fail
    go_ret
    exact ⟨ret_int HR.out.symm, hb1⟩

end Go.Proofs.YtoekgcafhcamjaaGreatDoor
