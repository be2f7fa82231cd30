/- The model's Hermite form: its helpers. -/
import Derived.Test.YteenheidomfpkaaMatInv
namespace Go.Proofs.Yteenheidomfpkaa
open Go.RowKit Go.Lib

set_option maxRecDepth 100000 in
set_option maxHeartbeats 400000 in
theorem s_less (u v : List Int) (hl : u.length = v.length) (hm : u.length ≤ 1048576) (n : Int) (hn : n ≤ 2305843009213693952) (hu : Bd u n) (hv' : Bd v n) (a b : Value) (w : World) (ha : Sl w a (intVals u)) (hb : Sl w b (intVals v)) :
    Calls Try.prog 87 #[a, b] w (Made w (lessL u v)) := by
  obtain ⟨a, c, rfl, _, ha⟩ := ha.shape
  obtain ⟨b, d, rfl, _, hb⟩ := hb.shape
  rw [intVals_len] at ha hb
  rw [intVals_len, intVals_len, ← hl]
  rw [← hl] at hb
  obtain ⟨i0, hi, hz0, hz1, hz2⟩ := info_parts info_int'
  have HI := Lib.hid (And.intro hi (And.intro hz0 (And.intro hz1 hz2)))
  have HA := Lib.hid ha
  have HB0 := Lib.hid hb
  have HU := Lib.hid hu
  have HV := Lib.hid hv'
  have HL := Lib.hid hl
  clear ha hb hu hv' hl hi hz0 hz1 hz2
  go_enter Try.func87, Try.ntmps87
  go_wp2
  go_loopw [5, 6] (fun o i wr => ∃ k : Nat, k ≤ u.length ∧ i = .int .i64 k ∧ wr.ownsRow w.heap.size 3 1 o k (intVals (lessL (u.take k) (v.take k))) ∧ Below w.heap.size w wr) (fun _ i _ => u.length - (RowKit.intOf i).toNat)
  case atStart => exact ⟨0, Nat.zero_le _, rfl, owns_none (Nat.le_refl _), (Below.refl _ _).alloc (Nat.le_refl _) _⟩
  case round =>
    obtain ⟨k, hk, rfl, how, hbr⟩ := hrel
    have HW := Lib.hid how
    have HB := Lib.hid hbr
    by_cases hlt : k < u.length
    · have hlt' : k < v.length := by have := HL.out; omega
      obtain ⟨b1, o1, rfl, hc1, hlt1, hx1⟩ := HA.out (by omega)
      obtain ⟨b2, o2, rfl, hc2, hlt2, hx2⟩ := HB0.out (by omega)
      have hcell1 := hx1 k _ (intVals_get u k hlt)
      have hcell2 := hx2 k _ (intVals_get v k hlt')
      rw [← hbr.cell (p := ⟨b1, o1 + k, none⟩) hlt1] at hcell1
      rw [← hbr.cell (p := ⟨b2, o2 + k, none⟩) hlt2] at hcell2
      clear hx1 hx2 hbr how
      have i1 : (0 : Int) ≤ (k : Int) := by omega
      have i2 : (k : Int) < (u.length : Int) := by omega
      have g1 := (HU.out k hlt).1
      have g2 := (HU.out k hlt).2
      have g3 := (HV.out k hlt').1
      have g4 := (HV.out k hlt').2
      have C1 := Lib.hid (show k + 1 ≤ maxLen by unfold maxLen; omega)
      have C2 := Lib.hid (show (k + 1) * 8 ≤ 140737488355328 by omega)
      have ZT := Lib.hid (zip_take (f := fun x y => x - y) hlt hlt')
      go_wp2
      go_region_held3 (fun w' => w'.cell? ⟨b1, o1 + k, none⟩ = some (.int .i64 u[k]) ∧ w'.cell? ⟨b2, o2 + k, none⟩ = some (.int .i64 v[k]))
        (first | go_keep | (go_split_ands; exact ⟨(hbel.cell hlt1).trans (by assumption), (hbel.cell hlt2).trans (by assumption)⟩))
        ((refine step_app_int (by rfl) _ _ (by rfl) w.heap.size _ k (lessL (u.take k) (v.take k)) _ (by rfl) ((HW.out.alloc _).drew) wr.heap.size (by rfl) (heap_alloc_new wr _) (by omega) (by have := HB.out.size; simp; omega) ?_; intro v' w1 hown1 hbel))
      rename_i hH
      have HO1 := Lib.hid hown1
      have HB1 := Lib.hid ((((HB.out.alloc HB.out.size _).drew).trans hbel))
      clear hown1 hbel hH
      go_wp2
      refine ⟨⟨k + 1, by omega, by go_num, ?_, HB1.out⟩, by simp [RowKit.intOf]; omega⟩
      have h := HO1.out
      rw [IntWalk.i64_in _ (by omega)] at h
      unfold lessL
      rw [ZT.out]
      exact h
    · obtain rfl : k = u.length := by omega
      clear hbr how
      go_wp2
      go_ret
      refine ⟨⟨_, rfl, ?_⟩, HB.out⟩
      have h := OwnV.of_owns HW.out
      rw [List.take_length, HL.out, List.take_length] at h
      exact h

set_option maxRecDepth 100000 in
set_option maxHeartbeats 400000 in
theorem s_scale2 (u : List Int) (hm : u.length ≤ 1048576) (z : Int) (hu : Bd (scaleL u z) 4611686018427387904) (a : Value) (w : World) (ha : Sl w a (intVals u)) :
    Calls Try.prog 88 #[a, .int .i64 z] w (Made w (scaleL u z)) := by
  obtain ⟨a, c, rfl, _, ha⟩ := ha.shape
  rw [intVals_len] at ha ⊢
  have HA := Lib.hid ha
  have HU := Lib.hid hu
  clear ha hu
  go_enter Try.func88, Try.ntmps88
  go_wp2
  go_loopw [5, 6] (fun o i wr => ∃ k : Nat, k ≤ u.length ∧ i = .int .i64 k ∧ wr.ownsRow w.heap.size 3 1 o k (intVals (scaleL (u.take k) z)) ∧ Below w.heap.size w wr) (fun _ i _ => u.length - (RowKit.intOf i).toNat)
  case atStart => exact ⟨0, Nat.zero_le _, rfl, owns_none (Nat.le_refl _), (Below.refl _ _).alloc (Nat.le_refl _) _⟩
  case round =>
    obtain ⟨k, hk, rfl, how, hbr⟩ := hrel
    have HW := Lib.hid how
    have HB := Lib.hid hbr
    by_cases hlt : k < u.length
    · obtain ⟨b1, o1, rfl, hc1, hlt1, hx1⟩ := HA.out (by omega)
      have hcell1 := hx1 k _ (intVals_get u k hlt)
      rw [← hbr.cell (p := ⟨b1, o1 + k, none⟩) hlt1] at hcell1
      clear hx1 hbr how
      have i1 : (0 : Int) ≤ (k : Int) := by omega
      have i2 : (k : Int) < (u.length : Int) := by omega
      have mb := HU.out k (by simpa [scaleL] using hlt)
      have me : (scaleL u z)[k]'(by simpa [scaleL] using hlt) = u[k] * z := by simp [scaleL]
      rw [me] at mb
      have m1 : -4611686018427387904 ≤ u[k] * z := by omega
      have m2 : u[k] * z ≤ 4611686018427387904 := by omega
      clear mb me
      have ZT := Lib.hid (map_take (f := fun x => x * z) hlt)
      have C3 := Lib.hid (show w.heap.size ≤ (wr.alloc (.cells #[.int .i64 (u[k] * z)] 3)).heap.size by rw [World.size_alloc]; exact Nat.le_succ_of_le HB.out.size)
      have hk' : k ≤ 1099511627776 := by omega
      go_wp2_with (at_builtin; refine list_app_int rfl _ _ rfl w.heap.size _ k (scaleL (u.take k) z) _ rfl (HW.out.alloc _) wr.heap.size rfl (heap_alloc_new wr _) hk' C3.out ?_; intro v' w1 hown1 hbel; have HO1 := Lib.hid hown1; have HB1 := Lib.hid ((HB.out.alloc HB.out.size _).trans hbel); clear hown1 hbel)
      refine ⟨⟨k + 1, by omega, by go_num, ?_, HB1.out⟩, by simp [RowKit.intOf]; omega⟩
      have h := HO1.out
      unfold scaleL
      rw [ZT.out]
      exact h
    · obtain rfl : k = u.length := by omega
      clear hbr how
      go_wp2
      go_ret
      refine ⟨⟨_, rfl, ?_⟩, HB.out⟩
      have h := OwnV.of_owns HW.out
      rw [List.take_length] at h
      exact h

/-- A quotient by a positive number, rounded down, as the model reckons it. -/
theorem floor_t (a b : Int) (hb : 0 < b) : (if a.tmod b < 0 then a.tdiv b - 1 else a.tdiv b) = a / b := by
  have h1 := Int.tmod_add_mul_tdiv a b
  have h2 := Int.emod_add_mul_ediv a b
  have h3 := Int.emod_nonneg a (show b ≠ 0 by omega)
  have h4 := Int.emod_lt_of_pos a hb
  have h5 := Int.lt_tmod_of_pos a hb
  have h6 := Int.tmod_lt_of_pos a hb
  split
  · rename_i h
    have e : b * (a.tdiv b - 1) = b * a.tdiv b - b := by rw [Int.mul_sub, Int.mul_one]
    exact ((Int.ediv_emod_unique (r := a.tmod b + b) (q := a.tdiv b - 1) hb).2 ⟨by omega, by omega, by omega⟩).1.symm
  · rename_i h
    exact ((Int.ediv_emod_unique (r := a.tmod b) (q := a.tdiv b) hb).2 ⟨by omega, by omega, by omega⟩).1.symm

set_option maxRecDepth 100000 in
theorem s_floor (a b : Int) (h1 : -4611686018427387904 ≤ a) (h2 : a ≤ 4611686018427387904) (hb : 0 < b) (hb2 : b ≤ 4611686018427387904) (w : World) :
    Calls Try.prog 89 #[.int .i64 a, .int .i64 b] w fun e w' => e = .returned (.int .i64 (a / b)) ∧ w = w' := by
  have FT := Lib.hid (floor_t a b hb)
  have hp0 : ¬ b = 0 := by omega
  have hp1 : b ≠ -1 := by omega
  have hp2 : (b == -1) = false := by rw [beq_eq_false_iff_ne]; omega
  have q1 := Int.natAbs_tdiv_le_natAbs a b
  have hq1 : IntKind.i64.wrap (a.tdiv b) = a.tdiv b := IntWalk.i64_in _ (by generalize a.tdiv b = t at q1; omega)
  have hq2 : IntKind.i64.wrap (a.tdiv b - 1) = a.tdiv b - 1 := IntWalk.i64_in _ (by generalize a.tdiv b = t at q1; omega)
  by_cases h : a.tmod b < 0
  · go_enter Try.func89, Try.ntmps89
    have e := Lib.hid (show a.tdiv b - 1 = a / b by have h2 := FT.out; rw [if_pos h] at h2; exact h2)
    go_wp2
    go_ret
    exact ⟨by rw [← e.out]; rfl, rfl⟩
  · go_enter Try.func89, Try.ntmps89
    have e := Lib.hid (show a.tdiv b = a / b by have h2 := FT.out; rw [if_neg h] at h2; exact h2)
    have h' : 0 ≤ a.tmod b := by omega
    clear h hq2
    go_wp2
    go_ret
    exact ⟨by rw [← e.out]; rfl, rfl⟩
end Go.Proofs.Yteenheidomfpkaa
