/- FnPoints's helpers: two lists of lists that read alike, the size of a number. -/
import Derived.Test.YtmogncpkdkdodaaRowEq
import Derived.Test.YtmogncpkdkdodaaVecS
namespace Go.Proofs.Ytmogncpkdkdodaa
open Go Go.RowKit Go.Lib

set_option maxRecDepth 100000 in
set_option maxHeartbeats 800000 in
theorem same_rows (zss : List (List Int)) (v u : Value) (w : World) (hv : Rw w v zss) (hu : Rw w u zss) :
    Calls Try.prog 19 #[v, u] w fun e w' => e = .returned (.bool true) ∧ Below w.heap.size w w' := by
  have HV := Lib.hid hv
  have HU := Lib.hid hu
  obtain ⟨a, c, rfl, hm, _⟩ := hv.shape
  obtain ⟨a', c', rfl, _, _⟩ := hu.shape
  unfold maxLen at hm
  clear hv hu
  go_enter Try.func19, Try.ntmps19
  go_wp2
  go_loopw [5] (fun i wr => ∃ k : Nat, k ≤ zss.length ∧ i = .int .i64 k ∧ Below w.heap.size w wr) (fun i _ => zss.length - (RowKit.intOf i).toNat)
  case atStart => exact ⟨0, Nat.zero_le _, rfl, Below.refl _ _⟩
  case round =>
    obtain ⟨k, hk, rfl, hbr⟩ := hrel
    have HB := Lib.hid hbr
    by_cases hlt : k < zss.length
    · obtain ⟨b, off, x, rfl, hb2, hcell, hsx⟩ := HV.out.row k hlt rfl
      obtain ⟨b', off', y, rfl, hb2', hcell', hsy⟩ := HU.out.row k hlt rfl
      rw [← hbr.cell (p := ⟨b, off + k, none⟩) hb2] at hcell
      rw [← hbr.cell (p := ⟨b', off' + k, none⟩) hb2'] at hcell'
      have HX := Lib.hid hsx
      have HY := Lib.hid hsy
      have i1 : (0 : Int) ≤ (k : Int) := by omega
      have i2 : (k : Int) < (zss.length : Int) := by omega
      clear hsx hsy
      go_wp2
      go_region_held3 (fun w' => w'.cell? ⟨b, off + k, none⟩ = some x ∧ w'.cell? ⟨b', off' + k, none⟩ = some y ∧ Below w.heap.size w w')
        (first
          | exact keepF hcell hcell' hbr
          | (go_split_ands; exact keepE hb2 hb2' (by assumption) (by assumption) (by assumption) (by assumption))
          | go_keep)
        (first | (go_at_call 23; refine (same_int zss[k] x y _ (HX.out.below HB.out.drew) (HY.out.below HB.out.drew)).mono ?_; rintro e w1 ⟨rfl, hb1⟩))
      rename_i hH
      have HB1 := Lib.hid hH.2.2
      clear hH hbr
      go_wp2
      exact ⟨⟨k + 1, by omega, by go_num, HB1.out⟩, by simp [RowKit.intOf]; omega⟩
    · obtain rfl : k = zss.length := by omega
      clear hbr
      go_wp2
      go_ret
      exact ⟨rfl, HB.out⟩
set_option maxRecDepth 100000 in
set_option maxHeartbeats 400000 in
theorem size_of (x : Int) (h : -4611686018427387904 ≤ x ∧ x ≤ 4611686018427387904) (w : World) :
    Calls Try.prog 28 #[.int .i64 x] w fun e w' => e = .returned (.int .i64 x.natAbs) ∧ Below w.heap.size w w' := by
  obtain ⟨h1, h2⟩ := h
  by_cases hx : x < 0
  · have e : (x.natAbs : Int) = -x := by omega
    rw [e]
    go_enter Try.func28, Try.ntmps28
    go_wp2
    go_ret
    exact ⟨rfl, Below.refl _ _⟩
  · have e : (x.natAbs : Int) = x := by omega
    rw [e]
    go_enter Try.func28, Try.ntmps28
    go_wp2
    go_ret
    exact ⟨rfl, Below.refl _ _⟩
set_option maxRecDepth 100000 in
set_option maxHeartbeats 400000 in
theorem dot_of (u v : List Int) (hl : u.length = v.length) (hm : u.length ≤ 1048576) (m n : Int) (hmn0 : 0 ≤ m * n) (hmn : m * n ≤ 1099511627776) (hu : Bd u m) (hv' : Bd v n) (a b : Value) (w : World) (ha : Sl w a (intVals u)) (hb : Sl w b (intVals v)) :
    Calls Try.prog 25 #[a, b] w (Quiet w (.int .i64 (dotL u v))) := by
  obtain ⟨a, c, rfl, _, ha⟩ := ha.shape
  obtain ⟨b, d, rfl, _, hb⟩ := hb.shape
  rw [intVals_len] at ha hb
  rw [intVals_len, intVals_len, ← hl]
  rw [← hl] at hb
  have HA := Lib.hid ha
  have HB0 := Lib.hid hb
  have HU := Lib.hid hu
  have HV := Lib.hid hv'
  have HL := Lib.hid hl
  have HM := Lib.hid (And.intro hmn0 hmn)
  clear ha hb hu hv' hl hmn0 hmn
  go_enter Try.func25, Try.ntmps25
  go_wp2
  go_loopw [5, 6] (fun s i wr => ∃ k : Nat, k ≤ u.length ∧ i = .int .i64 k ∧ s = .int .i64 (dotL (u.take k) (v.take k)) ∧ Below w.heap.size w wr) (fun _ i _ => u.length - (RowKit.intOf i).toNat)
  case atStart => exact ⟨0, Nat.zero_le _, rfl, rfl, Below.refl _ _⟩
  case round =>
    obtain ⟨k, hk, rfl, rfl, hbr⟩ := hrel
    have HB := Lib.hid hbr
    by_cases hlt : k < u.length
    · have hlt' : k < v.length := by have := HL.out; omega
      obtain ⟨b1, o1, rfl, hc1, hlt1, hx1⟩ := HA.out (by omega)
      obtain ⟨b2, o2, rfl, hc2, hlt2, hx2⟩ := HB0.out (by omega)
      have hcell1 := hx1 k _ (intVals_get u k hlt)
      have hcell2 := hx2 k _ (intVals_get v k hlt')
      rw [← hbr.cell (p := ⟨b1, o1 + k, none⟩) hlt1] at hcell1
      rw [← hbr.cell (p := ⟨b2, o2 + k, none⟩) hlt2] at hcell2
      clear hx1 hx2 hbr
      have i1 : (0 : Int) ≤ (k : Int) := by omega
      have i2 : (k : Int) < (u.length : Int) := by omega
      have MB := Lib.hid (mul_bd (HU.out k hlt).1 (HU.out k hlt).2 (HV.out k hlt').1 (HV.out k hlt').2)
      have DT := Lib.hid (dot_take hlt hlt')
      have DB := Lib.hid (dot_bd HM.out.1 HU.out HV.out k (by omega) (by omega))
      have KB := Lib.hid (show (k : Int) * (m * n) ≤ 1048576 * 1099511627776 from Int.mul_le_mul (by omega) HM.out.2 HM.out.1 (by omega))
      generalize hS : dotL (u.take k) (v.take k) = sk at DT DB ⊢
      have HS := Lib.hid hS
      clear hS
      go_wp2
      go_quiet (fail)
      go_wp2
      refine ⟨⟨k + 1, by omega, by go_num, ?_, below_drewN' HB.out _⟩, by simp [RowKit.intOf]; omega⟩
      rw [DT.out]
      have e1 := MB.out
      have e2 := DB.out
      have e3 := KB.out
      have e4 := HM.out
      rw [w64 (n := u[k] * v[k]) (by omega) (by omega), w64 (by omega) (by omega)]
    · obtain rfl : k = u.length := by omega
      clear hbr
      go_wp2
      go_ret
      exact ⟨ret_int (by rw [List.take_length, HL.out, List.take_length]), HB.out⟩
end Go.Proofs.Ytmogncpkdkdodaa
