/- A copy of a slice of integers. -/
import Derived.Test.YtoekgcafhcamjaaCom
import Derived.Test.YtoekgcafhcamjaaSl
import Derived.Test.YtoekgcafhcamjaaProg
import Derived.WalkLawsBesides
import Derived.WalkSpells
import Derived.BigQuiet
import Derived.Deep.QuietTactic
namespace Go.Proofs.Ytoekgcafhcamjaa
open Go.RowKit Go.Lib

theorem info_int : (Try.prog.info? 3).map (fun i => (i.zero, i.size, i.bytes)) = some (some (.int .i64 0), 1, 8) := by kernel_rfl

set_option maxRecDepth 100000 in
set_option maxHeartbeats 400000 in
theorem to_int (zs : List Int) (v : Value) (w : World) (hv : Sl w v (intVals zs)) (hl : zs.length ≤ 1048576) :
    Calls Try.prog 50 #[v] w fun e w' => (∃ v', e = .returned v' ∧ w'.ownsRow w.heap.size 3 1 v' zs.length (intVals zs)) ∧ Below w.heap.size w w' := by
  obtain ⟨a, c, rfl, hm, hopen⟩ := hv.shape
  rw [intVals_len] at hm hopen ⊢
  unfold maxLen at hm
  obtain ⟨i0, hi, hz0, hz1, hz2⟩ := info_parts info_int
  have HO := Lib.hid hopen
  clear hopen hv
  go_enter Try.func50, Try.ntmps50
  go_wp2_with (at_make; refine wpList_make_full _ rfl _ _ 24 rfl w.heap.size 3 i0 _ 1 Try.underlying24 hi hz0 hz1 .i64 .i64 _ _ zs.length rfl rfl rfl rfl (by rw [hz2]; omega) (by unfold maxLen; omega) (Nat.le_refl _) ?_; intro w1 hown hgrow)
  have hbel : Below w.heap.size w w1 := (Below.refl _ _).grown hgrow (Nat.le_refl _) (fun _ h => by cases h)
  rw [show (Value.int .i64 0).cells = #[Value.int .i64 0] from rfl, toList_madeCells_one, Nat.mul_one, show zs.length = (intVals zs).length from (intVals_len zs).symm, ← filled_zero (intVals zs)] at hown
  rw [intVals_len] at hown
  have HW := Lib.hid hown
  have HB := Lib.hid hbel
  have hsz1 : w.heap.size < w1.heap.size := (hown.lt _ rfl).2
  clear hown hgrow hbel hi hz0 hz1 hz2
  go_loopw [4] (fun i wr => ∃ k : Nat, k ≤ zs.length ∧ i = .int .i64 k ∧ wr.ownsRow w.heap.size 3 1 (.slice (some ⟨w.heap.size, 0, none⟩) zs.length zs.length) zs.length (filled (intVals zs) (.int .i64 0) k) ∧ Below w.heap.size w wr) (fun i _ => zs.length - (RowKit.intOf i).toNat)
  case atStart => exact ⟨0, Nat.zero_le _, rfl, HW.out, HB.out⟩
  case round =>
    obtain ⟨k, hk, rfl, how, hbr⟩ := hrel
    by_cases hlt : k < zs.length
    · obtain ⟨b, off, rfl, hc, hlt2, hx⟩ := HO.out (by omega)
      have hcell := hx k _ (intVals_get zs k hlt)
      rw [← hbr.cell (p := ⟨b, off + k, none⟩) hlt2] at hcell
      have hmine := how.cellAt k (by omega)
      rw [filled_get _ _ _ (by rw [intVals_len]; exact hlt)] at hmine
      have hfree := how.frozenAt k
      have HS := Lib.hid (how.stored k (.int .i64 zs[k]))
      have HR := Lib.hid hbr
      clear hx how hbr
      go_wp2
      have h2 := HS.out.1
      rw [filled_step _ _ _ _ (intVals_get zs k hlt)] at h2
      exact ⟨⟨k + 1, by omega, by go_num, h2, HR.out.setCell (Nat.le_refl _) _⟩, by simp [RowKit.intOf]; omega⟩
    · obtain rfl : k = zs.length := by omega
      have HA := Lib.hid how
      have HR := Lib.hid hbr
      clear how hbr
      go_wp2
      go_ret
      have h := HA.out
      have hfa := filled_all (intVals zs) (.int .i64 0)
      rw [intVals_len] at hfa
      rw [hfa] at h
      exact ⟨⟨_, rfl, h⟩, HR.out⟩
end Go.Proofs.Ytoekgcafhcamjaa
