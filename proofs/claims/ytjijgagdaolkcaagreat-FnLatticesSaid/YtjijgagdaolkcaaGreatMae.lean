/- A copy of a slice of integers. -/
import Derived.Test.YtjijgagdaolkcaaGreatCom
import Derived.Test.YtjijgagdaolkcaaGreatMab
import Derived.Test.YtjijgagdaolkcaaGreatProg
import Derived.WalkLawsBesides
import Derived.WalkSpells
import Derived.BigQuiet
import Derived.Deep.QuietTactic
namespace Go.Proofs.YtjijgagdaolkcaaGreat
open Go.RowKit Go.Lib

theorem info_int : (Tryz.prog.info? 3).map (fun i => (i.zero, i.size, i.bytes)) = some (some (.int .i64 0), 1, 8) := by kernel_rfl

end Go.Proofs.YtjijgagdaolkcaaGreat
/- Equality of two slices of integers. -/
namespace Go.Proofs.YtjijgagdaolkcaaGreat
open Go.RowKit Go.Lib

set_option maxRecDepth 100000 in
set_option maxHeartbeats 400000 in
/-- sameInts at two slices that read alike. -/
theorem same_int (zs : List Int) (v u : Value) (w : World) (hv : Sl w v (intVals zs)) (hu : Sl w u (intVals zs)) :
    Calls Tryz.prog 15 #[v, u] w fun e w' => e = .returned (.bool true) ∧ Below w.heap.size w w' := by
  obtain ⟨a, c, rfl, hm, hopen⟩ := hv.shape
  obtain ⟨a', c', rfl, hm', hopen'⟩ := hu.shape
  rw [intVals_len] at hm hopen hm' hopen'
  rw [intVals_len]
  unfold maxLen at hm hm'
  have HO := Lib.hid hopen
  have HO' := Lib.hid hopen'
  clear hopen hopen' hv hu
  go_enter Tryz.func15, Tryz.ntmps15
  go_wp2
  go_loopw [5] (fun i wr => ∃ k : Nat, k ≤ zs.length ∧ i = .int .i64 k ∧ Below w.heap.size w wr) (fun i _ => zs.length - (RowKit.intOf i).toNat)
  case atStart => exact ⟨0, Nat.zero_le _, rfl, Below.refl _ _⟩
  case round =>
    obtain ⟨k, hk, rfl, hbr⟩ := hrel
    have HB := Lib.hid hbr
    by_cases hlt : k < zs.length
    · obtain ⟨b, off, rfl, hc, hlt2, hx⟩ := HO.out (by omega)
      obtain ⟨b', off', rfl, hc', hlt2', hx'⟩ := HO'.out (by omega)
      have hcell := hx k _ (intVals_get zs k hlt)
      have hcell' := hx' k _ (intVals_get zs k hlt)
      rw [← hbr.cell (p := ⟨b, off + k, none⟩) hlt2] at hcell
      rw [← hbr.cell (p := ⟨b', off' + k, none⟩) hlt2'] at hcell'
      clear hx hx' hbr
      have i1 : (0 : Int) ≤ (k : Int) := by omega
      have i2 : (k : Int) < (zs.length : Int) := by omega
      go_wp2
      go_quiet (fail)
      go_wp2
      exact ⟨⟨k + 1, by omega, by go_num, below_drewN' HB.out _⟩, by simp [RowKit.intOf]; omega⟩
    · obtain rfl : k = zs.length := by omega
      go_wp2
      go_ret
      exact ⟨rfl, HB.out⟩
end Go.Proofs.YtjijgagdaolkcaaGreat
