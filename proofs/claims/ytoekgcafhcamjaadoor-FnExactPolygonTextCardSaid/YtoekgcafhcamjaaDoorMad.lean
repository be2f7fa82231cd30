/- A copy of a slice of integers. -/
import Derived.Test.YtoekgcafhcamjaaDoorCom
import Derived.Test.YtoekgcafhcamjaaDoorMac
import Derived.Test.YtoekgcafhcamjaaDoorProg
import Derived.WalkLawsBesides
import Derived.WalkSpells
import Derived.BigQuiet
import Derived.Deep.QuietTactic
namespace Go.Proofs.YtoekgcafhcamjaaDoor
open Go.RowKit Go.Lib

theorem info_int : (Tryd.prog.info? 3).map (fun i => (i.zero, i.size, i.bytes)) = some (some (.int .i64 0), 1, 8) := by kernel_rfl

set_option maxRecDepth 100000 in
set_option maxHeartbeats 400000 in
theorem to_int (zs : List Int) (v : Value) (w : World) (hv : Sl w v (intVals zs)) (hl : zs.length ≤ 1048576) :
    Calls Tryd.prog 13 #[v] w fun e w' => (∃ v', e = .returned v' ∧ w'.ownsRow w.heap.size 3 1 v' zs.length (intVals zs)) ∧ Below w.heap.size w w' := by
  obtain ⟨a, c, rfl, hm, hopen⟩ := hv.shape
  rw [intVals_len] at hm hopen ⊢
  unfold maxLen at hm
  obtain ⟨i0, hi, hz0, hz1, hz2⟩ := info_parts info_int
  have HO := Lib.hid hopen
  clear hopen hv
  go_enter Tryd.func13, Tryd.ntmps13
  go_wp2_with (at_make; refine wpList_make_full _ rfl _ _ 29 rfl w.heap.size 3 i0 _ 1 Tryd.underlying29 hi hz0 hz1 .i64 .i64 _ _ zs.length rfl rfl rfl rfl (by rw [hz2]; omega) (by unfold maxLen; omega) (Nat.le_refl _) ?_; intro w1 hown hgrow)
  have hbel : Below w.heap.size w w1 := (Below.refl _ _).grown hgrow (Nat.le_refl _) (fun _ h => by cases h)
  rw [show (Value.int .i64 0).cells = #[Value.int .i64 0] from rfl, toList_madeCells_one, Nat.mul_one, show zs.length = (intVals zs).length from (intVals_len zs).symm, ← filled_zero (intVals zs)] at hown
  rw [intVals_len] at hown
  have HW := Lib.hid hown
  have HB := Lib.hid hbel
  have hsz1 : w.heap.size < w1.heap.size := (hown.lt _ rfl).2
  clear hown hgrow hbel hi hz0 hz1 hz2
  go_loopw [4] (fun i wr => ∃ k : Nat, k ≤ zs.length ∧ i = .int .i64 k ∧ wr.ownsRow w.heap.size 3 1 (.slice (some ⟨w.heap.size, 0, none⟩) zs.length zs.length) zs.length (filled (intVals zs) (.int .i64 0) k) ∧ Below w.heap.size w wr) (fun i _ => zs.length - (RowKit.intOf i).toNat)
  case atStart => exact ⟨0, Nat.zero_le _, rfl, HW.out, HB.out⟩
  case round =>
    obtain ⟨k, hk, rfl, how, hbr⟩ := hrel
    by_cases hlt : k < zs.length
    · obtain ⟨b, off, rfl, hc, hlt2, hx⟩ := HO.out (by omega)
      have hcell := hx k _ (intVals_get zs k hlt)
      rw [← hbr.cell (p := ⟨b, off + k, none⟩) hlt2] at hcell
      have hmine := how.cellAt k (by omega)
      rw [filled_get _ _ _ (by rw [intVals_len]; exact hlt)] at hmine
      have hfree := how.frozenAt k
      have HS := Lib.hid (how.stored k (.int .i64 zs[k]))
      have HR := Lib.hid hbr
      clear hx how hbr
      go_wp2
      have h2 := HS.out.1
      rw [filled_step _ _ _ _ (intVals_get zs k hlt)] at h2
      exact ⟨⟨k + 1, by omega, by go_num, h2, HR.out.setCell (Nat.le_refl _) _⟩, by simp [RowKit.intOf]; omega⟩
    · obtain rfl : k = zs.length := by omega
      have HA := Lib.hid how
      have HR := Lib.hid hbr
      clear how hbr
      go_wp2
      go_ret
      have h := HA.out
      have hfa := filled_all (intVals zs) (.int .i64 0)
      rw [intVals_len] at hfa
      rw [hfa] at h
      exact ⟨⟨_, rfl, h⟩, HR.out⟩
end Go.Proofs.YtoekgcafhcamjaaDoor
/- The bulk of a slice of strings. -/
namespace Go.Proofs.YtoekgcafhcamjaaDoor
open Go.RowKit Go.Lib

end Go.Proofs.YtoekgcafhcamjaaDoor
/- Equality of two slices of strings. -/
namespace Go.Proofs.YtoekgcafhcamjaaDoor
open Go.RowKit Go.Lib

theorem strVals_ne {ss tt : List ByteArray} {k : Nat} (hk : k < ss.length) (hk' : k < tt.length) (h : ss[k] ≠ tt[k]) : ss ≠ tt := by
  intro e; subst e; exact h rfl
/-- Equality of two lists of strings, as a Bool that the walk leaves closed. -/
def eqStr (ss tt : List ByteArray) : Bool := decide (ss = tt)

end Go.Proofs.YtoekgcafhcamjaaDoor
/- Equality of two slices of integers. -/
namespace Go.Proofs.YtoekgcafhcamjaaDoor
open Go.RowKit Go.Lib

set_option maxRecDepth 100000 in
set_option maxHeartbeats 400000 in
/-- eqIntS at two slices that read alike. -/
theorem eq_int (zs : List Int) (v u : Value) (w : World) (hv : Sl w v (intVals zs)) (hu : Sl w u (intVals zs)) :
    Calls Tryd.prog 17 #[v, u] w fun e w' => e = .returned (.bool true) ∧ Below w.heap.size w w' := by
  obtain ⟨a, c, rfl, hm, hopen⟩ := hv.shape
  obtain ⟨a', c', rfl, hm', hopen'⟩ := hu.shape
  rw [intVals_len] at hm hopen hm' hopen'
  rw [intVals_len]
  unfold maxLen at hm hm'
  have HO := Lib.hid hopen
  have HO' := Lib.hid hopen'
  clear hopen hopen' hv hu
  go_enter Tryd.func17, Tryd.ntmps17
  go_wp2
  go_loopw [5] (fun i wr => ∃ k : Nat, k ≤ zs.length ∧ i = .int .i64 k ∧ Below w.heap.size w wr) (fun i _ => zs.length - (RowKit.intOf i).toNat)
  case atStart => exact ⟨0, Nat.zero_le _, rfl, Below.refl _ _⟩
  case round =>
    obtain ⟨k, hk, rfl, hbr⟩ := hrel
    have HB := Lib.hid hbr
    by_cases hlt : k < zs.length
    · obtain ⟨b, off, rfl, hc, hlt2, hx⟩ := HO.out (by omega)
      obtain ⟨b', off', rfl, hc', hlt2', hx'⟩ := HO'.out (by omega)
      have hcell := hx k _ (intVals_get zs k hlt)
      have hcell' := hx' k _ (intVals_get zs k hlt)
      rw [← hbr.cell (p := ⟨b, off + k, none⟩) hlt2] at hcell
      rw [← hbr.cell (p := ⟨b', off' + k, none⟩) hlt2'] at hcell'
      clear hx hx' hbr
      have i1 : (0 : Int) ≤ (k : Int) := by omega
      have i2 : (k : Int) < (zs.length : Int) := by omega
      go_wp2
      go_quiet (fail)
      go_wp2
      exact ⟨⟨k + 1, by omega, by go_num, below_drewN' HB.out _⟩, by simp [RowKit.intOf]; omega⟩
    · obtain rfl : k = zs.length := by omega
      go_wp2
      go_ret
      exact ⟨rfl, HB.out⟩

end Go.Proofs.YtoekgcafhcamjaaDoor
/- The laws' marks on slices of integers: markIntS, heldIntS. -/
namespace Go.Proofs.YtoekgcafhcamjaaDoor
open Go.RowKit Go.Lib

/-- Marks from k on. -/
def imarks (k n : Nat) : List Int := (List.range n).map fun i => ((k + i : Nat) : Int)
theorem imarks_len (k n : Nat) : (imarks k n).length = n := by simp [imarks]
theorem imarks_get (k n i : Nat) (h : i < n) : (imarks k n)[i]'(by rw [imarks_len]; exact h) = ((k + i : Nat) : Int) := by simp [imarks]
theorem imarks_step (k j : Nat) (zs : List Int) (h : j < zs.length) :
    (intVals (imarks k j ++ zs.drop j)).set j (.int .i64 (k + j : Nat)) = intVals (imarks k (j + 1) ++ zs.drop (j + 1)) := by
  have hl : (intVals (imarks k j)).length = j := by rw [intVals_len, imarks_len]
  have e : intVals (imarks k j ++ zs.drop j) = intVals (imarks k j) ++ intVals (zs.drop j) := by simp [intVals]
  rw [e, List.set_append_right _ _ (by omega), hl, Nat.sub_self, List.drop_eq_getElem_cons h]
  have e2 : ∀ u, (intVals (zs[j] :: zs.drop (j + 1))).set 0 u = u :: intVals (zs.drop (j + 1)) := fun _ => rfl
  rw [e2]
  simp only [intVals, imarks, List.range_succ, List.map_append, List.map_cons, List.map_nil, List.append_assoc, List.cons_append, List.nil_append]

end Go.Proofs.YtoekgcafhcamjaaDoor
