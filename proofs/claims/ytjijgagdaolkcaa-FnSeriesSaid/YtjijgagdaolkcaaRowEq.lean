/- Equality of two slices of slices of integers that read alike. -/
import Derived.Test.YtjijgagdaolkcaaCom
import Derived.Test.YtjijgagdaolkcaaMac
import Derived.Test.YtjijgagdaolkcaaMad
import Derived.Test.YtjijgagdaolkcaaProg
import Derived.WalkLawsBesides
import Derived.WalkSpells
import Derived.BigQuiet
import Derived.Deep.QuietTactic
import Derived.Deep.RegionHeld3
namespace Go.Proofs.Ytjijgagdaolkcaa
open Go.RowKit Go.Lib

theorem keepF {w W : World} {p q : Addr} {x y : Value} (h1 : W.cell? p = some x) (h2 : W.cell? q = some y) (h3 : Below w.heap.size w W) : W.drew.cell? p = some x ∧ W.drew.cell? q = some y ∧ Below w.heap.size w W.drew := ⟨h1, h2, h3.drew⟩
theorem keepE {w W w1 : World} {p q : Addr} {x y : Value} (hp : p.block < w.heap.size) (hq : q.block < w.heap.size) (h1 : W.cell? p = some x) (h2 : W.cell? q = some y) (h3 : Below w.heap.size w W) (hb : Below W.heap.size W w1) : w1.cell? p = some x ∧ w1.cell? q = some y ∧ Below w.heap.size w w1 :=
  ⟨(hb.cell (Nat.lt_of_lt_of_le hp h3.size)).trans h1, (hb.cell (Nat.lt_of_lt_of_le hq h3.size)).trans h2, h3.trans (hb.mono h3.size)⟩

set_option maxRecDepth 100000 in
set_option maxHeartbeats 800000 in
theorem eq_rows (zss : List (List Int)) (v u : Value) (w : World) (hv : Rw w v zss) (hu : Rw w u zss) :
    Calls Try.prog 102 #[v, u] w fun e w' => e = .returned (.bool true) ∧ Below w.heap.size w w' := by
  have HV := Lib.hid hv
  have HU := Lib.hid hu
  obtain ⟨a, c, rfl, hm, _⟩ := hv.shape
  obtain ⟨a', c', rfl, _, _⟩ := hu.shape
  unfold maxLen at hm
  clear hv hu
  go_enter Try.func102, Try.ntmps102
  go_wp2
  go_loopw [5] (fun i wr => ∃ k : Nat, k ≤ zss.length ∧ i = .int .i64 k ∧ Below w.heap.size w wr) (fun i _ => zss.length - (RowKit.intOf i).toNat)
  case atStart => exact ⟨0, Nat.zero_le _, rfl, Below.refl _ _⟩
  case round =>
    obtain ⟨k, hk, rfl, hbr⟩ := hrel
    have HB := Lib.hid hbr
    by_cases hlt : k < zss.length
    · obtain ⟨b, off, x, rfl, hb2, hcell, hsx⟩ := HV.out.row k hlt rfl
      obtain ⟨b', off', y, rfl, hb2', hcell', hsy⟩ := HU.out.row k hlt rfl
      rw [← hbr.cell (p := ⟨b, off + k, none⟩) hb2] at hcell
      rw [← hbr.cell (p := ⟨b', off' + k, none⟩) hb2'] at hcell'
      have HX := Lib.hid hsx
      have HY := Lib.hid hsy
      have i1 : (0 : Int) ≤ (k : Int) := by omega
      have i2 : (k : Int) < (zss.length : Int) := by omega
      clear hsx hsy
      go_wp2
      go_region_held3 (fun w' => w'.cell? ⟨b, off + k, none⟩ = some x ∧ w'.cell? ⟨b', off' + k, none⟩ = some y ∧ Below w.heap.size w w')
        (first
          | exact keepF hcell hcell' hbr
          | (go_split_ands; exact keepE hb2 hb2' (by assumption) (by assumption) (by assumption) (by assumption))
          | go_keep)
        (first | (go_at_call 50; refine (eq_int zss[k] x y _ (HX.out.below HB.out.drew) (HY.out.below HB.out.drew)).mono ?_; rintro e w1 ⟨rfl, hb1⟩))
      rename_i hH
      have HB1 := Lib.hid hH.2.2
      clear hH hbr
      go_wp2
      exact ⟨⟨k + 1, by omega, by go_num, HB1.out⟩, by simp [RowKit.intOf]; omega⟩
    · obtain rfl : k = zss.length := by omega
      clear hbr
      go_wp2
      go_ret
      exact ⟨rfl, HB.out⟩
end Go.Proofs.Ytjijgagdaolkcaa
