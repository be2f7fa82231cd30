/- heldStringS at the marks: the number behind the last one. -/
import Derived.Test.YtlemfajiojnonaaDoorMark
import Derived.Deep.RegionHeld3
namespace Go.Proofs.YtlemfajiojnonaaDoor
open Go.RowKit Go.Lib

theorem keepD {w W : World} {p : Addr} {x : Value} (h1 : W.cell? p = some x) (h2 : Below w.heap.size w W) : W.drew.cell? p = some x ∧ Below w.heap.size w W.drew := ⟨h1, h2.drew⟩
theorem keepS {w W w1 : World} {p : Addr} {x : Value} (hp : p.block < w.heap.size) (h1 : W.cell? p = some x) (h2 : Below w.heap.size w W) (hb : Below W.heap.size W w1) : w1.cell? p = some x ∧ Below w.heap.size w w1 :=
  ⟨(hb.cell (Nat.lt_of_lt_of_le hp h2.size)).trans h1, h2.trans (hb.mono h2.size)⟩

set_option maxRecDepth 100000 in
set_option maxHeartbeats 800000 in
theorem held_str (v : Value) (n k : Nat) (w : World) (hk : 1 ≤ k) (hb : k + n ≤ 4611686018427387904) (hv : Sl w v (strVals (marks k n))) :
    Calls Tryd.prog 24 #[v, .int .i64 k] w fun e w' => e = .returned (.int .i64 (k + n : Nat)) ∧ Below w.heap.size w w' := by
  obtain ⟨a, c, rfl, hm, hopen⟩ := hv.shape
  rw [strVals_len, marks_len] at hm hopen ⊢
  have HO := Lib.hid hopen
  clear hopen hv hm
  go_enter Tryd.func24, Tryd.ntmps24
  go_wp2
  go_loopw [1, 5] (fun q i wr => ∃ j : Nat, j ≤ n ∧ i = .int .i64 j ∧ q = .int .i64 (k + j : Nat) ∧ Below w.heap.size w wr) (fun _ i _ => n - (RowKit.intOf i).toNat)
  case atStart => exact ⟨0, Nat.zero_le _, rfl, by simp, Below.refl _ _⟩
  case round =>
    obtain ⟨j, hj, rfl, rfl, hbr⟩ := hrel
    by_cases hlt : j < n
    · obtain ⟨b, off, rfl, hc, hlt2, hx⟩ := HO.out (by omega)
      have hcell := hx j _ (strVals_get _ _ (by rw [marks_len]; exact hlt))
      rw [marks_get k n j hlt, ← hbr.cell (p := ⟨b, off + j, none⟩) hlt2] at hcell
      have i1 : (0 : Int) ≤ (j : Int) := by omega
      have i2 : (j : Int) < (n : Int) := by omega
      have hlt3 : b < wr.heap.size := Nat.lt_of_lt_of_le hlt2 hbr.size
      clear hx
      go_wp2_with fail
      go_region_held3 (fun w' => w'.cell? ⟨b, off + j, none⟩ = some (.string ⟨(mk (k + j)).toArray⟩) ∧ Below w.heap.size w w')
        (first
          | exact keepD hcell hbr
          | (go_split_ands; exact keepS hlt2 (by assumption) (by assumption) (by assumption))
          | go_keep)
        (first | (go_at_call 37; refine (mark_text (k + j) (by omega) (by omega) _).mono ?_; rintro e w1 ⟨rfl, hb1⟩))
      rename_i hH
      have HB := Lib.hid hH.2
      clear hH hb1
      go_wp2
      exact ⟨⟨j + 1, by omega, by go_num, by go_num, HB.out⟩, by simp [RowKit.intOf]; omega⟩
    · obtain rfl : j = n := by omega
      go_wp2
      go_ret
      exact ⟨rfl, hbr⟩
end Go.Proofs.YtlemfajiojnonaaDoor
