/- A draw out of a list. -/
import Derived.Test.YtmogncpkdkdodaaGreatDoorDraw
namespace Go.Proofs.YtmogncpkdkdodaaGreatDoor
open Go.RowKit Go.Lib

set_option maxRecDepth 100000 in
set_option maxHeartbeats 800000 in
theorem draw_pick_int (base p L : Nat) (xs : List Value) (w : World) (hc : CurAt base w p) (hn : 0 < xs.length) (hm : xs.length ≤ 1048576) (hL : L ≠ p) (hx : w.heap[L]? = some (.cells xs.toArray 3 (0, 0))) :
    Calls Tryz.prog 83 #[.pointer (some ⟨p, 0, none⟩), .slice (some ⟨L, 0, none⟩) xs.length xs.length] w (Drawn base p w (fun v => v ∈ xs)) := by
  have hlt : L < w.heap.size := by
    by_cases hh : L < w.heap.size
    · exact hh
    · rw [Array.getElem?_eq_none (by omega)] at hx; cases hx
  have HX := Lib.hid hx
  clear hx
  go_enter Tryz.func83, Tryz.ntmps83
  go_wp2_with fail
  refine (draw_below base p _ _ hc (by omega) (by omega)).mono ?_
  rintro e w1 ⟨⟨v, rfl, x, rfl, h0, h1⟩, hc1, hg1⟩
  obtain ⟨i, rfl⟩ : ∃ i : Nat, x = i := ⟨x.toNat, by omega⟩
  have hi : i < xs.length := by omega
  have hcell : w1.cell? ⟨L, i, none⟩ = some xs[i] := by
    rw [hg1.cell_far ⟨L, i, none⟩ hlt (by simpa using hL), cell_of_row w L i _ _ _ HX.out]
    simp [hi]
  obtain ⟨u, hu⟩ : ∃ u, u = xs[i] := ⟨_, rfl⟩
  rw [← hu] at hcell
  have hmem : u ∈ xs := by rw [hu]; exact List.getElem_mem hi
  have HM := Lib.hid hmem
  have HC := Lib.hid hc1
  have HG := Lib.hid hg1
  clear hc1 hg1 hu hmem
  go_wp2_with fail
  go_ret
  exact ⟨⟨_, rfl, HM.out⟩, HC.out, HG.out⟩
end Go.Proofs.YtmogncpkdkdodaaGreatDoor
