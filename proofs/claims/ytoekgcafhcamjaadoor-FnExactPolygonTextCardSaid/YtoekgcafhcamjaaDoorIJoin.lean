/- impl.Join: the elements with the separator between them. -/
import Derived.Test.YtoekgcafhcamjaaDoorJnNum
import Derived.Test.YtoekgcafhcamjaaDoorMaa
import Derived.Test.YtoekgcafhcamjaaDoorProg
namespace Go.Proofs.YtoekgcafhcamjaaDoor
open Go.RowKit Go.Lib

set_option maxRecDepth 100000 in
set_option maxHeartbeats 400000 in
/-- impl.Join. -/
theorem ijoin (ss : List ByteArray) (by_ : ByteArray) (v : Value) (w : World) (hv : Sl w v (strVals ss)) (hl : ss.length ≤ 1048576) (hb : by_.size ≤ 1048576) (hs : sizes ss ≤ 1099511627776) :
    Calls Tryd.prog 16 #[v, .string by_] w fun e w' => e = .returned (.string ⟨(jn by_.data.toList ss).toArray⟩) ∧ Below w.heap.size w w' := by
  have call : ∀ W, Sl W v (strVals ss) → Calls Tryd.prog 28 #[v, .string by_] W fun e w' => e = .returned (.string ⟨(jn by_.data.toList ss).toArray⟩) ∧ Below W.heap.size W w' := by
    intro W hW
    rcases hW with ⟨h0, a, c, rfl⟩ | ⟨h0, b, off, c, rfl, hc, hm, hlt, hx⟩
    · obtain rfl : ss = [] := by simpa [strVals] using h0
      exact (Tryd.strings_Join_none a c by_ W).mono fun e w' ⟨he, hw⟩ => ⟨he, by rw [hw]; exact Below.refl _ _⟩
    · rw [strVals_len] at hc hm ⊢
      have h1 := join_len by_.data.toList ss
      have hbl : by_.data.toList.length = by_.size := by rw [Array.length_toList]; rfl
      rw [hbl] at h1
      have h2 : ss.length * by_.size ≤ 1048576 * 1048576 := Nat.mul_le_mul hl hb
      exact Tryd.strings_Join b off c ss by_ W (fun j x hj => hx j _ (by simp [strVals, hj])) hlt (by omega) hc (by unfold jn at h1; omega)
  have HC := Lib.hid (call w hv)
  clear call hv
  go_enter Tryd.func16, Tryd.ntmps16
  go_wp2_with fail
  refine HC.out.mono ?_
  rintro e w' ⟨rfl, hb⟩
  go_wp2_with fail
  go_ret
  exact ⟨rfl, hb⟩
end Go.Proofs.YtoekgcafhcamjaaDoor
