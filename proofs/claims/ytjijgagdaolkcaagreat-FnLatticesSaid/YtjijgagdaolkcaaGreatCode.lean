/- The bytes of a law's argument, as the drawing reads them; the test of their number. -/
import Derived.Test.YtjijgagdaolkcaaGreatMad
import Derived.OpenShut
namespace Go.Proofs.YtjijgagdaolkcaaGreat
open Go.RowKit Go.Lib

theorem code_in {w : World} {a : Option Addr} {len c : Nat} {zs : List Int} (hlen : zs.length = len) (hs : Sl w (.slice a len c) (numVals .u8 zs)) (hz : ∀ z ∈ zs, (Lit.int .u8 z).wf = true) (hl : len ≤ 1048576) : CodeIn w a zs := by
  obtain ⟨a', c', e, _, ho⟩ := hs.shape
  simp only [Value.slice.injEq] at e
  obtain ⟨rfl, _, rfl⟩ := e
  rw [numVals_len] at ho
  refine ⟨by omega, fun z hz' => bounds_u8 (hz z hz'), fun h0 => ?_⟩
  obtain ⟨b, off, e, _, hb, hx⟩ := ho h0
  refine ⟨b, off, e, hb, fun j z hj => ?_⟩
  have hj' : j < zs.length := by
    by_cases hh : j < zs.length
    · exact hh
    · rw [List.getElem?_eq_none (by omega)] at hj; cases hj
  rw [List.getElem?_eq_getElem hj'] at hj
  have := hx j _ (numVals_get zs j hj')
  rw [Option.some.inj hj] at this
  exact this

set_option maxHeartbeats 400000 in
theorem big_any (a : Option Addr) (n c : Nat) (w : World) :
    Calls Tryz.prog 4 #[.slice a n c] w fun e w' => e = .returned (.bool (decide ((1048576 : Int) < n))) ∧ w = w' := by
  go_enter Tryz.func4, Tryz.ntmps4
  go_wp2
  go_ret
  exact ⟨rfl, rfl⟩
end Go.Proofs.YtjijgagdaolkcaaGreat
