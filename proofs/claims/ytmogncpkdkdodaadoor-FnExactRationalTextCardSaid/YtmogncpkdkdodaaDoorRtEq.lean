/- Equality of rational points that read alike. -/
import Derived.Test.YtmogncpkdkdodaaDoorHfEq
namespace Go.Proofs.YtmogncpkdkdodaaDoor
open Go Go.RowKit Go.Lib Go.ChangeShapes Go.WideShapes Go.Deep Go.Joins

set_option maxRecDepth 100000 in
set_option maxHeartbeats 400000 in
theorem eq_rat (h : Hf) (v u : Value) (w : World) (hv : Hv w v h) (hu : Hv w u h) :
    Calls Tryd.prog 43 #[v, u] w (Quiet w (.bool true)) := by
  obtain ⟨x, rfl, hx⟩ := hv
  obtain ⟨y, rfl, hy⟩ := hu
  have HX := Lib.hid hx
  have HY := Lib.hid hy
  have B0 := Lib.hid (below2 w (.cells #[x, .int .i64 h.2] 59) (.cells #[y, .int .i64 h.2] 59))
  have K := Lib.hid (Bk.pair w #[x, .int .i64 h.2] #[y, .int .i64 h.2] 59 59)
  clear hx hy
  go_enter Tryd.func43, Tryd.ntmps43
  go_wp2_with fail
  refine (eq_int h.1 x y _ (HX.out.below B0.out) (HY.out.below B0.out)).mono ?_
  rintro e w1 ⟨rfl, hb⟩
  have B1 := Lib.hid (B0.out.trans (hb.mono B0.out.size))
  obtain ⟨⟨_, a1⟩, _⟩ := (K.out.1.below hb).two
  obtain ⟨⟨_, b1⟩, _⟩ := (K.out.2.below hb).two
  clear hb
  go_wp2_with fail
  go_ret
  exact ⟨rfl, B1.out⟩
end Go.Proofs.YtmogncpkdkdodaaDoor
