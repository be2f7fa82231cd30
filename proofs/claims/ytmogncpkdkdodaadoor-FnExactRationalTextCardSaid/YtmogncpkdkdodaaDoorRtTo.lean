/- Copies of rational points, their measure, those that came in. -/
import Derived.Test.YtmogncpkdkdodaaDoorHfTo
import Derived.Test.YtmogncpkdkdodaaDoorHfSz
import Derived.Test.YtmogncpkdkdodaaDoorHfCame
namespace Go.Proofs.YtmogncpkdkdodaaDoor
open Go Go.RowKit Go.Lib Go.ChangeShapes Go.WideShapes Go.Deep Go.Joins

set_option maxRecDepth 100000 in
set_option maxHeartbeats 400000 in
theorem to_rat (h : Hf) (v : Value) (w : World) (hv : Hv w v h) (hl : h.1.length ≤ 1048576) :
    Calls Tryd.prog 41 #[v] w (MadeHv w h) := by
  obtain ⟨u, rfl, hs⟩ := hv
  have HS := Lib.hid hs
  have K := Lib.hid (Bk.three w #[u, .int .i64 h.2] #[.slice none 0 0, .int .i64 0] #[.slice none 0 0, .int .i64 0] 56 59 59)
  have B0 := Lib.hid (below3 w (.cells #[u, .int .i64 h.2] 56) (.cells #[.slice none 0 0, .int .i64 0] 59) (.cells #[.slice none 0 0, .int .i64 0] 59))
  clear hs
  go_enter Tryd.func41, Tryd.ntmps41
  go_wp2_with fail
  refine (to_int h.1 u _ (HS.out.below B0.out) hl).mono ?_
  rintro e w1 ⟨⟨r, rfl, ho⟩, hb⟩
  have ho := OwnV.of_owns ho
  have HO := Lib.hid ho
  obtain ⟨⟨_, a1⟩, _⟩ := (K.out.1.below hb).two
  obtain ⟨⟨b0, b1⟩, f0, f1⟩ := (K.out.2.1.below hb).two
  obtain ⟨⟨c0, c1⟩, g0, g1⟩ := (K.out.2.2.below hb).two
  have B1 := Lib.hid (B0.out.trans (hb.mono B0.out.size))
  obtain ⟨ra, rc, rfl, _⟩ := ho.shape1
  clear hb ho
  go_wp2
  refine bodyPost_ret (v := .agg #[.slice ra (intVals h.1).length rc, .int .i64 h.2]) ?_ rfl ⟨⟨_, rfl, _, rfl, ?_⟩, (((B1.out.setCell (by simp; omega) _).setCell (by simp; omega) _).setCell (by simp) _).setCell (by simp) _⟩
  · simp [results, Tryd.results41, go_sem, b0, b1]
  · exact ((HO.out.kept ((((Kept.refl w.heap.size (w.heap.size + 3) w1).setCell (by simp; omega) (by simp) _).setCell (by simp; omega) (by simp) _).setCell (by simp) (by simp) _ |>.setCell (by simp) (by simp) _) (.inr (by simp))).mono (by simp; omega) (by simp [World.setCell]))
set_option maxRecDepth 100000 in
set_option maxHeartbeats 400000 in
theorem sz_rat (h : Hf) (v : Value) (left : Int) (w : World) (hv : Hv w v h) (h1 : 0 ≤ left) (h2 : left ≤ 1048576) :
    Calls Tryd.prog 39 #[v, .int .i64 left] w (Quiet w (.int .i64 (szI left h.1.length))) := by
  obtain ⟨u, rfl, hs⟩ := hv
  have HS := Lib.hid hs
  have B0 := Lib.hid (below1 w (.cells #[u, .int .i64 h.2] 56))
  clear hs
  by_cases hf : left < h.1.length
  · have E := Lib.hid (szI_small hf)
    clear hf
    go_enter Tryd.func39, Tryd.ntmps39
    go_wp2_with fail
    refine (sz_int h.1 u left _ (HS.out.below B0.out) (by omega) h2).mono ?_
    rintro e w1 ⟨rfl, rfl⟩
    rw [E.out]
    go_wp2_with fail
    go_ret
    exact ⟨ret_int E.out.symm, B0.out⟩
  · have E := Lib.hid (szI_fits hf)
    have h5 : ¬ left - h.1.length < 0 := by omega
    clear hf
    go_enter Tryd.func39, Tryd.ntmps39
    go_wp2_with fail
    refine (sz_int h.1 u left _ (HS.out.below B0.out) (by omega) h2).mono ?_
    rintro e w1 ⟨rfl, rfl⟩
    rw [E.out]
    go_wp2_with fail
    go_ret
    exact ⟨ret_int E.out.symm, B0.out⟩

section
variable {H : Type} {enc : TypeId × Value → H} {P : Program}
theorem rat_came {W : World} {base b0 : Nat} {r : Reach} {sp : Nat → Bool} {held : Bool} {R q : TypeId} {f0 f1 : Field} {v : Value} {d : DataW H} {p : List MemPlace}
    (hR : P.underlying R = some (.struct #[f0, f1])) (hone : oneCellFields P #[f0, f1] = true) (hC : P.cellsOf R = 2)
    (h0 : P.underlying f0.type = some (.slice q)) (hq : P.underlying q = some (.int .i64)) (cq : P.cellsOf q = 1) (h1 : P.underlying f1.type = some (.int .i64))
    (hv : Value.okWide P W r b0 R v) (h : DataW.Trod enc P W base sp held R v d p) : ∃ z : Hf, True ∧ Hv W v z ∧ (Lit.int .i64 z.2).wf = true ∧ ∀ y ∈ z.1, (Lit.int .i64 y).wf = true := by
  obtain ⟨v0, v1, y0, y1, n, rfl, _, _, k0, k1⟩ := open_agg2 hR hone hC hv h
  obtain ⟨z, e1, _, hw⟩ := DataW.trod_int h1 k1
  simp only [List.cons.injEq, and_true] at e1
  obtain ⟨zs, k2, k3⟩ := sl_of_trod h0 hq cq k0
  exact ⟨(zs, z), trivial, ⟨v0, by rw [e1], k2⟩, hw, k3⟩
end

end Go.Proofs.YtmogncpkdkdodaaDoor
