/- Halves and regions that came in as arguments. -/
import Derived.Test.YtoekgcafhcamjaaHfA
import Derived.Test.YtoekgcafhcamjaaBk
namespace Go.Proofs.Ytoekgcafhcamjaa
open Go Go.RowKit Go.ChangeShapes Go.WideShapes Go.Deep Go.Joins
theorem agg_snd {x y z t : Value} (h : Value.agg #[x, y] = Value.agg #[z, t]) : y = t := by
  simp only [Value.agg.injEq] at h
  exact Option.some.inj (show some y = some t from congrArg (fun a : Array Value => a[1]?) h)
theorem half_le_tot {hs : List Hf} {k : Nat} (h : k < hs.length) : hs[k].1.length ≤ totN hs := by
  have h1 := totN_take h
  have h2 := totN_take_le hs (k + 1)
  omega
theorem drew_below {w w1 : World} (hb : Below w.drew.heap.size w.drew w1) : Below w.heap.size w w1 := (Below.refl w.heap.size w).drew.trans hb
section
variable {H : Type} {enc : TypeId × Value → H} {P : Program}
theorem hs_of_trod {W : World} {base : Nat} {sp : Nat → Bool} {held : Bool} {t e q : TypeId} {f0 f1 : Field} {fuel : Nat} {v : Value} {x : DataW H × List MemPlace}
    (ht : P.underlying t = some (.slice e)) (he : P.underlying e = some (.struct #[f0, f1])) (ce : P.cellsOf e = 2) (o0 : f0.offset = 0) (o1 : f1.offset = 1) (c0 : P.cellsOf f0.type = 1) (c1 : P.cellsOf f1.type = 1)
    (h0 : P.underlying f0.type = some (.slice q)) (hq : P.underlying q = some (.int .i64)) (cq : P.cellsOf q = 1) (h1 : P.underlying f1.type = some (.int .i64))
    (h : DataW.trod enc P W base sp held fuel t [v] = some x) :
    ∃ hs : List Hf, Hs W v hs ∧ HWf hs := by
  rcases open_slice_pairs ht he ce o0 o1 c0 c1 h with ⟨hcs, _⟩ | ⟨a', len', cap', m, n, V0, V1, D0, D1, P0, P1, hcs, _⟩
  · simp only [List.cons.injEq, and_true] at hcs
    subst hcs
    obtain ⟨hs, _, h2, h3⟩ := halves_came ht he ce o0 o1 c0 c1 h0 hq cq h1 h
    exact ⟨hs, h2, h3⟩
  · simp only [List.cons.injEq, and_true] at hcs
    subst hcs
    obtain ⟨hs, _, h2, h3⟩ := halves_came ht he ce o0 o1 c0 c1 h0 hq cq h1 h
    exact ⟨hs, h2, h3⟩
theorem rg_came {W : World} {base b0 : Nat} {r : Reach} {sp : Nat → Bool} {held : Bool} {R e q : TypeId} {g0 g1 f0 f1 : Field} {v : Value} {d : DataW H} {p : List MemPlace}
    (hR : P.underlying R = some (.struct #[g0, g1])) (hone : oneCellFields P #[g0, g1] = true) (hC : P.cellsOf R = 2) (hi : P.underlying g0.type = some (.int .i64)) (ht : P.underlying g1.type = some (.slice e))
    (he : P.underlying e = some (.struct #[f0, f1])) (ce : P.cellsOf e = 2) (o0 : f0.offset = 0) (o1 : f1.offset = 1) (c0 : P.cellsOf f0.type = 1) (c1 : P.cellsOf f1.type = 1)
    (h0 : P.underlying f0.type = some (.slice q)) (hq : P.underlying q = some (.int .i64)) (cq : P.cellsOf q = 1) (h1 : P.underlying f1.type = some (.int .i64))
    (hv : Value.okWide P W r b0 R v) (h : DataW.Trod enc P W base sp held R v d p) : ∃ z : Rgn, True ∧ Rg W v z ∧ (Lit.int .i64 z.1).wf = true ∧ HWf z.2 := by
  obtain ⟨v0, v1, y0, y1, n, rfl, _, _, k0, k1⟩ := open_agg2 hR hone hC hv h
  obtain ⟨z, e1, _, hw⟩ := DataW.trod_int hi k0
  simp only [List.cons.injEq, and_true] at e1
  obtain ⟨hs, k2, k3⟩ := hs_of_trod ht he ce o0 o1 c0 c1 h0 hq cq h1 k1
  exact ⟨(z, hs), trivial, ⟨v1, by rw [e1], k2⟩, hw, k3⟩
theorem hv_came {W : World} {base b0 : Nat} {r : Reach} {sp : Nat → Bool} {held : Bool} {R q : TypeId} {f0 f1 : Field} {v : Value} {d : DataW H} {p : List MemPlace}
    (hR : P.underlying R = some (.struct #[f0, f1])) (hone : oneCellFields P #[f0, f1] = true) (hC : P.cellsOf R = 2)
    (h0 : P.underlying f0.type = some (.slice q)) (hq : P.underlying q = some (.int .i64)) (cq : P.cellsOf q = 1) (h1 : P.underlying f1.type = some (.int .i64))
    (hv : Value.okWide P W r b0 R v) (h : DataW.Trod enc P W base sp held R v d p) : ∃ z : Hf, True ∧ Hv W v z ∧ (Lit.int .i64 z.2).wf = true := by
  obtain ⟨v0, v1, y0, y1, n, rfl, _, _, k0, k1⟩ := open_agg2 hR hone hC hv h
  obtain ⟨z, e1, _, hw⟩ := DataW.trod_int h1 k1
  simp only [List.cons.injEq, and_true] at e1
  obtain ⟨zs, k2, _⟩ := sl_of_trod h0 hq cq k0
  exact ⟨(zs, z), trivial, ⟨v0, by rw [e1], k2⟩, hw⟩
end
end Go.Proofs.Ytoekgcafhcamjaa
