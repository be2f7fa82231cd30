/- out[p] = out[q]; out[q] = x: two rows of one slice change their places, the second anew. -/
import Derived.Test.YteenheidomfpkaaRw
namespace Go.Proofs.Yteenheidomfpkaa
open Go Go.RowKit

theorem OwR.swap {T e : TypeId} {lo hi : Nat} {w : World} {zss : List (List Int)} {b n c : Nat} (h : OwR T e lo hi w (.slice (some ⟨b, 0, none⟩) n c) zss) (p q : Nat) (hp : p < zss.length) (hq : q < zss.length) (hpq : p ≠ q) {vq : Value} (hvq : w.cell? ⟨b, q, none⟩ = some vq)
    {x : Value} {ys : List Int} (hx : OwnV e lo hi w x (intVals ys)) (hne : ∀ y, x.ownBlock = some y → y ≠ b ∧ ∀ (i : Nat) r, i < zss.length → w.cell? ⟨b, i, none⟩ = some r → r.ownBlock ≠ some y) :
    OwR T e lo hi ((w.setCell ⟨b, p, none⟩ vq).setCell ⟨b, q, none⟩ x) (.slice (some ⟨b, 0, none⟩) n c) ((zss.set p zss[q]).set q ys) := by
  obtain ⟨vs, h1, h2, h3, h4, h5⟩ := h
  have hpv : p < vs.length := by omega
  have hqv : q < vs.length := by omega
  obtain ⟨b', cap, e1, hb1, hb2⟩ := h2.form (by omega)
  simp only [Value.slice.injEq, Option.some.injEq, Addr.mk.injEq] at e1
  obtain ⟨⟨rfl, _, _⟩, rfl, rfl⟩ := e1
  have ho := h2.owns
  have hcell : ∀ i r, vs[i]? = some r → w.cell? ⟨b, i, none⟩ = some r := fun i r hr => by rw [ho.cellAt i (by have := lt_of_get hr; omega)]; exact hr
  have hvq' : vs[q]? = some vq := by rw [ho.cellAt q (by omega)] at hvq; exact hvq
  have hst1 := (ho.stored p vq).1
  have hst := (hst1.stored q x).1
  have hkept : Kept b (b + 1) w ((w.setCell ⟨b, p, none⟩ vq).setCell ⟨b, q, none⟩ x) := ((Kept.refl b (b + 1) w).setCell (p := ⟨b, p, none⟩) (Nat.le_refl _) (Nat.lt_succ_self _) vq).setCell (p := ⟨b, q, none⟩) (Nat.le_refl _) (Nat.lt_succ_self _) x
  have hown2 : OwnV T lo hi ((w.setCell ⟨b, p, none⟩ vq).setCell ⟨b, q, none⟩ x) (.slice (some ⟨b, 0, none⟩) vs.length c) ((vs.set p vq).set q x) := by
    have h6 := OwnV.of_owns hst
    rcases h6 with ⟨h7, _⟩ | ⟨g, cap, cur, e2, h8, _, h9⟩
    · have h8 := congrArg List.length h7
      rw [List.length_set, List.length_set, List.length_nil] at h8
      omega
    · simp only [Value.slice.injEq, Option.some.injEq, Addr.mk.injEq] at e2
      obtain ⟨⟨rfl, _, _⟩, e3, rfl⟩ := e2
      exact .inr ⟨b, c, cur, by rw [List.length_set, List.length_set], hb1, hb2, h9⟩
  have get : ∀ (i : Nat) r, ((vs.set p vq).set q x)[i]? = some r → (i = q ∧ r = x) ∨ (i ≠ q ∧ vs[if i = p then q else i]? = some r) := by
    intro i r hr
    rw [get_set _ _ _ _ (by rw [List.length_set]; exact hqv), get_set _ _ _ _ hpv] at hr
    by_cases hiq : i = q
    · rw [if_pos hiq] at hr; exact .inl ⟨hiq, (Option.some.inj hr).symm⟩
    · rw [if_neg hiq] at hr
      refine .inr ⟨hiq, ?_⟩
      by_cases hip : i = p
      · rw [if_pos hip] at hr ⊢; rw [hvq']; exact hr
      · rw [if_neg hip] at hr ⊢; exact hr
  refine ⟨(vs.set p vq).set q x, by simp only [List.length_set]; exact h1, hown2, ?_, ?_, ?_⟩
  · intro i r zs hr hz
    rw [get_set _ _ _ _ (by rw [List.length_set]; exact hq), get_set _ _ _ _ hp] at hz
    rcases get i r hr with ⟨rfl, rfl⟩ | ⟨hiq, hs⟩
    · rw [if_pos rfl] at hz
      obtain rfl := Option.some.inj hz
      exact hx.far hkept (fun hub => (hne b hub).1 rfl)
    · rw [if_neg hiq] at hz
      by_cases hip : i = p
      · rw [if_pos hip] at hz hs
        obtain rfl := Option.some.inj hz
        exact (h3 q r _ hs (List.getElem?_eq_getElem hq)).far hkept (fun hub => h5 q r b hs hub rfl)
      · rw [if_neg hip] at hz hs
        exact (h3 i r zs hs hz).far hkept (fun hub => h5 i r b hs hub rfl)
  · intro i k r s y hik hr hs hry
    rcases get i r hr with ⟨rfl, rfl⟩ | ⟨hiq, hr'⟩
    · rcases get k s hs with ⟨rfl, _⟩ | ⟨hkq, hs'⟩
      · exact absurd rfl hik
      · exact (hne y hry).2 _ s (by have := lt_of_get hs'; omega) (hcell _ s hs')
    · rcases get k s hs with ⟨rfl, rfl⟩ | ⟨hkq, hs'⟩
      · intro hsy
        exact (hne y hsy).2 _ r (by have := lt_of_get hr'; omega) (hcell _ r hr') hry
      · refine h4 _ _ r s y ?_ hr' hs' hry
        by_cases hip : i = p
        · rw [if_pos hip, if_neg (by omega)]; omega
        · rw [if_neg hip]
          by_cases hkp : k = p
          · rw [if_pos hkp]; omega
          · rw [if_neg hkp]; exact hik
  · intro i r y hr hry
    rcases get i r hr with ⟨rfl, rfl⟩ | ⟨hiq, hr'⟩
    · intro hb
      have : b = y := by simpa [Value.ownBlock] using hb
      exact (hne y hry).1 this.symm
    · exact h5 _ r y hr' hry
/-- A row of a slice of slices lies in a block that was there. -/
theorem OwR.row_lt {T e : TypeId} {lo hi : Nat} {w : World} {zss : List (List Int)} {b n c : Nat} (h : OwR T e lo hi w (.slice (some ⟨b, 0, none⟩) n c) zss) (i : Nat) (r : Value) (hi' : i < zss.length) (hr : w.cell? ⟨b, i, none⟩ = some r) {y : Nat} (hy : r.ownBlock = some y) : y < hi := by
  obtain ⟨b', u, e1, _, _, _, hc, _, hu, _, _⟩ := h.at i hi' rfl
  simp only [Option.some.injEq, Addr.mk.injEq, and_true] at e1
  subst e1
  rw [hc] at hr
  obtain rfl := Option.some.inj hr
  exact (hu.place hy).2.1
/-- The same with a second row that was made since. -/
theorem OwR.swap_new {T e : TypeId} {lo B : Nat} {w w2 : World} {zss : List (List Int)} {b n c : Nat} (h : OwR T e lo w.heap.size w (.slice (some ⟨b, 0, none⟩) n c) zss) (hb : Below w.heap.size w w2) (hlo : lo ≤ w.heap.size) (p q : Nat) (hp : p < zss.length) (hq : q < zss.length) (hpq : p ≠ q) {vq : Value} (hvq : w2.cell? ⟨b, q, none⟩ = some vq)
    {x : Value} {ys : List Int} (hx : OwnV e B w2.heap.size w2 x (intVals ys)) (hB : w.heap.size ≤ B) :
    OwR T e lo ((w2.setCell ⟨b, p, none⟩ vq).setCell ⟨b, q, none⟩ x).heap.size ((w2.setCell ⟨b, p, none⟩ vq).setCell ⟨b, q, none⟩ x) (.slice (some ⟨b, 0, none⟩) n c) ((zss.set p zss[q]).set q ys) := by
  have hsz : ((w2.setCell ⟨b, p, none⟩ vq).setCell ⟨b, q, none⟩ x).heap.size = w2.heap.size := by simp [World.setCell]
  rw [hsz]
  obtain ⟨b', u', e1, _, hbl, hbs, _⟩ := h.at p hp rfl
  simp only [Option.some.injEq, Addr.mk.injEq, and_true] at e1
  subst e1
  refine ((h.below hb).mono (Nat.le_refl lo) hb.size).swap p q hp hq hpq hvq (hx.mono (Nat.le_trans hlo hB) (Nat.le_refl _)) ?_
  intro y hy
  have hyl := (hx.place hy).1
  refine ⟨by omega, fun i r hi hr hry => ?_⟩
  rw [hb.cell (p := ⟨b, i, none⟩) hbs] at hr
  have := h.row_lt i r hi hr hry
  omega
/-- A row that was made since is put into place j. -/
theorem OwR.set_new {T e : TypeId} {lo B : Nat} {w w2 : World} {zss : List (List Int)} {b n c : Nat} (h : OwR T e lo w.heap.size w (.slice (some ⟨b, 0, none⟩) n c) zss) (hb : Below w.heap.size w w2) (hlo : lo ≤ w.heap.size) (j : Nat) (hj : j < zss.length) {x : Value} {ys : List Int} (hx : OwnV e B w2.heap.size w2 x (intVals ys)) (hB : w.heap.size ≤ B) :
    OwR T e lo (w2.setCell ⟨b, j, none⟩ x).heap.size (w2.setCell ⟨b, j, none⟩ x) (.slice (some ⟨b, 0, none⟩) n c) (zss.set j ys) := by
  have hsz : (w2.setCell ⟨b, j, none⟩ x).heap.size = w2.heap.size := by simp [World.setCell]
  rw [hsz]
  have h2 := (h.below hb).mono (Nat.le_refl lo) hb.size
  obtain ⟨b', u', e1, _, hbl, hbs, hcj, _⟩ := h.at j hj rfl
  simp only [Option.some.injEq, Addr.mk.injEq, and_true] at e1
  subst e1
  have hx2 := hx.mono (Nat.le_trans hlo hB) (Nat.le_refl w2.heap.size)
  obtain ⟨vs, k1, k2, k3, k4, k5⟩ := h2
  have hjv : j < vs.length := by omega
  obtain ⟨b', cap, e1, hb1, hb2⟩ := k2.form (by omega)
  simp only [Value.slice.injEq, Option.some.injEq, Addr.mk.injEq] at e1
  obtain ⟨⟨rfl, _, _⟩, rfl, rfl⟩ := e1
  have ho := k2.owns
  have hst := (ho.stored j x).1
  have hkept : Kept b (b + 1) w2 (w2.setCell ⟨b, j, none⟩ x) := (Kept.refl b (b + 1) w2).setCell (p := ⟨b, j, none⟩) (Nat.le_refl _) (Nat.lt_succ_self _) x
  have hcell : ∀ i r, vs[i]? = some r → w2.cell? ⟨b, i, none⟩ = some r := fun i r hr => by rw [ho.cellAt i (by have := lt_of_get hr; omega)]; exact hr
  have hfar : ∀ y, x.ownBlock = some y → y ≠ b ∧ ∀ (i : Nat) r, vs[i]? = some r → r.ownBlock ≠ some y := fun y hy => by
    have hyl := (hx.place hy).1
    refine ⟨by omega, fun i r hi hry => ?_⟩
    have hr := hcell i r hi
    rw [hb.cell (p := ⟨b, i, none⟩) hbs] at hr
    have := h.row_lt i r (by have := lt_of_get hi; omega) hr hry
    omega
  have hown2 : OwnV T lo w2.heap.size (w2.setCell ⟨b, j, none⟩ x) (.slice (some ⟨b, 0, none⟩) vs.length c) (vs.set j x) := by
    have h6 := OwnV.of_owns hst
    rcases h6 with ⟨h7, _⟩ | ⟨g, cap, cur, e2, h8, _, h9⟩
    · have h8 := congrArg List.length h7
      rw [List.length_set, List.length_nil] at h8
      omega
    · simp only [Value.slice.injEq, Option.some.injEq, Addr.mk.injEq] at e2
      obtain ⟨⟨rfl, _, _⟩, e3, rfl⟩ := e2
      exact .inr ⟨b, c, cur, by rw [List.length_set], hb1, hb2, h9⟩
  refine ⟨vs.set j x, by rw [List.length_set, List.length_set, k1], hown2, ?_, ?_, ?_⟩
  · intro i y zs hy hz
    rw [get_set _ _ _ _ hjv] at hy
    rw [get_set _ _ _ _ hj] at hz
    split at hy
    · rename_i hij
      rw [if_pos hij] at hz
      obtain rfl := Option.some.inj hy
      obtain rfl := Option.some.inj hz
      exact hx2.far hkept (fun hub => (hfar b hub).1 rfl)
    · rename_i hij
      rw [if_neg hij] at hz
      exact (k3 i y zs hy hz).far hkept (fun hub => k5 i y b hy hub rfl)
  · intro i k s t q hik hs ht hsq
    rw [get_set _ _ _ _ hjv] at hs ht
    split at hs
    · rename_i hij
      rw [if_neg (by omega)] at ht
      obtain rfl := Option.some.inj hs
      exact (hfar q hsq).2 k t ht
    · split at ht
      · obtain rfl := Option.some.inj ht
        intro htq
        exact (hfar q htq).2 i s hs hsq
      · exact k4 i k s t q hik hs ht hsq
  · intro i s q hs hsq
    rw [get_set _ _ _ _ hjv] at hs
    split at hs
    · obtain rfl := Option.some.inj hs
      intro hbq
      have : b = q := by simpa [Value.ownBlock] using hbq
      exact (hfar q hsq).1 this.symm
    · exact k5 i s q hs hsq
end Go.Proofs.Yteenheidomfpkaa
