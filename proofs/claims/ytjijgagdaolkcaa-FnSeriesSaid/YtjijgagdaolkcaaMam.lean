/- append(halves, half) where halves is a slice of halves that the call made; stores of a half; halves and regions as values. -/
import Derived.Test.YtjijgagdaolkcaaMae
import Derived.Test.YtjijgagdaolkcaaRowApp
import Derived.Test.YtjijgagdaolkcaaMab
namespace Go.Proofs.Ytjijgagdaolkcaa
open Go.RowKit Go.Lib

theorem flat_snoc : ∀ (us : List Value) (hs : List Hf) (u : Value) (h : Hf), us.length = hs.length → flat (us ++ [u]) (hs ++ [h]) = flat us hs ++ [u, .int .i64 h.2]
  | [], [], _, _, _ => rfl
  | x :: us, k :: hs, u, h, e => by
    simp only [List.cons_append, flat, flat_snoc us hs u h (by simpa using e)]
/-- Halves that are all zero, as a block that was just made holds them. -/
def zerosH (n : Nat) : List Hf := List.replicate n ([], 0)
theorem flat_zeros : ∀ (n : Nat), (flat (List.replicate n (.slice none 0 0)) (zerosH n)) = (List.replicate n [Value.slice none 0 0, .int .i64 0]).flatten
  | 0 => rfl
  | n + 1 => by
    have := flat_zeros n
    simp only [zerosH, List.replicate_succ, flat, List.flatten_cons, List.cons_append, List.nil_append] at this ⊢
    rw [this]
theorem made_zeros (n : Nat) : (madeCells #[.slice none 0 0, .int .i64 0] (n * 2)).toList = flat (List.replicate n (.slice none 0 0)) (zerosH n) := by
  have hl : (List.replicate n (Value.slice none 0 0)).length = (zerosH n).length := by simp [zerosH]
  refine List.ext_getElem? fun i => ?_
  by_cases hi : i < n * 2
  · have e1 : (madeCells #[.slice none 0 0, .int .i64 0] (n * 2)).toList[i]? = some ((#[Value.slice none 0 0, .int .i64 0] : Array Value)[i % 2]!) := by
      unfold madeCells
      rw [Array.getElem?_toList, Array.getElem?_map]
      simp [hi]
    rw [e1]
    by_cases hm : i % 2 = 0
    · rw [hm]
      have e2 : i = (i / 2) * 2 := by omega
      rw [e2, flat_get0 _ _ _ hl, List.getElem?_replicate, if_pos (by omega)]; rfl
    · have hm1 : i % 2 = 1 := by omega
      rw [hm1]
      have e2 : i = (i / 2) * 2 + 1 := by omega
      rw [e2, flat_get1 _ _ _ hl]
      simp only [zerosH]
      rw [List.getElem?_replicate, if_pos (by omega)]; rfl
  · rw [List.getElem?_eq_none (by rw [Array.length_toList, size_madeCells]; omega), List.getElem?_eq_none (by rw [flat_len _ _ hl]; simp [zerosH]; omega)]
theorem OwH.zeros {T e : TypeId} {base lo hi : Nat} {w : World} {b n : Nat} (h : w.ownsRow base T 2 (.slice (some ⟨b, 0, none⟩) n n) n (madeCells #[.slice none 0 0, .int .i64 0] (n * 2)).toList) (hlo : lo ≤ base) (hhi : b < hi) : OwH T e lo hi w (.slice (some ⟨b, 0, none⟩) n n) (zerosH n) := by
  rw [made_zeros] at h
  have hz : (zerosH n).length = n := by simp [zerosH]
  have key : ∀ (i : Nat) (u : Value), (List.replicate n (Value.slice none 0 0))[i]? = some u → u = .slice none 0 0 := fun i u hu => by
    rw [List.getElem?_replicate] at hu
    split at hu
    · exact (Option.some.inj hu).symm
    · cases hu
  refine ⟨List.replicate n (.slice none 0 0), by simp [zerosH], ?_, fun x hx => (show b = x by simpa [Value.ownBlock] using hx) ▸ hhi, ?_, ?_, ?_⟩
  · rw [hz]; exact Go.Joins.ownsRow_le h hlo
  · intro i u x hu hx
    have : x = ([], 0) := by
      unfold zerosH at hx
      rw [List.getElem?_replicate] at hx
      split at hx
      · exact (Option.some.inj hx).symm
      · cases hx
    rw [key i u hu, this]
    exact OwnV.nil
  · intro i j u u' b _ hu _ hub
    rw [key i u hu] at hub
    cases hub
  · intro i u b hu hub
    rw [key i u hu] at hub
    cases hub

/-- A half whose normal was made just now is stored at place j. -/
theorem OwH.store {T e : TypeId} {lo hi m : Nat} {w w1 : World} {hs : List Hf} {b n c : Nat} (hc : c = hs.length) (h : OwH T e lo m w (.slice (some ⟨b, 0, none⟩) n c) hs) (hb : Below w.heap.size w w1) (hm : m ≤ w.heap.size) (hlo : lo ≤ w.heap.size) (hhi : w1.heap.size ≤ hi)
    (j : Nat) (hj : j < hs.length) {u : Value} {ys : List Int} (z : Int) (hu : OwnV e w.heap.size w1.heap.size w1 u (intVals ys)) :
    OwH T e lo hi ((w1.setCell ⟨b, j * 2, none⟩ u).setCell ⟨b, j * 2 + 1, none⟩ (.int .i64 z)) (.slice (some ⟨b, 0, none⟩) n c) (hs.set j (ys, z)) := by
  have h1 : OwH T e lo hi w1 (.slice (some ⟨b, 0, none⟩) n c) hs := (h.below hb).mono (Nat.le_refl _) (by have := hb.size; omega)
  have hput := h1.put j hj (hu.mono hlo hhi) (fun x hx => by
    have hxp := (hu.place hx).1
    obtain ⟨us, k1, k2, k3, k4, k5, k6⟩ := h
    obtain ⟨g, cap, e1⟩ := Go.Joins.ownsRow_form k2 (by omega)
    simp only [Value.slice.injEq, Option.some.injEq, Addr.mk.injEq] at e1
    obtain ⟨⟨rfl, _, _⟩, rfl, rfl⟩ := e1
    have hbm := k3 b rfl
    refine ⟨by omega, fun i r hr hrx => ?_⟩
    rw [hb.cell (p := ⟨b, i, none⟩) (by show b < w.heap.size; omega)] at hr
    by_cases hi : i < hs.length * 2
    · rw [k2.cellAt i hi] at hr
      by_cases h0 : i % 2 = 0
      · rw [show i = (i / 2) * 2 by omega, flat_get0 us hs _ k1] at hr
        have := (k4 _ _ _ hr (List.getElem?_eq_getElem (by omega))).place hrx
        omega
      · rw [show i = (i / 2) * 2 + 1 by omega, flat_get1 us hs _ k1, List.getElem?_eq_getElem (by omega)] at hr
        simp only [Option.map_some, Option.some.injEq] at hr
        subst hr
        cases hrx
    · rcases k2.2 with ⟨k7, _⟩ | ⟨g, cap, cur, e2, k7, k8, k9, k10, k11, k12⟩
      · cases k7
      · simp only [Value.slice.injEq, Option.some.injEq, Addr.mk.injEq] at e2
        obtain ⟨⟨rfl, _, _⟩, _, rfl⟩ := e2
        rw [cell_of_row _ _ _ _ _ _ k8, Array.getElem?_eq_none (by omega)] at hr
        cases hr)
  have hb2 := hput.bound j (by rw [List.length_set]; exact hj) z
  rw [List.set_set, List.getElem_set_self] at hb2
  exact hb2

/-- A half is put behind the others. -/
theorem OwH.snoc {T e : TypeId} {base m : Nat} {w w' : World} {v v' u : Value} {hs : List Hf} {h : Hf} (_hown : OwH T e base m w v hs) (hu : OwnV e m w.heap.size w u (intVals h.1)) (hbm : base ≤ m) (hm : m ≤ w.heap.size)
    {us : List Value} (hus : us.length = hs.length ∧ w.ownsRow base T 2 v hs.length (flat us hs) ∧ (∀ (i : Nat) u h, us[i]? = some u → hs[i]? = some h → OwnV e base m w u (intVals h.1)) ∧
      (∀ (i j : Nat) u u' b, i ≠ j → us[i]? = some u → us[j]? = some u' → u.ownBlock = some b → u'.ownBlock ≠ some b) ∧ (∀ (i : Nat) u b, us[i]? = some u → u.ownBlock = some b → v.ownBlock ≠ some b))
    (hvm : ∀ b, v.ownBlock = some b → b < m)
    (hr : w'.ownsRow base T 2 v' (hs.length + 1) (flat us hs ++ [u, .int .i64 h.2])) (hg : w.grownBy w' v.ownBlock) (hat : ∀ b, v'.ownBlock = some b → v.ownBlock = some b ∨ w.heap.size ≤ b) : OwH T e base w'.heap.size w' v' (hs ++ [h]) := by
  obtain ⟨h1, h2, h3, h4, h5⟩ := hus
  have get : ∀ (i : Nat) x, (us ++ [u])[i]? = some x → (us[i]? = some x ∧ i < us.length) ∨ (i = us.length ∧ x = u) := by
    intro i x hx
    by_cases hi : i < us.length
    · rw [List.getElem?_append_left hi] at hx; exact .inl ⟨hx, hi⟩
    · rw [List.getElem?_append_right (by omega)] at hx
      have : i - us.length < 1 := by have := lt_of_get hx; simpa using this
      have hz : i - us.length = 0 := by omega
      rw [hz] at hx
      exact .inr ⟨by omega, by simpa using hx.symm⟩
  have place : ∀ (i : Nat) x b, us[i]? = some x → x.ownBlock = some b → b < m := fun i x b hx hb => by
    have hi := lt_of_get hx
    exact ((h3 i x _ hx (List.getElem?_eq_getElem (by omega))).place hb).2.1
  have huv : ∀ b, u.ownBlock = some b → some b ≠ v.ownBlock := fun b hb e => by
    have p1 := (hu.place hb).1
    have p2 := hvm b e.symm
    omega
  refine ⟨us ++ [u], by rw [List.length_append, List.length_append, h1]; rfl, ?_, ?_, ?_, ?_, ?_⟩
  · rw [flat_snoc us hs u h h1, List.length_append]; exact hr
  · intro b hb; exact (hr.lt b hb).2
  · intro i x zs hx hz
    rcases get i x hx with ⟨hx', hi⟩ | ⟨rfl, rfl⟩
    · rw [List.getElem?_append_left (by omega)] at hz
      exact ((h3 i x zs hx' hz).grown hg (fun b hb e => h5 i x b hx' hb e.symm)).mono (Nat.le_refl _) (Nat.le_trans hm hg.size)
    · rw [h1, List.getElem?_append_right (Nat.le_refl _), Nat.sub_self] at hz
      obtain rfl : h = zs := by simpa using hz
      exact (hu.grown hg huv).mono hbm hg.size
  · intro i j x y b hij hx hy hxb
    rcases get i x hx with ⟨hx', _⟩ | ⟨rfl, rfl⟩
    · rcases get j y hy with ⟨hy', _⟩ | ⟨rfl, rfl⟩
      · exact h4 i j x y b hij hx' hy' hxb
      · intro hyb
        have p1 := (hu.place hyb).1
        have p2 := place i x b hx' hxb
        omega
    · rcases get j y hy with ⟨hy', _⟩ | ⟨rfl, rfl⟩
      · intro hyb
        have p1 := (hu.place hxb).1
        have p2 := place j y b hy' hyb
        omega
      · exact absurd rfl hij
  · intro i x b hx hxb hvb
    rcases get i x hx with ⟨hx', _⟩ | ⟨rfl, rfl⟩
    · rcases hat b hvb with h | h
      · exact h5 i x b hx' hxb h
      · have := place i x b hx' hxb; omega
    · rcases hat b hvb with h | h
      · exact huv b hxb h.symm
      · have := (hu.place hxb).2.2; omega
/-- A half, a region as values that read so. -/
def Hv (w : World) (v : Value) (h : Hf) : Prop := ∃ u, v = .agg #[u, .int .i64 h.2] ∧ Sl w u (intVals h.1)
theorem Hv.below {w w' : World} {v : Value} {h : Hf} (k : Hv w v h) (hb : Below w.heap.size w w') : Hv w' v h := by
  obtain ⟨u, e, k⟩ := k
  exact ⟨u, e, k.below hb⟩
abbrev Rgn := Int × List Hf
def Rg (w : World) (v : Value) (r : Rgn) : Prop := ∃ u, v = .agg #[.int .i64 r.1, u] ∧ Hs w u r.2
theorem Rg.below {w w' : World} {v : Value} {r : Rgn} (k : Rg w v r) (hb : Below w.heap.size w w') : Rg w' v r := by
  obtain ⟨u, e, k⟩ := k
  exact ⟨u, e, k.below hb⟩
/-- A half, a region that the call made itself. -/
def OwHv (lo hi : Nat) (w : World) (v : Value) (h : Hf) : Prop := ∃ u, v = .agg #[u, .int .i64 h.2] ∧ OwnV 3 lo hi w u (intVals h.1)
theorem OwHv.hv {lo hi : Nat} {w : World} {v : Value} {h : Hf} (k : OwHv lo hi w v h) : Hv w v h := by
  obtain ⟨u, e, k⟩ := k
  exact ⟨u, e, k.sl⟩
theorem OwHv.below {lo hi : Nat} {w w' : World} {v : Value} {h : Hf} (k : OwHv lo hi w v h) (hb : Below w.heap.size w w') : OwHv lo hi w' v h := by
  obtain ⟨u, e, k⟩ := k
  exact ⟨u, e, k.below hb⟩
theorem OwHv.kept {lo hi a b : Nat} {w w' : World} {v : Value} {h : Hf} (k : OwHv lo hi w v h) (hk : Kept a b w w') (hd : hi ≤ a ∨ b ≤ lo) : OwHv lo hi w' v h := by
  obtain ⟨u, e, k⟩ := k
  exact ⟨u, e, k.kept hk hd⟩
theorem OwHv.mono {lo hi lo' hi' : Nat} {w : World} {v : Value} {h : Hf} (k : OwHv lo hi w v h) (h1 : lo' ≤ lo) (h2 : hi ≤ hi') : OwHv lo' hi' w v h := by
  obtain ⟨u, e, k⟩ := k
  exact ⟨u, e, k.mono h1 h2⟩
def MadeHv (w : World) (h : Hf) (e : Ending) (w' : World) : Prop := (∃ v, e = .returned v ∧ OwHv w.heap.size w'.heap.size w' v h) ∧ Below w.heap.size w w'
end Go.Proofs.Ytjijgagdaolkcaa
/- Halves and regions that came in as arguments. -/
namespace Go.Proofs.Ytjijgagdaolkcaa
open Go Go.RowKit Go.ChangeShapes Go.WideShapes Go.Deep Go.Joins
theorem agg_snd {x y z t : Value} (h : Value.agg #[x, y] = Value.agg #[z, t]) : y = t := by
  simp only [Value.agg.injEq] at h
  exact Option.some.inj (show some y = some t from congrArg (fun a : Array Value => a[1]?) h)
theorem half_le_tot {hs : List Hf} {k : Nat} (h : k < hs.length) : hs[k].1.length ≤ totN hs := by
  have h1 := totN_take h
  have h2 := totN_take_le hs (k + 1)
  omega
theorem drew_below {w w1 : World} (hb : Below w.drew.heap.size w.drew w1) : Below w.heap.size w w1 := (Below.refl w.heap.size w).drew.trans hb
section
variable {H : Type} {enc : TypeId × Value → H} {P : Program}
theorem hs_of_trod {W : World} {base : Nat} {sp : Nat → Bool} {held : Bool} {t e q : TypeId} {f0 f1 : Field} {fuel : Nat} {v : Value} {x : DataW H × List MemPlace}
    (ht : P.underlying t = some (.slice e)) (he : P.underlying e = some (.struct #[f0, f1])) (ce : P.cellsOf e = 2) (o0 : f0.offset = 0) (o1 : f1.offset = 1) (c0 : P.cellsOf f0.type = 1) (c1 : P.cellsOf f1.type = 1)
    (h0 : P.underlying f0.type = some (.slice q)) (hq : P.underlying q = some (.int .i64)) (cq : P.cellsOf q = 1) (h1 : P.underlying f1.type = some (.int .i64))
    (h : DataW.trod enc P W base sp held fuel t [v] = some x) :
    ∃ hs : List Hf, Hs W v hs ∧ HWf hs := by
  rcases open_slice_pairs ht he ce o0 o1 c0 c1 h with ⟨hcs, _⟩ | ⟨a', len', cap', m, n, V0, V1, D0, D1, P0, P1, hcs, _⟩
  · simp only [List.cons.injEq, and_true] at hcs
    subst hcs
    obtain ⟨hs, _, h2, h3⟩ := halves_came ht he ce o0 o1 c0 c1 h0 hq cq h1 h
    exact ⟨hs, h2, h3⟩
  · simp only [List.cons.injEq, and_true] at hcs
    subst hcs
    obtain ⟨hs, _, h2, h3⟩ := halves_came ht he ce o0 o1 c0 c1 h0 hq cq h1 h
    exact ⟨hs, h2, h3⟩
theorem rg_came {W : World} {base b0 : Nat} {r : Reach} {sp : Nat → Bool} {held : Bool} {R e q : TypeId} {g0 g1 f0 f1 : Field} {v : Value} {d : DataW H} {p : List MemPlace}
    (hR : P.underlying R = some (.struct #[g0, g1])) (hone : oneCellFields P #[g0, g1] = true) (hC : P.cellsOf R = 2) (hi : P.underlying g0.type = some (.int .i64)) (ht : P.underlying g1.type = some (.slice e))
    (he : P.underlying e = some (.struct #[f0, f1])) (ce : P.cellsOf e = 2) (o0 : f0.offset = 0) (o1 : f1.offset = 1) (c0 : P.cellsOf f0.type = 1) (c1 : P.cellsOf f1.type = 1)
    (h0 : P.underlying f0.type = some (.slice q)) (hq : P.underlying q = some (.int .i64)) (cq : P.cellsOf q = 1) (h1 : P.underlying f1.type = some (.int .i64))
    (hv : Value.okWide P W r b0 R v) (h : DataW.Trod enc P W base sp held R v d p) : ∃ z : Rgn, True ∧ Rg W v z ∧ (Lit.int .i64 z.1).wf = true ∧ HWf z.2 := by
  obtain ⟨v0, v1, y0, y1, n, rfl, _, _, k0, k1⟩ := open_agg2 hR hone hC hv h
  obtain ⟨z, e1, _, hw⟩ := DataW.trod_int hi k0
  simp only [List.cons.injEq, and_true] at e1
  obtain ⟨hs, k2, k3⟩ := hs_of_trod ht he ce o0 o1 c0 c1 h0 hq cq h1 k1
  exact ⟨(z, hs), trivial, ⟨v1, by rw [e1], k2⟩, hw, k3⟩
theorem hv_came {W : World} {base b0 : Nat} {r : Reach} {sp : Nat → Bool} {held : Bool} {R q : TypeId} {f0 f1 : Field} {v : Value} {d : DataW H} {p : List MemPlace}
    (hR : P.underlying R = some (.struct #[f0, f1])) (hone : oneCellFields P #[f0, f1] = true) (hC : P.cellsOf R = 2)
    (h0 : P.underlying f0.type = some (.slice q)) (hq : P.underlying q = some (.int .i64)) (cq : P.cellsOf q = 1) (h1 : P.underlying f1.type = some (.int .i64))
    (hv : Value.okWide P W r b0 R v) (h : DataW.Trod enc P W base sp held R v d p) : ∃ z : Hf, True ∧ Hv W v z ∧ (Lit.int .i64 z.2).wf = true := by
  obtain ⟨v0, v1, y0, y1, n, rfl, _, _, k0, k1⟩ := open_agg2 hR hone hC hv h
  obtain ⟨z, e1, _, hw⟩ := DataW.trod_int h1 k1
  simp only [List.cons.injEq, and_true] at e1
  obtain ⟨zs, k2, _⟩ := sl_of_trod h0 hq cq k0
  exact ⟨(zs, z), trivial, ⟨v0, by rw [e1], k2⟩, hw⟩
end
end Go.Proofs.Ytjijgagdaolkcaa
/- Copies of halves and regions. -/
namespace Go.Proofs.Ytjijgagdaolkcaa
open Go.RowKit Go.Lib

def filledH (hs : List Hf) (k : Nat) : List Hf := hs.take k ++ zerosH (hs.length - k)
theorem filledH_len (hs : List Hf) (k : Nat) (h : k ≤ hs.length) : (filledH hs k).length = hs.length := by simp [filledH, zerosH]; omega
theorem filledH_all (hs : List Hf) : filledH hs hs.length = hs := by simp [filledH, zerosH]
theorem filledH_zero (hs : List Hf) : filledH hs 0 = zerosH hs.length := by simp [filledH]
theorem filledH_step (hs : List Hf) (k : Nat) (h : k < hs.length) : (filledH hs k).set k hs[k] = filledH hs (k + 1) := by
  unfold filledH zerosH
  rw [List.set_append_right _ _ (by rw [List.length_take]; omega), List.length_take, Nat.min_eq_left (by omega), Nat.sub_self]
  rw [show hs.length - k = (hs.length - (k + 1)) + 1 from by omega, List.replicate_succ, List.set_cons_zero, List.take_succ_eq_append_getElem h, List.append_assoc]
  rfl

end Go.Proofs.Ytjijgagdaolkcaa
/- The measure of halves and regions. -/
namespace Go.Proofs.Ytjijgagdaolkcaa
open Go.RowKit Go.Lib

theorem szI_small {left n : Int} (h : left < n) : szI left n = -1 := if_pos h
theorem szI_fits {left n : Int} (h : ¬ left < n) : szI left n = left - n := if_neg h
theorem szHs_small {hs : List Hf} {left : Int} (h : left < hs.length + totN hs) : szHs hs left = -1 := if_pos h
theorem szHs_fits {hs : List Hf} {left : Int} (h : ¬ left < hs.length + totN hs) : szHs hs left = left - hs.length - totN hs := if_neg h

end Go.Proofs.Ytjijgagdaolkcaa
