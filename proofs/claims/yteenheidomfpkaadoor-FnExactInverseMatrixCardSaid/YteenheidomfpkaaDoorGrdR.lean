/- The program's rows out of its array: rowsOf. -/
import Derived.Test.YteenheidomfpkaaDoorGrdI
import Derived.Test.YteenheidomfpkaaDoorRowApp
import Derived.Test.YteenheidomfpkaaDoorLtV
namespace Go.Proofs.YteenheidomfpkaaDoor
open Go.RowKit Go.Lib

def matR (z : List (List Int)) : List (List Int) × Bool := if isM z = true then (z, true) else ([], false)
/-- Rows that are all nil, in a block that was just made. -/
theorem owr_nils {T e : TypeId} {w : World} {B base n : Nat} (hB : w.heap.size = B) (hb : base ≤ w.heap.size) (hn : n ≤ maxLen) (cs : Array Value) (hc : cs.toList = List.replicate n (.slice none 0 0)) :
    OwR T e base (w.alloc (.cells cs T)).heap.size (w.alloc (.cells cs T)) (.slice (some ⟨B, 0, none⟩) n n) (List.replicate n []) := by
  subst hB
  have key : ∀ (i : Nat) (u : Value), (List.replicate n (Value.slice none 0 0))[i]? = some u → u = .slice none 0 0 := fun i u hu => by
    rw [List.getElem?_replicate] at hu
    split at hu
    · exact (Option.some.inj hu).symm
    · cases hu
  refine ⟨List.replicate n (.slice none 0 0), by simp, .inr ⟨w.heap.size, n, cs, by simp, hb, by simp, heap_alloc_new w _, by simp, hn, ?_, ?_⟩, ?_, ?_, ?_⟩
  · rw [← Array.length_toList, hc, List.length_replicate]
  · rw [hc]; simp
  · intro i u zs hu hz
    have hz2 : zs = [] := by
      rw [List.getElem?_replicate] at hz
      split at hz
      · exact (Option.some.inj hz).symm
      · cases hz
    rw [key i u hu, hz2]
    exact OwnV.nil
  · intro i j u u' b _ hu _ hub
    rw [key i u hu] at hub
    cases hub
  · intro i u b hu hub
    rw [key i u hu] at hub
    cases hub
/-- A row that was made just now is put into place j of a block without spare cells. -/
theorem OwR.put_new {T e : TypeId} {lo : Nat} {w w2 : World} {zss : List (List Int)} {b n : Nat} (hn : n = zss.length) (h : OwR T e lo w.heap.size w (.slice (some ⟨b, 0, none⟩) n n) zss) (hb : Below w.heap.size w w2) (hlo : lo ≤ w.heap.size) (j : Nat) (hj : j < zss.length) {u : Value} {ys : List Int}
    (hu : OwnV e w.heap.size w2.heap.size w2 u (intVals ys)) : OwR T e lo (w2.setCell ⟨b, j, none⟩ u).heap.size (w2.setCell ⟨b, j, none⟩ u) (.slice (some ⟨b, 0, none⟩) n n) (zss.set j ys) := by
  subst hn
  rw [show (w2.setCell ⟨b, j, none⟩ u).heap.size = w2.heap.size by simp [World.setCell]]
  have h2 := (h.below hb).mono (Nat.le_refl lo) hb.size
  refine h2.put j hj (hu.mono hlo (Nat.le_refl _)) ?_
  intro x hx
  have hxp := (hu.place hx).1
  obtain ⟨b', u', e1, hlb, hbl, hbs, _⟩ := h.at j hj rfl
  simp only [Option.some.injEq, Addr.mk.injEq] at e1
  obtain ⟨rfl, _, _⟩ := e1
  refine ⟨by omega, fun i r hr hrx => ?_⟩
  rw [hb.cell (p := ⟨b, i, none⟩) hbs] at hr
  obtain ⟨vs, k1, k2, k3, k4, k5⟩ := h
  rcases k2 with ⟨k6, _⟩ | ⟨g, cap, cur, e2, k7, k8, k9, k10, k11, k12, k13⟩
  · rw [k6] at k1; simp at k1; omega
  · simp only [Value.slice.injEq, Option.some.injEq, Addr.mk.injEq] at e2
    obtain ⟨⟨rfl, _, _⟩, e3, rfl⟩ := e2
    rw [cell_of_row _ _ _ _ _ _ k9] at hr
    have hcv : cur.toList = vs := by rw [← k13]; exact (List.take_of_length_le (by rw [Array.length_toList, k12]; omega)).symm
    have hv : vs[i]? = some r := by rw [← hcv, Array.getElem?_toList]; exact hr
    have hi := lt_of_get hv
    have hp := (k3 i r _ hv (List.getElem?_eq_getElem (by omega))).place hrx
    omega
theorem G9.sl {w : World} {B : Nat} {T : TypeId} {a b c d e f g h i : Int} (k : G9 w B T a b c d e f g h i) (n : Nat) (hn : n ≤ 3) :
    Sl w (.slice (some ⟨B, 0, none⟩) n 3) (intVals ([a, b, c].take n)) ∧ Sl w (.slice (some ⟨B, 3, none⟩) n 3) (intVals ([d, e, f].take n)) ∧ Sl w (.slice (some ⟨B, 6, none⟩) n 3) (intVals ([g, h, i].take n)) := by
  have key : ∀ (o : Nat) (x y z : Int), w.cell? ⟨B, o, none⟩ = some (.int .i64 x) → w.cell? ⟨B, o + 1, none⟩ = some (.int .i64 y) → w.cell? ⟨B, o + 2, none⟩ = some (.int .i64 z) → Sl w (.slice (some ⟨B, o, none⟩) n 3) (intVals ([x, y, z].take n)) := by
    intro o x y z h0 h1 h2
    refine sl_of_cells (by rw [intVals_len, List.length_take]; simp; omega) hn (by unfold maxLen; omega) ?_
    intro i u hi
    have hlt : i < n := by
      by_cases hh : i < n
      · exact hh
      · rw [List.getElem?_eq_none (by rw [intVals_len, List.length_take]; omega)] at hi; cases hi
    have h3 : (⟨B, o, none⟩ : Addr).add i = ⟨B, o + i, none⟩ := by unfold Addr.add; split <;> simp_all
    rw [h3, ← hi]
    simp only [intVals, List.getElem?_map, List.getElem?_take_of_lt hlt]
    match i, (by omega : i < 3) with
    | 0, _ => exact h0
    | 1, _ => exact h1
    | 2, _ => exact h2
  obtain ⟨⟨c0, c1, c2⟩, ⟨c3, c4, c5⟩, c6, c7, c8⟩ := k.cells
  exact ⟨key 0 a b c c0 c1 c2, key 3 d e f c3 c4 c5, key 6 g h i c6 c7 c8⟩

/-- The rows of a grid's block read as triples. -/
theorem G9.rd {w : World} {B : Nat} {T : TypeId} {a b c d e f g h i : Int} (k : G9 w B T a b c d e f g h i) (n : Nat) (hn : n ≤ 3) : Rd3 w (.slice (some ⟨B, 0, none⟩) n 3) (([(a, b, c), (d, e, f), (g, h, i)] : List T3).take n) := by
  obtain ⟨⟨c0, c1, c2⟩, ⟨c3, c4, c5⟩, c6, c7, c8⟩ := k.cells
  refine ⟨_, 3, by rw [List.length_take]; simp; omega, by rw [List.length_take]; simp; omega, by unfold maxLen; omega, fun j hj => ⟨B, 0, rfl, k.lt, ?_⟩⟩
  rw [List.length_take] at hj
  simp only [List.getElem_take]
  match j, (by omega : j < 3) with
  | 0, _ => exact ⟨c0, c1, c2⟩
  | 1, _ => exact ⟨c3, c4, c5⟩
  | 2, _ => exact ⟨c6, c7, c8⟩
set_option maxRecDepth 100000 in
set_option maxHeartbeats 1600000 in
theorem i_rows1 (x0 x1 x2 x3 x4 x5 x6 x7 x8 : Int) (w : World) :
    Calls Tryd.prog 21 #[.agg #[.int .i64 x0, .int .i64 x1, .int .i64 x2, .int .i64 x3, .int .i64 x4, .int .i64 x5, .int .i64 x6, .int .i64 x7, .int .i64 x8], .int .i64 1] w (GotR w (matR [[x0]])) := by
  have K0 := Lib.hid (G9.new w 37 x0 x1 x2 x3 x4 x5 x6 x7 x8)
  have B0 := Lib.hid (below1 w (.cells #[.int .i64 x0, .int .i64 x1, .int .i64 x2, .int .i64 x3, .int .i64 x4, .int .i64 x5, .int .i64 x6, .int .i64 x7, .int .i64 x8] 37))
  have R0 := Lib.hid (show Rd3 _ _ [(x0, x1, x2)] from K0.out.rd 1 (by omega))
  generalize hz : matR [[x0]] = R
  have HZ := Lib.hid hz
  clear hz
  go_enter Tryd.func21, Tryd.ntmps21
  go_wp2_with fail
  refine (i_vecs1 [(x0, x1, x2)] (by simp) _ _ R0.out).mono ?_
  rintro e w1 ⟨⟨v0, rfl, ho⟩, hb⟩
  replace ho : OwR 30 3 _ _ w1 v0 [[x0]] := ho
  have O1 := Lib.hid (ho.mono B0.out.size (Nat.le_refl _))
  have B1 := Lib.hid (B0.out.trans (hb.mono B0.out.size))
  obtain ⟨_, _, rfl, _, _⟩ := O1.out.rw.shape
  clear hb ho
  go_wp2_with fail
  refine (i_ismat [[x0]] _ _ O1.out.rw).mono ?_
  rintro e w2 ⟨rfl, hb⟩
  have B2 := Lib.hid (B1.out.trans (hb.mono B1.out.size))
  have O2 := Lib.hid ((O1.out.below hb).mono (Nat.le_refl _) hb.size)
  clear hb
  by_cases hm : isM [[x0]] = true
  · have HR := Lib.hid (show matR [[x0]] = ([[x0]], true) from if_pos hm)
    rw [hm]
    clear hm
    go_wp2_with fail
    go_ret2
    rw [← HZ.out, HR.out]
    exact ⟨⟨_, rfl, O2.out⟩, B2.out⟩
  · have HR := Lib.hid (show matR [[x0]] = ([], false) from if_neg hm)
    rw [bool_f hm]
    clear hm
    go_wp2_with fail
    go_ret2
    rw [← HZ.out, HR.out]
    exact ⟨⟨_, rfl, OwR.nil⟩, B2.out⟩

set_option maxRecDepth 100000 in
set_option maxHeartbeats 1600000 in
theorem i_rows2 (x0 x1 x2 x3 x4 x5 x6 x7 x8 : Int) (w : World) :
    Calls Tryd.prog 21 #[.agg #[.int .i64 x0, .int .i64 x1, .int .i64 x2, .int .i64 x3, .int .i64 x4, .int .i64 x5, .int .i64 x6, .int .i64 x7, .int .i64 x8], .int .i64 2] w (GotR w (matR [[x0, x1], [x3, x4]])) := by
  have K0 := Lib.hid (G9.new w 37 x0 x1 x2 x3 x4 x5 x6 x7 x8)
  have B0 := Lib.hid (below1 w (.cells #[.int .i64 x0, .int .i64 x1, .int .i64 x2, .int .i64 x3, .int .i64 x4, .int .i64 x5, .int .i64 x6, .int .i64 x7, .int .i64 x8] 37))
  have R0 := Lib.hid (show Rd3 _ _ [(x0, x1, x2), (x3, x4, x5)] from K0.out.rd 2 (by omega))
  generalize hz : matR [[x0, x1], [x3, x4]] = R
  have HZ := Lib.hid hz
  clear hz
  go_enter Tryd.func21, Tryd.ntmps21
  go_wp2_with fail
  refine (i_vecs2 [(x0, x1, x2), (x3, x4, x5)] (by simp) _ _ R0.out).mono ?_
  rintro e w1 ⟨⟨v0, rfl, ho⟩, hb⟩
  replace ho : OwR 30 3 _ _ w1 v0 [[x0, x1], [x3, x4]] := ho
  have O1 := Lib.hid (ho.mono B0.out.size (Nat.le_refl _))
  have B1 := Lib.hid (B0.out.trans (hb.mono B0.out.size))
  obtain ⟨_, _, rfl, _, _⟩ := O1.out.rw.shape
  clear hb ho
  go_wp2_with fail
  refine (i_ismat [[x0, x1], [x3, x4]] _ _ O1.out.rw).mono ?_
  rintro e w2 ⟨rfl, hb⟩
  have B2 := Lib.hid (B1.out.trans (hb.mono B1.out.size))
  have O2 := Lib.hid ((O1.out.below hb).mono (Nat.le_refl _) hb.size)
  clear hb
  by_cases hm : isM [[x0, x1], [x3, x4]] = true
  · have HR := Lib.hid (show matR [[x0, x1], [x3, x4]] = ([[x0, x1], [x3, x4]], true) from if_pos hm)
    rw [hm]
    clear hm
    go_wp2_with fail
    go_ret2
    rw [← HZ.out, HR.out]
    exact ⟨⟨_, rfl, O2.out⟩, B2.out⟩
  · have HR := Lib.hid (show matR [[x0, x1], [x3, x4]] = ([], false) from if_neg hm)
    rw [bool_f hm]
    clear hm
    go_wp2_with fail
    go_ret2
    rw [← HZ.out, HR.out]
    exact ⟨⟨_, rfl, OwR.nil⟩, B2.out⟩

set_option maxRecDepth 100000 in
set_option maxHeartbeats 1600000 in
theorem i_rows3 (x0 x1 x2 x3 x4 x5 x6 x7 x8 : Int) (w : World) :
    Calls Tryd.prog 21 #[.agg #[.int .i64 x0, .int .i64 x1, .int .i64 x2, .int .i64 x3, .int .i64 x4, .int .i64 x5, .int .i64 x6, .int .i64 x7, .int .i64 x8], .int .i64 3] w (GotR w (matR [[x0, x1, x2], [x3, x4, x5], [x6, x7, x8]])) := by
  have K0 := Lib.hid (G9.new w 37 x0 x1 x2 x3 x4 x5 x6 x7 x8)
  have B0 := Lib.hid (below1 w (.cells #[.int .i64 x0, .int .i64 x1, .int .i64 x2, .int .i64 x3, .int .i64 x4, .int .i64 x5, .int .i64 x6, .int .i64 x7, .int .i64 x8] 37))
  have R0 := Lib.hid (show Rd3 _ _ [(x0, x1, x2), (x3, x4, x5), (x6, x7, x8)] from K0.out.rd 3 (by omega))
  generalize hz : matR [[x0, x1, x2], [x3, x4, x5], [x6, x7, x8]] = R
  have HZ := Lib.hid hz
  clear hz
  go_enter Tryd.func21, Tryd.ntmps21
  go_wp2_with fail
  refine (i_vecs3 [(x0, x1, x2), (x3, x4, x5), (x6, x7, x8)] (by simp) _ _ R0.out).mono ?_
  rintro e w1 ⟨⟨v0, rfl, ho⟩, hb⟩
  replace ho : OwR 30 3 _ _ w1 v0 [[x0, x1, x2], [x3, x4, x5], [x6, x7, x8]] := ho
  have O1 := Lib.hid (ho.mono B0.out.size (Nat.le_refl _))
  have B1 := Lib.hid (B0.out.trans (hb.mono B0.out.size))
  obtain ⟨_, _, rfl, _, _⟩ := O1.out.rw.shape
  clear hb ho
  go_wp2_with fail
  refine (i_ismat [[x0, x1, x2], [x3, x4, x5], [x6, x7, x8]] _ _ O1.out.rw).mono ?_
  rintro e w2 ⟨rfl, hb⟩
  have B2 := Lib.hid (B1.out.trans (hb.mono B1.out.size))
  have O2 := Lib.hid ((O1.out.below hb).mono (Nat.le_refl _) hb.size)
  clear hb
  by_cases hm : isM [[x0, x1, x2], [x3, x4, x5], [x6, x7, x8]] = true
  · have HR := Lib.hid (show matR [[x0, x1, x2], [x3, x4, x5], [x6, x7, x8]] = ([[x0, x1, x2], [x3, x4, x5], [x6, x7, x8]], true) from if_pos hm)
    rw [hm]
    clear hm
    go_wp2_with fail
    go_ret2
    rw [← HZ.out, HR.out]
    exact ⟨⟨_, rfl, O2.out⟩, B2.out⟩
  · have HR := Lib.hid (show matR [[x0, x1, x2], [x3, x4, x5], [x6, x7, x8]] = ([], false) from if_neg hm)
    rw [bool_f hm]
    clear hm
    go_wp2_with fail
    go_ret2
    rw [← HZ.out, HR.out]
    exact ⟨⟨_, rfl, OwR.nil⟩, B2.out⟩

theorem i_rowsof (a b c d e f g h i : Int) (n : Nat) (h1 : 1 ≤ n) (h3 : n ≤ 3) (w : World) :
    Calls Tryd.prog 21 #[.agg #[.int .i64 a, .int .i64 b, .int .i64 c, .int .i64 d, .int .i64 e, .int .i64 f, .int .i64 g, .int .i64 h, .int .i64 i], .int .i64 n] w (GotR w (matR (cutM n [[a, b, c], [d, e, f], [g, h, i]]))) := by
  match n, h1, h3 with
  | 1, _, _ => exact i_rows1 a b c d e f g h i w
  | 2, _, _ => exact i_rows2 a b c d e f g h i w
  | 3, _, _ => exact i_rows3 a b c d e f g h i w
end Go.Proofs.YteenheidomfpkaaDoor
