/- The program's rows out of its array: rowsOf. -/
import Derived.Test.YtdffdcofnedhlaaGrdI
import Derived.Test.YtdffdcofnedhlaaRowApp
namespace Go.Proofs.Ytdffdcofnedhlaa
open Go.RowKit Go.Lib

def matR (z : List (List Int)) : List (List Int) × Bool := if isM z = true then (z, true) else ([], false)
/-- Rows that are all nil, in a block that was just made. -/
theorem owr_nils {T e : TypeId} {w : World} {B base n : Nat} (hB : w.heap.size = B) (hb : base ≤ w.heap.size) (hn : n ≤ maxLen) (cs : Array Value) (hc : cs.toList = List.replicate n (.slice none 0 0)) :
    OwR T e base (w.alloc (.cells cs T)).heap.size (w.alloc (.cells cs T)) (.slice (some ⟨B, 0, none⟩) n n) (List.replicate n []) := by
  subst hB
  have key : ∀ (i : Nat) (u : Value), (List.replicate n (Value.slice none 0 0))[i]? = some u → u = .slice none 0 0 := fun i u hu => by
    rw [List.getElem?_replicate] at hu
    split at hu
    · exact (Option.some.inj hu).symm
    · cases hu
  refine ⟨List.replicate n (.slice none 0 0), by simp, .inr ⟨w.heap.size, n, cs, by simp, hb, by simp, heap_alloc_new w _, by simp, hn, ?_, ?_⟩, ?_, ?_, ?_⟩
  · rw [← Array.length_toList, hc, List.length_replicate]
  · rw [hc]; simp
  · intro i u zs hu hz
    have hz2 : zs = [] := by
      rw [List.getElem?_replicate] at hz
      split at hz
      · exact (Option.some.inj hz).symm
      · cases hz
    rw [key i u hu, hz2]
    exact OwnV.nil
  · intro i j u u' b _ hu _ hub
    rw [key i u hu] at hub
    cases hub
  · intro i u b hu hub
    rw [key i u hu] at hub
    cases hub
/-- A row that was made just now is put into place j of a block without spare cells. -/
theorem OwR.put_new {T e : TypeId} {lo : Nat} {w w2 : World} {zss : List (List Int)} {b n : Nat} (hn : n = zss.length) (h : OwR T e lo w.heap.size w (.slice (some ⟨b, 0, none⟩) n n) zss) (hb : Below w.heap.size w w2) (hlo : lo ≤ w.heap.size) (j : Nat) (hj : j < zss.length) {u : Value} {ys : List Int}
    (hu : OwnV e w.heap.size w2.heap.size w2 u (intVals ys)) : OwR T e lo (w2.setCell ⟨b, j, none⟩ u).heap.size (w2.setCell ⟨b, j, none⟩ u) (.slice (some ⟨b, 0, none⟩) n n) (zss.set j ys) := by
  subst hn
  rw [show (w2.setCell ⟨b, j, none⟩ u).heap.size = w2.heap.size by simp [World.setCell]]
  have h2 := (h.below hb).mono (Nat.le_refl lo) hb.size
  refine h2.put j hj (hu.mono hlo (Nat.le_refl _)) ?_
  intro x hx
  have hxp := (hu.place hx).1
  obtain ⟨b', u', e1, hlb, hbl, hbs, _⟩ := h.at j hj rfl
  simp only [Option.some.injEq, Addr.mk.injEq] at e1
  obtain ⟨rfl, _, _⟩ := e1
  refine ⟨by omega, fun i r hr hrx => ?_⟩
  rw [hb.cell (p := ⟨b, i, none⟩) hbs] at hr
  obtain ⟨vs, k1, k2, k3, k4, k5⟩ := h
  rcases k2 with ⟨k6, _⟩ | ⟨g, cap, cur, e2, k7, k8, k9, k10, k11, k12, k13⟩
  · rw [k6] at k1; simp at k1; omega
  · simp only [Value.slice.injEq, Option.some.injEq, Addr.mk.injEq] at e2
    obtain ⟨⟨rfl, _, _⟩, e3, rfl⟩ := e2
    rw [cell_of_row _ _ _ _ _ _ k9] at hr
    have hcv : cur.toList = vs := by rw [← k13]; exact (List.take_of_length_le (by rw [Array.length_toList, k12]; omega)).symm
    have hv : vs[i]? = some r := by rw [← hcv, Array.getElem?_toList]; exact hr
    have hi := lt_of_get hv
    have hp := (k3 i r _ hv (List.getElem?_eq_getElem (by omega))).place hrx
    omega
theorem G9.sl {w : World} {B : Nat} {T : TypeId} {a b c d e f g h i : Int} (k : G9 w B T a b c d e f g h i) (n : Nat) (hn : n ≤ 3) :
    Sl w (.slice (some ⟨B, 0, none⟩) n 3) (intVals ([a, b, c].take n)) ∧ Sl w (.slice (some ⟨B, 3, none⟩) n 3) (intVals ([d, e, f].take n)) ∧ Sl w (.slice (some ⟨B, 6, none⟩) n 3) (intVals ([g, h, i].take n)) := by
  have key : ∀ (o : Nat) (x y z : Int), w.cell? ⟨B, o, none⟩ = some (.int .i64 x) → w.cell? ⟨B, o + 1, none⟩ = some (.int .i64 y) → w.cell? ⟨B, o + 2, none⟩ = some (.int .i64 z) → Sl w (.slice (some ⟨B, o, none⟩) n 3) (intVals ([x, y, z].take n)) := by
    intro o x y z h0 h1 h2
    refine sl_of_cells (by rw [intVals_len, List.length_take]; simp; omega) hn (by unfold maxLen; omega) ?_
    intro i u hi
    have hlt : i < n := by
      by_cases hh : i < n
      · exact hh
      · rw [List.getElem?_eq_none (by rw [intVals_len, List.length_take]; omega)] at hi; cases hi
    have h3 : (⟨B, o, none⟩ : Addr).add i = ⟨B, o + i, none⟩ := by unfold Addr.add; split <;> simp_all
    rw [h3, ← hi]
    simp only [intVals, List.getElem?_map, List.getElem?_take_of_lt hlt]
    match i, (by omega : i < 3) with
    | 0, _ => exact h0
    | 1, _ => exact h1
    | 2, _ => exact h2
  obtain ⟨⟨c0, c1, c2⟩, ⟨c3, c4, c5⟩, c6, c7, c8⟩ := k.cells
  exact ⟨key 0 a b c c0 c1 c2, key 3 d e f c3 c4 c5, key 6 g h i c6 c7 c8⟩

set_option maxRecDepth 100000 in
set_option maxHeartbeats 1600000 in
theorem i_rows1 (x0 x1 x2 x3 x4 x5 x6 x7 x8 : Int) (w : World) :
    Calls Try.prog 45 #[.agg #[.int .i64 x0, .int .i64 x1, .int .i64 x2, .int .i64 x3, .int .i64 x4, .int .i64 x5, .int .i64 x6, .int .i64 x7, .int .i64 x8], .int .i64 1] w (GotR w (matR [[x0]])) := by
  have hmk : ∀ w, (Instr.makeSlice 22 (.int .i64 1) (.int .i64 1)).run Try.prog w = .ok (.slice (some ⟨w.heap.size, 0, none⟩) 1 1) (w.alloc (.cells #[.slice none 0 0] 28)) := fun _ => by kernel_rfl
  have K0 := Lib.hid ((G9.new w 46 x0 x1 x2 x3 x4 x5 x6 x7 x8).below ((Below.refl _ _).alloc (Nat.le_refl _) (.cells #[.slice none 0 0] 28)))
  have O0 := Lib.hid (owr_nils (T := 28) (e := 3) (w := w.alloc (.cells #[.int .i64 x0, .int .i64 x1, .int .i64 x2, .int .i64 x3, .int .i64 x4, .int .i64 x5, .int .i64 x6, .int .i64 x7, .int .i64 x8] 46)) (B := w.heap.size + 1) (base := w.heap.size) (n := 1) (by simp) (by simp) (by unfold maxLen; omega) #[.slice none 0 0] rfl)
  have B0 := Lib.hid (((Below.refl w.heap.size w).alloc (Nat.le_refl _) (.cells #[.int .i64 x0, .int .i64 x1, .int .i64 x2, .int .i64 x3, .int .i64 x4, .int .i64 x5, .int .i64 x6, .int .i64 x7, .int .i64 x8] 46)).alloc (by simp) (.cells #[.slice none 0 0] 28))
  simp only [show List.replicate 1 ([] : List Int) = [[]] from rfl] at O0
  generalize hz : matR [[x0]] = R
  have HZ := Lib.hid hz
  clear hz
  go_enter Try.func45, Try.ntmps45
  go_wp2
  refine wp_loop_rounds 2 ?_
  rw [rounds_succ]
  go_wp2_with fail
  refine (i_clone [x0] _ _ _ _ (by simp) (by simp) (K0.out.sl 1 (by omega)).1).mono ?_
  rintro e w1 ⟨⟨v0, rfl, ho⟩, hb⟩
  obtain ⟨gr0, cr0, rfl, _, _⟩ := ho.form (by simp [intVals])
  have O1 := Lib.hid (OwR.put_new rfl O0.out hb B0.out.size 0 (by simp) ho)
  have K1 := Lib.hid ((K0.out.below hb).other (p := ⟨w.heap.size + 1, 0, none⟩) (by simp) (.slice (some ⟨gr0, 0, none⟩) (intVals [x0]).length cr0))
  have A1 := Lib.hid (B0.out.trans (hb.mono B0.out.size))
  obtain ⟨_, u0, e1, _, _, _, hc, hf, _, _, _⟩ := ((O0.out.below hb).at 0 (by simp) rfl)
  simp only [Option.some.injEq, Addr.mk.injEq, and_true] at e1
  subst e1
  have B1 := Lib.hid (A1.out.setCell (p := ⟨w.heap.size + 1, 0, none⟩) (by simp) (.slice (some ⟨gr0, 0, none⟩) (intVals [x0]).length cr0))
  simp only [List.set_cons_zero] at O1
  clear hb ho
  go_wp2_with fail
  clear hc hf
  rw [rounds_succ]
  go_wp2_with fail
  refine (i_ismat [[x0]] _ _ O1.out.rw).mono ?_
  rintro e w2 ⟨rfl, hb⟩
  have B2 := Lib.hid (B1.out.trans (hb.mono B1.out.size))
  have O2 := Lib.hid ((O1.out.below hb).mono (Nat.le_refl _) hb.size)
  clear hb
  by_cases hm : isM [[x0]] = true
  · have HR := Lib.hid (show matR [[x0]] = ([[x0]], true) from if_pos hm)
    rw [hm]
    clear hm
    go_wp2_with fail
    go_ret2
    rw [← HZ.out, HR.out]
    exact ⟨⟨_, rfl, O2.out⟩, B2.out⟩
  · have HR := Lib.hid (show matR [[x0]] = ([], false) from if_neg hm)
    rw [bool_f hm]
    clear hm
    go_wp2_with fail
    go_ret2
    rw [← HZ.out, HR.out]
    exact ⟨⟨_, rfl, OwR.nil⟩, B2.out⟩

set_option maxRecDepth 100000 in
set_option maxHeartbeats 1600000 in
theorem i_rows2 (x0 x1 x2 x3 x4 x5 x6 x7 x8 : Int) (w : World) :
    Calls Try.prog 45 #[.agg #[.int .i64 x0, .int .i64 x1, .int .i64 x2, .int .i64 x3, .int .i64 x4, .int .i64 x5, .int .i64 x6, .int .i64 x7, .int .i64 x8], .int .i64 2] w (GotR w (matR [[x0, x1], [x3, x4]])) := by
  have hmk : ∀ w, (Instr.makeSlice 22 (.int .i64 2) (.int .i64 2)).run Try.prog w = .ok (.slice (some ⟨w.heap.size, 0, none⟩) 2 2) (w.alloc (.cells #[.slice none 0 0, .slice none 0 0] 28)) := fun _ => by kernel_rfl
  have K0 := Lib.hid ((G9.new w 46 x0 x1 x2 x3 x4 x5 x6 x7 x8).below ((Below.refl _ _).alloc (Nat.le_refl _) (.cells #[.slice none 0 0, .slice none 0 0] 28)))
  have O0 := Lib.hid (owr_nils (T := 28) (e := 3) (w := w.alloc (.cells #[.int .i64 x0, .int .i64 x1, .int .i64 x2, .int .i64 x3, .int .i64 x4, .int .i64 x5, .int .i64 x6, .int .i64 x7, .int .i64 x8] 46)) (B := w.heap.size + 1) (base := w.heap.size) (n := 2) (by simp) (by simp) (by unfold maxLen; omega) #[.slice none 0 0, .slice none 0 0] rfl)
  have B0 := Lib.hid (((Below.refl w.heap.size w).alloc (Nat.le_refl _) (.cells #[.int .i64 x0, .int .i64 x1, .int .i64 x2, .int .i64 x3, .int .i64 x4, .int .i64 x5, .int .i64 x6, .int .i64 x7, .int .i64 x8] 46)).alloc (by simp) (.cells #[.slice none 0 0, .slice none 0 0] 28))
  simp only [show List.replicate 2 ([] : List Int) = [[], []] from rfl] at O0
  generalize hz : matR [[x0, x1], [x3, x4]] = R
  have HZ := Lib.hid hz
  clear hz
  go_enter Try.func45, Try.ntmps45
  go_wp2
  refine wp_loop_rounds 3 ?_
  rw [rounds_succ]
  go_wp2_with fail
  refine (i_clone [x0, x1] _ _ _ _ (by simp) (by simp) (K0.out.sl 2 (by omega)).1).mono ?_
  rintro e w1 ⟨⟨v0, rfl, ho⟩, hb⟩
  obtain ⟨gr0, cr0, rfl, _, _⟩ := ho.form (by simp [intVals])
  have O1 := Lib.hid (OwR.put_new rfl O0.out hb B0.out.size 0 (by simp) ho)
  have K1 := Lib.hid ((K0.out.below hb).other (p := ⟨w.heap.size + 1, 0, none⟩) (by simp) (.slice (some ⟨gr0, 0, none⟩) (intVals [x0, x1]).length cr0))
  have A1 := Lib.hid (B0.out.trans (hb.mono B0.out.size))
  obtain ⟨_, u0, e1, _, _, _, hc, hf, _, _, _⟩ := ((O0.out.below hb).at 0 (by simp) rfl)
  simp only [Option.some.injEq, Addr.mk.injEq, and_true] at e1
  subst e1
  have B1 := Lib.hid (A1.out.setCell (p := ⟨w.heap.size + 1, 0, none⟩) (by simp) (.slice (some ⟨gr0, 0, none⟩) (intVals [x0, x1]).length cr0))
  simp only [List.set_cons_zero] at O1
  clear hb ho
  go_wp2_with fail
  clear hc hf
  rw [rounds_succ]
  go_wp2_with fail
  refine (i_clone [x3, x4] _ _ _ _ (by simp) (by simp) (K1.out.sl 2 (by omega)).2.1).mono ?_
  rintro e w2 ⟨⟨v1, rfl, ho⟩, hb⟩
  obtain ⟨gr1, cr1, rfl, _, _⟩ := ho.form (by simp [intVals])
  have O2 := Lib.hid (OwR.put_new rfl O1.out hb B1.out.size 1 (by simp) ho)
  have K2 := Lib.hid ((K1.out.below hb).other (p := ⟨w.heap.size + 1, 1, none⟩) (by simp) (.slice (some ⟨gr1, 0, none⟩) (intVals [x3, x4]).length cr1))
  have A2 := Lib.hid (B1.out.trans (hb.mono B1.out.size))
  obtain ⟨_, u1, e1, _, _, _, hc, hf, _, _, _⟩ := ((O1.out.below hb).at 1 (by simp) rfl)
  simp only [Option.some.injEq, Addr.mk.injEq, and_true] at e1
  subst e1
  have B2 := Lib.hid (A2.out.setCell (p := ⟨w.heap.size + 1, 1, none⟩) (by simp) (.slice (some ⟨gr1, 0, none⟩) (intVals [x3, x4]).length cr1))
  simp only [List.set_cons_zero, List.set_cons_succ] at O2
  clear hb ho
  go_wp2_with fail
  clear hc hf
  rw [rounds_succ]
  go_wp2_with fail
  refine (i_ismat [[x0, x1], [x3, x4]] _ _ O2.out.rw).mono ?_
  rintro e w3 ⟨rfl, hb⟩
  have B3 := Lib.hid (B2.out.trans (hb.mono B2.out.size))
  have O3 := Lib.hid ((O2.out.below hb).mono (Nat.le_refl _) hb.size)
  clear hb
  by_cases hm : isM [[x0, x1], [x3, x4]] = true
  · have HR := Lib.hid (show matR [[x0, x1], [x3, x4]] = ([[x0, x1], [x3, x4]], true) from if_pos hm)
    rw [hm]
    clear hm
    go_wp2_with fail
    go_ret2
    rw [← HZ.out, HR.out]
    exact ⟨⟨_, rfl, O3.out⟩, B3.out⟩
  · have HR := Lib.hid (show matR [[x0, x1], [x3, x4]] = ([], false) from if_neg hm)
    rw [bool_f hm]
    clear hm
    go_wp2_with fail
    go_ret2
    rw [← HZ.out, HR.out]
    exact ⟨⟨_, rfl, OwR.nil⟩, B3.out⟩

set_option maxRecDepth 100000 in
set_option maxHeartbeats 1600000 in
theorem i_rows3 (x0 x1 x2 x3 x4 x5 x6 x7 x8 : Int) (w : World) :
    Calls Try.prog 45 #[.agg #[.int .i64 x0, .int .i64 x1, .int .i64 x2, .int .i64 x3, .int .i64 x4, .int .i64 x5, .int .i64 x6, .int .i64 x7, .int .i64 x8], .int .i64 3] w (GotR w (matR [[x0, x1, x2], [x3, x4, x5], [x6, x7, x8]])) := by
  have hmk : ∀ w, (Instr.makeSlice 22 (.int .i64 3) (.int .i64 3)).run Try.prog w = .ok (.slice (some ⟨w.heap.size, 0, none⟩) 3 3) (w.alloc (.cells #[.slice none 0 0, .slice none 0 0, .slice none 0 0] 28)) := fun _ => by kernel_rfl
  have K0 := Lib.hid ((G9.new w 46 x0 x1 x2 x3 x4 x5 x6 x7 x8).below ((Below.refl _ _).alloc (Nat.le_refl _) (.cells #[.slice none 0 0, .slice none 0 0, .slice none 0 0] 28)))
  have O0 := Lib.hid (owr_nils (T := 28) (e := 3) (w := w.alloc (.cells #[.int .i64 x0, .int .i64 x1, .int .i64 x2, .int .i64 x3, .int .i64 x4, .int .i64 x5, .int .i64 x6, .int .i64 x7, .int .i64 x8] 46)) (B := w.heap.size + 1) (base := w.heap.size) (n := 3) (by simp) (by simp) (by unfold maxLen; omega) #[.slice none 0 0, .slice none 0 0, .slice none 0 0] rfl)
  have B0 := Lib.hid (((Below.refl w.heap.size w).alloc (Nat.le_refl _) (.cells #[.int .i64 x0, .int .i64 x1, .int .i64 x2, .int .i64 x3, .int .i64 x4, .int .i64 x5, .int .i64 x6, .int .i64 x7, .int .i64 x8] 46)).alloc (by simp) (.cells #[.slice none 0 0, .slice none 0 0, .slice none 0 0] 28))
  simp only [show List.replicate 3 ([] : List Int) = [[], [], []] from rfl] at O0
  generalize hz : matR [[x0, x1, x2], [x3, x4, x5], [x6, x7, x8]] = R
  have HZ := Lib.hid hz
  clear hz
  go_enter Try.func45, Try.ntmps45
  go_wp2
  refine wp_loop_rounds 4 ?_
  rw [rounds_succ]
  go_wp2_with fail
  refine (i_clone [x0, x1, x2] _ _ _ _ (by simp) (by simp) (K0.out.sl 3 (by omega)).1).mono ?_
  rintro e w1 ⟨⟨v0, rfl, ho⟩, hb⟩
  obtain ⟨gr0, cr0, rfl, _, _⟩ := ho.form (by simp [intVals])
  have O1 := Lib.hid (OwR.put_new rfl O0.out hb B0.out.size 0 (by simp) ho)
  have K1 := Lib.hid ((K0.out.below hb).other (p := ⟨w.heap.size + 1, 0, none⟩) (by simp) (.slice (some ⟨gr0, 0, none⟩) (intVals [x0, x1, x2]).length cr0))
  have A1 := Lib.hid (B0.out.trans (hb.mono B0.out.size))
  obtain ⟨_, u0, e1, _, _, _, hc, hf, _, _, _⟩ := ((O0.out.below hb).at 0 (by simp) rfl)
  simp only [Option.some.injEq, Addr.mk.injEq, and_true] at e1
  subst e1
  have B1 := Lib.hid (A1.out.setCell (p := ⟨w.heap.size + 1, 0, none⟩) (by simp) (.slice (some ⟨gr0, 0, none⟩) (intVals [x0, x1, x2]).length cr0))
  simp only [List.set_cons_zero] at O1
  clear hb ho
  go_wp2_with fail
  clear hc hf
  rw [rounds_succ]
  go_wp2_with fail
  refine (i_clone [x3, x4, x5] _ _ _ _ (by simp) (by simp) (K1.out.sl 3 (by omega)).2.1).mono ?_
  rintro e w2 ⟨⟨v1, rfl, ho⟩, hb⟩
  obtain ⟨gr1, cr1, rfl, _, _⟩ := ho.form (by simp [intVals])
  have O2 := Lib.hid (OwR.put_new rfl O1.out hb B1.out.size 1 (by simp) ho)
  have K2 := Lib.hid ((K1.out.below hb).other (p := ⟨w.heap.size + 1, 1, none⟩) (by simp) (.slice (some ⟨gr1, 0, none⟩) (intVals [x3, x4, x5]).length cr1))
  have A2 := Lib.hid (B1.out.trans (hb.mono B1.out.size))
  obtain ⟨_, u1, e1, _, _, _, hc, hf, _, _, _⟩ := ((O1.out.below hb).at 1 (by simp) rfl)
  simp only [Option.some.injEq, Addr.mk.injEq, and_true] at e1
  subst e1
  have B2 := Lib.hid (A2.out.setCell (p := ⟨w.heap.size + 1, 1, none⟩) (by simp) (.slice (some ⟨gr1, 0, none⟩) (intVals [x3, x4, x5]).length cr1))
  simp only [List.set_cons_zero, List.set_cons_succ] at O2
  clear hb ho
  go_wp2_with fail
  clear hc hf
  rw [rounds_succ]
  go_wp2_with fail
  refine (i_clone [x6, x7, x8] _ _ _ _ (by simp) (by simp) (K2.out.sl 3 (by omega)).2.2).mono ?_
  rintro e w3 ⟨⟨v2, rfl, ho⟩, hb⟩
  obtain ⟨gr2, cr2, rfl, _, _⟩ := ho.form (by simp [intVals])
  have O3 := Lib.hid (OwR.put_new rfl O2.out hb B2.out.size 2 (by simp) ho)
  have K3 := Lib.hid ((K2.out.below hb).other (p := ⟨w.heap.size + 1, 2, none⟩) (by simp) (.slice (some ⟨gr2, 0, none⟩) (intVals [x6, x7, x8]).length cr2))
  have A3 := Lib.hid (B2.out.trans (hb.mono B2.out.size))
  obtain ⟨_, u2, e1, _, _, _, hc, hf, _, _, _⟩ := ((O2.out.below hb).at 2 (by simp) rfl)
  simp only [Option.some.injEq, Addr.mk.injEq, and_true] at e1
  subst e1
  have B3 := Lib.hid (A3.out.setCell (p := ⟨w.heap.size + 1, 2, none⟩) (by simp) (.slice (some ⟨gr2, 0, none⟩) (intVals [x6, x7, x8]).length cr2))
  simp only [List.set_cons_zero, List.set_cons_succ] at O3
  clear hb ho
  go_wp2_with fail
  clear hc hf
  rw [rounds_succ]
  go_wp2_with fail
  refine (i_ismat [[x0, x1, x2], [x3, x4, x5], [x6, x7, x8]] _ _ O3.out.rw).mono ?_
  rintro e w4 ⟨rfl, hb⟩
  have B4 := Lib.hid (B3.out.trans (hb.mono B3.out.size))
  have O4 := Lib.hid ((O3.out.below hb).mono (Nat.le_refl _) hb.size)
  clear hb
  by_cases hm : isM [[x0, x1, x2], [x3, x4, x5], [x6, x7, x8]] = true
  · have HR := Lib.hid (show matR [[x0, x1, x2], [x3, x4, x5], [x6, x7, x8]] = ([[x0, x1, x2], [x3, x4, x5], [x6, x7, x8]], true) from if_pos hm)
    rw [hm]
    clear hm
    go_wp2_with fail
    go_ret2
    rw [← HZ.out, HR.out]
    exact ⟨⟨_, rfl, O4.out⟩, B4.out⟩
  · have HR := Lib.hid (show matR [[x0, x1, x2], [x3, x4, x5], [x6, x7, x8]] = ([], false) from if_neg hm)
    rw [bool_f hm]
    clear hm
    go_wp2_with fail
    go_ret2
    rw [← HZ.out, HR.out]
    exact ⟨⟨_, rfl, OwR.nil⟩, B4.out⟩
theorem i_rowsof (a b c d e f g h i : Int) (n : Nat) (h1 : 1 ≤ n) (h3 : n ≤ 3) (w : World) :
    Calls Try.prog 45 #[.agg #[.int .i64 a, .int .i64 b, .int .i64 c, .int .i64 d, .int .i64 e, .int .i64 f, .int .i64 g, .int .i64 h, .int .i64 i], .int .i64 n] w (GotR w (matR (cutM n [[a, b, c], [d, e, f], [g, h, i]]))) := by
  match n, h1, h3 with
  | 1, _, _ => exact i_rows1 a b c d e f g h i w
  | 2, _, _ => exact i_rows2 a b c d e f g h i w
  | 3, _, _ => exact i_rows3 a b c d e f g h i w
end Go.Proofs.Ytdffdcofnedhlaa
