/- The program's rows out of its array: rowsOf. -/
import Derived.Test.YtjijgagdaolkcaaGreatMas
import Derived.Test.YtjijgagdaolkcaaGreatMal
import Derived.Test.YtjijgagdaolkcaaGreatMav
import Derived.Test.YtjijgagdaolkcaaGreatMax
import Derived.Test.YtjijgagdaolkcaaGreatMam
namespace Go.Proofs.YtjijgagdaolkcaaGreat
open Go.RowKit Go.Lib

def matR (z : List (List Int)) : List (List Int) × Bool := if isM z = true then (z, true) else ([], false)
/-- Rows that are all nil, in a block that was just made. -/
theorem owr_nils {T e : TypeId} {w : World} {B base n : Nat} (hB : w.heap.size = B) (hb : base ≤ w.heap.size) (hn : n ≤ maxLen) (cs : Array Value) (hc : cs.toList = List.replicate n (.slice none 0 0)) :
    OwR T e base (w.alloc (.cells cs T)).heap.size (w.alloc (.cells cs T)) (.slice (some ⟨B, 0, none⟩) n n) (List.replicate n []) := by
  subst hB
  have key : ∀ (i : Nat) (u : Value), (List.replicate n (Value.slice none 0 0))[i]? = some u → u = .slice none 0 0 := fun i u hu => by
    rw [List.getElem?_replicate] at hu
    split at hu
    · exact (Option.some.inj hu).symm
    · cases hu
  refine ⟨List.replicate n (.slice none 0 0), by simp, .inr ⟨w.heap.size, n, cs, by simp, hb, by simp, heap_alloc_new w _, by simp, hn, ?_, ?_⟩, ?_, ?_, ?_⟩
  · rw [← Array.length_toList, hc, List.length_replicate]
  · rw [hc]; simp
  · intro i u zs hu hz
    have hz2 : zs = [] := by
      rw [List.getElem?_replicate] at hz
      split at hz
      · exact (Option.some.inj hz).symm
      · cases hz
    rw [key i u hu, hz2]
    exact OwnV.nil
  · intro i j u u' b _ hu _ hub
    rw [key i u hu] at hub
    cases hub
  · intro i u b hu hub
    rw [key i u hu] at hub
    cases hub
/-- A row that was made just now is put into place j of a block without spare cells. -/
theorem OwR.put_new {T e : TypeId} {lo : Nat} {w w2 : World} {zss : List (List Int)} {b n : Nat} (hn : n = zss.length) (h : OwR T e lo w.heap.size w (.slice (some ⟨b, 0, none⟩) n n) zss) (hb : Below w.heap.size w w2) (hlo : lo ≤ w.heap.size) (j : Nat) (hj : j < zss.length) {u : Value} {ys : List Int}
    (hu : OwnV e w.heap.size w2.heap.size w2 u (intVals ys)) : OwR T e lo (w2.setCell ⟨b, j, none⟩ u).heap.size (w2.setCell ⟨b, j, none⟩ u) (.slice (some ⟨b, 0, none⟩) n n) (zss.set j ys) := by
  subst hn
  rw [show (w2.setCell ⟨b, j, none⟩ u).heap.size = w2.heap.size by simp [World.setCell]]
  have h2 := (h.below hb).mono (Nat.le_refl lo) hb.size
  refine h2.put j hj (hu.mono hlo (Nat.le_refl _)) ?_
  intro x hx
  have hxp := (hu.place hx).1
  obtain ⟨b', u', e1, hlb, hbl, hbs, _⟩ := h.at j hj rfl
  simp only [Option.some.injEq, Addr.mk.injEq] at e1
  obtain ⟨rfl, _, _⟩ := e1
  refine ⟨by omega, fun i r hr hrx => ?_⟩
  rw [hb.cell (p := ⟨b, i, none⟩) hbs] at hr
  obtain ⟨vs, k1, k2, k3, k4, k5⟩ := h
  rcases k2 with ⟨k6, _⟩ | ⟨g, cap, cur, e2, k7, k8, k9, k10, k11, k12, k13⟩
  · rw [k6] at k1; simp at k1; omega
  · simp only [Value.slice.injEq, Option.some.injEq, Addr.mk.injEq] at e2
    obtain ⟨⟨rfl, _, _⟩, e3, rfl⟩ := e2
    rw [cell_of_row _ _ _ _ _ _ k9] at hr
    have hcv : cur.toList = vs := by rw [← k13]; exact (List.take_of_length_le (by rw [Array.length_toList, k12]; omega)).symm
    have hv : vs[i]? = some r := by rw [← hcv, Array.getElem?_toList]; exact hr
    have hi := lt_of_get hv
    have hp := (k3 i r _ hv (List.getElem?_eq_getElem (by omega))).place hrx
    omega
theorem G9.sl {w : World} {B : Nat} {T : TypeId} {a b c d e f g h i : Int} (k : G9 w B T a b c d e f g h i) (n : Nat) (hn : n ≤ 3) :
    Sl w (.slice (some ⟨B, 0, none⟩) n 3) (intVals ([a, b, c].take n)) ∧ Sl w (.slice (some ⟨B, 3, none⟩) n 3) (intVals ([d, e, f].take n)) ∧ Sl w (.slice (some ⟨B, 6, none⟩) n 3) (intVals ([g, h, i].take n)) := by
  have key : ∀ (o : Nat) (x y z : Int), w.cell? ⟨B, o, none⟩ = some (.int .i64 x) → w.cell? ⟨B, o + 1, none⟩ = some (.int .i64 y) → w.cell? ⟨B, o + 2, none⟩ = some (.int .i64 z) → Sl w (.slice (some ⟨B, o, none⟩) n 3) (intVals ([x, y, z].take n)) := by
    intro o x y z h0 h1 h2
    refine sl_of_cells (by rw [intVals_len, List.length_take]; simp; omega) hn (by unfold maxLen; omega) ?_
    intro i u hi
    have hlt : i < n := by
      by_cases hh : i < n
      · exact hh
      · rw [List.getElem?_eq_none (by rw [intVals_len, List.length_take]; omega)] at hi; cases hi
    have h3 : (⟨B, o, none⟩ : Addr).add i = ⟨B, o + i, none⟩ := by unfold Addr.add; split <;> simp_all
    rw [h3, ← hi]
    simp only [intVals, List.getElem?_map, List.getElem?_take_of_lt hlt]
    match i, (by omega : i < 3) with
    | 0, _ => exact h0
    | 1, _ => exact h1
    | 2, _ => exact h2
  obtain ⟨⟨c0, c1, c2⟩, ⟨c3, c4, c5⟩, c6, c7, c8⟩ := k.cells
  exact ⟨key 0 a b c c0 c1 c2, key 3 d e f c3 c4 c5, key 6 g h i c6 c7 c8⟩

/-- The rows of a grid's block read as triples. -/
theorem G9.rd {w : World} {B : Nat} {T : TypeId} {a b c d e f g h i : Int} (k : G9 w B T a b c d e f g h i) (n : Nat) (hn : n ≤ 3) : Rd3 w (.slice (some ⟨B, 0, none⟩) n 3) (([(a, b, c), (d, e, f), (g, h, i)] : List T3).take n) := by
  obtain ⟨⟨c0, c1, c2⟩, ⟨c3, c4, c5⟩, c6, c7, c8⟩ := k.cells
  refine ⟨_, 3, by rw [List.length_take]; simp; omega, by rw [List.length_take]; simp; omega, by unfold maxLen; omega, fun j hj => ⟨B, 0, rfl, k.lt, ?_⟩⟩
  rw [List.length_take] at hj
  simp only [List.getElem_take]
  match j, (by omega : j < 3) with
  | 0, _ => exact ⟨c0, c1, c2⟩
  | 1, _ => exact ⟨c3, c4, c5⟩
  | 2, _ => exact ⟨c6, c7, c8⟩
set_option maxRecDepth 100000 in
set_option maxHeartbeats 1600000 in
theorem i_rows1 (x0 x1 x2 x3 x4 x5 x6 x7 x8 : Int) (w : World) :
    Calls Tryz.prog 68 #[.agg #[.int .i64 x0, .int .i64 x1, .int .i64 x2, .int .i64 x3, .int .i64 x4, .int .i64 x5, .int .i64 x6, .int .i64 x7, .int .i64 x8], .int .i64 1] w (GotR w (matR [[x0]])) := by
  have K0 := Lib.hid (G9.new w 45 x0 x1 x2 x3 x4 x5 x6 x7 x8)
  have B0 := Lib.hid (below1 w (.cells #[.int .i64 x0, .int .i64 x1, .int .i64 x2, .int .i64 x3, .int .i64 x4, .int .i64 x5, .int .i64 x6, .int .i64 x7, .int .i64 x8] 45))
  have R0 := Lib.hid (show Rd3 _ _ [(x0, x1, x2)] from K0.out.rd 1 (by omega))
  generalize hz : matR [[x0]] = R
  have HZ := Lib.hid hz
  clear hz
  go_enter Tryz.func68, Tryz.ntmps68
  go_wp2_with fail
  refine (i_vecs1 [(x0, x1, x2)] (by simp) _ _ R0.out).mono ?_
  rintro e w1 ⟨⟨v0, rfl, ho⟩, hb⟩
  replace ho : OwR 27 3 _ _ w1 v0 [[x0]] := ho
  have O1 := Lib.hid (ho.mono B0.out.size (Nat.le_refl _))
  have B1 := Lib.hid (B0.out.trans (hb.mono B0.out.size))
  obtain ⟨_, _, rfl, _, _⟩ := O1.out.rw.shape
  clear hb ho
  go_wp2_with fail
  refine (i_ismat [[x0]] _ _ O1.out.rw).mono ?_
  rintro e w2 ⟨rfl, hb⟩
  have B2 := Lib.hid (B1.out.trans (hb.mono B1.out.size))
  have O2 := Lib.hid ((O1.out.below hb).mono (Nat.le_refl _) hb.size)
  clear hb
  by_cases hm : isM [[x0]] = true
  · have HR := Lib.hid (show matR [[x0]] = ([[x0]], true) from if_pos hm)
    rw [hm]
    clear hm
    go_wp2_with fail
    go_ret2
    rw [← HZ.out, HR.out]
    exact ⟨⟨_, rfl, O2.out⟩, B2.out⟩
  · have HR := Lib.hid (show matR [[x0]] = ([], false) from if_neg hm)
    rw [bool_f hm]
    clear hm
    go_wp2_with fail
    go_ret2
    rw [← HZ.out, HR.out]
    exact ⟨⟨_, rfl, OwR.nil⟩, B2.out⟩

set_option maxRecDepth 100000 in
set_option maxHeartbeats 1600000 in
theorem i_rows2 (x0 x1 x2 x3 x4 x5 x6 x7 x8 : Int) (w : World) :
    Calls Tryz.prog 68 #[.agg #[.int .i64 x0, .int .i64 x1, .int .i64 x2, .int .i64 x3, .int .i64 x4, .int .i64 x5, .int .i64 x6, .int .i64 x7, .int .i64 x8], .int .i64 2] w (GotR w (matR [[x0, x1], [x3, x4]])) := by
  have K0 := Lib.hid (G9.new w 45 x0 x1 x2 x3 x4 x5 x6 x7 x8)
  have B0 := Lib.hid (below1 w (.cells #[.int .i64 x0, .int .i64 x1, .int .i64 x2, .int .i64 x3, .int .i64 x4, .int .i64 x5, .int .i64 x6, .int .i64 x7, .int .i64 x8] 45))
  have R0 := Lib.hid (show Rd3 _ _ [(x0, x1, x2), (x3, x4, x5)] from K0.out.rd 2 (by omega))
  generalize hz : matR [[x0, x1], [x3, x4]] = R
  have HZ := Lib.hid hz
  clear hz
  go_enter Tryz.func68, Tryz.ntmps68
  go_wp2_with fail
  refine (i_vecs2 [(x0, x1, x2), (x3, x4, x5)] (by simp) _ _ R0.out).mono ?_
  rintro e w1 ⟨⟨v0, rfl, ho⟩, hb⟩
  replace ho : OwR 27 3 _ _ w1 v0 [[x0, x1], [x3, x4]] := ho
  have O1 := Lib.hid (ho.mono B0.out.size (Nat.le_refl _))
  have B1 := Lib.hid (B0.out.trans (hb.mono B0.out.size))
  obtain ⟨_, _, rfl, _, _⟩ := O1.out.rw.shape
  clear hb ho
  go_wp2_with fail
  refine (i_ismat [[x0, x1], [x3, x4]] _ _ O1.out.rw).mono ?_
  rintro e w2 ⟨rfl, hb⟩
  have B2 := Lib.hid (B1.out.trans (hb.mono B1.out.size))
  have O2 := Lib.hid ((O1.out.below hb).mono (Nat.le_refl _) hb.size)
  clear hb
  by_cases hm : isM [[x0, x1], [x3, x4]] = true
  · have HR := Lib.hid (show matR [[x0, x1], [x3, x4]] = ([[x0, x1], [x3, x4]], true) from if_pos hm)
    rw [hm]
    clear hm
    go_wp2_with fail
    go_ret2
    rw [← HZ.out, HR.out]
    exact ⟨⟨_, rfl, O2.out⟩, B2.out⟩
  · have HR := Lib.hid (show matR [[x0, x1], [x3, x4]] = ([], false) from if_neg hm)
    rw [bool_f hm]
    clear hm
    go_wp2_with fail
    go_ret2
    rw [← HZ.out, HR.out]
    exact ⟨⟨_, rfl, OwR.nil⟩, B2.out⟩

set_option maxRecDepth 100000 in
set_option maxHeartbeats 1600000 in
theorem i_rows3 (x0 x1 x2 x3 x4 x5 x6 x7 x8 : Int) (w : World) :
    Calls Tryz.prog 68 #[.agg #[.int .i64 x0, .int .i64 x1, .int .i64 x2, .int .i64 x3, .int .i64 x4, .int .i64 x5, .int .i64 x6, .int .i64 x7, .int .i64 x8], .int .i64 3] w (GotR w (matR [[x0, x1, x2], [x3, x4, x5], [x6, x7, x8]])) := by
  have K0 := Lib.hid (G9.new w 45 x0 x1 x2 x3 x4 x5 x6 x7 x8)
  have B0 := Lib.hid (below1 w (.cells #[.int .i64 x0, .int .i64 x1, .int .i64 x2, .int .i64 x3, .int .i64 x4, .int .i64 x5, .int .i64 x6, .int .i64 x7, .int .i64 x8] 45))
  have R0 := Lib.hid (show Rd3 _ _ [(x0, x1, x2), (x3, x4, x5), (x6, x7, x8)] from K0.out.rd 3 (by omega))
  generalize hz : matR [[x0, x1, x2], [x3, x4, x5], [x6, x7, x8]] = R
  have HZ := Lib.hid hz
  clear hz
  go_enter Tryz.func68, Tryz.ntmps68
  go_wp2_with fail
  refine (i_vecs3 [(x0, x1, x2), (x3, x4, x5), (x6, x7, x8)] (by simp) _ _ R0.out).mono ?_
  rintro e w1 ⟨⟨v0, rfl, ho⟩, hb⟩
  replace ho : OwR 27 3 _ _ w1 v0 [[x0, x1, x2], [x3, x4, x5], [x6, x7, x8]] := ho
  have O1 := Lib.hid (ho.mono B0.out.size (Nat.le_refl _))
  have B1 := Lib.hid (B0.out.trans (hb.mono B0.out.size))
  obtain ⟨_, _, rfl, _, _⟩ := O1.out.rw.shape
  clear hb ho
  go_wp2_with fail
  refine (i_ismat [[x0, x1, x2], [x3, x4, x5], [x6, x7, x8]] _ _ O1.out.rw).mono ?_
  rintro e w2 ⟨rfl, hb⟩
  have B2 := Lib.hid (B1.out.trans (hb.mono B1.out.size))
  have O2 := Lib.hid ((O1.out.below hb).mono (Nat.le_refl _) hb.size)
  clear hb
  by_cases hm : isM [[x0, x1, x2], [x3, x4, x5], [x6, x7, x8]] = true
  · have HR := Lib.hid (show matR [[x0, x1, x2], [x3, x4, x5], [x6, x7, x8]] = ([[x0, x1, x2], [x3, x4, x5], [x6, x7, x8]], true) from if_pos hm)
    rw [hm]
    clear hm
    go_wp2_with fail
    go_ret2
    rw [← HZ.out, HR.out]
    exact ⟨⟨_, rfl, O2.out⟩, B2.out⟩
  · have HR := Lib.hid (show matR [[x0, x1, x2], [x3, x4, x5], [x6, x7, x8]] = ([], false) from if_neg hm)
    rw [bool_f hm]
    clear hm
    go_wp2_with fail
    go_ret2
    rw [← HZ.out, HR.out]
    exact ⟨⟨_, rfl, OwR.nil⟩, B2.out⟩

theorem i_rowsof (a b c d e f g h i : Int) (n : Nat) (h1 : 1 ≤ n) (h3 : n ≤ 3) (w : World) :
    Calls Tryz.prog 68 #[.agg #[.int .i64 a, .int .i64 b, .int .i64 c, .int .i64 d, .int .i64 e, .int .i64 f, .int .i64 g, .int .i64 h, .int .i64 i], .int .i64 n] w (GotR w (matR (cutM n [[a, b, c], [d, e, f], [g, h, i]]))) := by
  match n, h1, h3 with
  | 1, _, _ => exact i_rows1 a b c d e f g h i w
  | 2, _, _ => exact i_rows2 a b c d e f g h i w
  | 3, _, _ => exact i_rows3 a b c d e f g h i w
end Go.Proofs.YtjijgagdaolkcaaGreat
/- The program's HermiteOf. -/
namespace Go.Proofs.YtjijgagdaolkcaaGreat
open Go.RowKit Go.Lib

theorem hermR_matR {m : List (List Int)} (h : detR m ≠ 0) : hermR m = matR (hermL m) := by
  unfold hermR matR
  by_cases h4 : isM (hermL m) = true
  · rw [if_pos ⟨h, h4⟩, if_pos h4]
  · rw [if_neg (fun h => h4 h.2), if_neg h4]
/-- What a step of HermiteOf meets: the matrix that is laid into three rows of three, behind k steps. -/
theorem step_clear {P : List (List Int)} (hl : P.length = 3) (hsq : Sq 3 100 P) (hd : detL P ≠ 0) (k : Nat) (hk : k < 3) :
    (∀ j, k + 1 + j < 3 → ∃ A : Int, Eu k 3 80400000000 A ((pairsH k (hermS P k) j).getD k []) ((pairsH k (hermS P k) j).getD (k + 1 + j) [])) ∧
    (∀ u, (pairsH k (hermS P k) (2 - k))[k]? = some u → Bd u 400000000000000000) ∧
    (∀ r, r < k → RedOk 3 k r (redsH k (negH k (pairsH k (hermS P k) (2 - k))) r)) := by
  have hsq2 : Sq P.length 100 P := by rw [hl]; exact hsq
  have hall := herm_all (m := P) (by omega) (by omega) hsq2 hd (c := k) (by omega)
  rw [hl] at hall
  rw [show 3 - 1 - k = 2 - k by omega] at hall
  refine ⟨fun j hj => ?_, fun u hu => ?_, hall.2⟩
  · have h := herm_pair (m := P) (by omega) hsq2 hd (c := k) (j := j) (by omega)
    rw [hl] at h
    exact h
  · obtain ⟨u', hu', _, _, hb⟩ := hall.1
    rw [hu'] at hu
    obtain rfl := Option.some.inj hu
    exact hb
theorem hermS_three {P : List (List Int)} (hl : P.length = 3) (k : Nat) : hermS P (k + 1) = redsH k (negH k (pairsH k (hermS P k) (2 - k))) k := by
  show redsH k (negH k (pairsH k (hermS P k) (P.length - 1 - k))) k = _
  rw [hl, show 3 - 1 - k = 2 - k by omega]
/-- What hermite leaves. -/
def HermP (P : List (List Int)) (w : World) (e : Ending) (w' : World) : Prop := ∃ y0 y1 y2 y3 y4 y5 y6 y7 y8 : Int, hermL P = [[y0, y1, y2], [y3, y4, y5], [y6, y7, y8]] ∧ e = .returned (.agg #[.int .i64 y0, .int .i64 y1, .int .i64 y2, .int .i64 y3, .int .i64 y4, .int .i64 y5, .int .i64 y6, .int .i64 y7, .int .i64 y8]) ∧ Below w.heap.size w w'
set_option maxRecDepth 100000 in
set_option maxHeartbeats 1600000 in
theorem i_hermite (a b c d e f g h i : Int) (hs : Sq 3 100 [[a, b, c], [d, e, f], [g, h, i]]) (hd : detL [[a, b, c], [d, e, f], [g, h, i]] ≠ 0) (w : World) :
    Calls Tryz.prog 25 #[.agg #[.int .i64 a, .int .i64 b, .int .i64 c, .int .i64 d, .int .i64 e, .int .i64 f, .int .i64 g, .int .i64 h, .int .i64 i]] w (HermP [[a, b, c], [d, e, f], [g, h, i]] w) := by
  have SC := Lib.hid (fun k hk => step_clear (P := [[a, b, c], [d, e, f], [g, h, i]]) rfl hs hd k hk)
  have H3 := Lib.hid (fun k => hermS_three (P := [[a, b, c], [d, e, f], [g, h, i]]) rfl k)
  have H0 := Lib.hid (show hermS [[a, b, c], [d, e, f], [g, h, i]] 0 = [[a, b, c], [d, e, f], [g, h, i]] from rfl)
  clear hs hd
  go_enter Tryz.func25, Tryz.ntmps25
  go_wp2_with fail
  refine wp_loop_rounds 4 ?_
  rw [rounds_succ]
  refine wgen ?_
  intro W hW
  have HX := Lib.hid (show G9 W w.heap.size 45 a b c d e f g h i by rw [hW]; exact (G9.new w 45 a b c d e f g h i).below ((Below.refl _ _).alloc (Nat.le_refl _) _))
  have HR := Lib.hid (show G9 W (w.heap.size + 1) 45 0 0 0 0 0 0 0 0 0 by rw [hW]; exact G9.newAt (by simp) 45 0 0 0 0 0 0 0 0 0)
  have HB := Lib.hid (show Below w.heap.size w W by rw [hW]; exact ((Below.refl w.heap.size w).alloc (Nat.le_refl _) _).alloc (by simp) _)
  clear hW
  obtain ⟨⟨l0, l1, l2⟩, ⟨l3, l4, l5⟩, l6, l7, l8⟩ := HX.out.cells
  go_wp2_with fail
  refine (i_clear0 a b c d e f g h i _ (by have k1 := (SC.out 0 (by omega)).1; rw [H0.out] at k1; exact k1) (by have k1 := (SC.out 0 (by omega)).2.1; rw [H0.out] at k1; exact k1)).mono ?_
  rintro e' wa ⟨y00, y01, y02, y03, y04, y05, y06, y07, y08, hy, rfl, hb⟩
  have HY := Lib.hid hy
  have HXa := Lib.hid (HX.out.below hb)
  have HRa := Lib.hid (HR.out.below hb)
  have HBa := Lib.hid (HB.out.trans (hb.mono HB.out.size))
  clear hb hy l0 l1 l2 l3 l4 l5 l6 l7 l8 HX HB HR
  go_wp2_with fail
  refine (i_red0 y00 y01 y02 y03 y04 y05 y06 y07 y08 _ (by have k1 := (SC.out 0 (by omega)).2.2; rw [H0.out, HY.out] at k1; exact k1)).mono ?_
  rintro e' wb0 ⟨z00, z01, z02, z03, z04, z05, z06, z07, z08, hz, rfl, hb⟩
  have H1x := Lib.hid (show hermS [[a, b, c], [d, e, f], [g, h, i]] 1 = [[z00, z01, z02], [z03, z04, z05], [z06, z07, z08]] by rw [H3.out 0, H0.out, HY.out]; exact hz)
  have HXb := Lib.hid (HXa.out.below hb)
  have HRb := Lib.hid (HRa.out.below hb)
  have HBb := Lib.hid (HBa.out.trans (hb.mono HBa.out.size))
  obtain ⟨⟨l0, l1, l2⟩, ⟨l3, l4, l5⟩, l6, l7, l8⟩ := HXb.out.cells
  have f0 := HXb.out.frozen 0
  have f1 := HXb.out.frozen 1
  have f2 := HXb.out.frozen 2
  have f3 := HXb.out.frozen 3
  have f4 := HXb.out.frozen 4
  have f5 := HXb.out.frozen 5
  have f6 := HXb.out.frozen 6
  have f7 := HXb.out.frozen 7
  have f8 := HXb.out.frozen 8
  clear hb hz HXa HBa HRa HY
  go_wp2_with fail
  have HX := Lib.hid (((HXb.out.set0 z00 z01 z02).set1 z03 z04 z05).set2 z06 z07 z08)
  have HB := Lib.hid ((((((((((HBb.out.setCell (p := ⟨w.heap.size, 0, none⟩) (Nat.le_refl _) (.int .i64 z00)).setCell (p := ⟨w.heap.size, 1, none⟩) (Nat.le_refl _) (.int .i64 z01)).setCell (p := ⟨w.heap.size, 2, none⟩) (Nat.le_refl _) (.int .i64 z02)).setCell (p := ⟨w.heap.size, 3, none⟩) (Nat.le_refl _) (.int .i64 z03)).setCell (p := ⟨w.heap.size, 4, none⟩) (Nat.le_refl _) (.int .i64 z04)).setCell (p := ⟨w.heap.size, 5, none⟩) (Nat.le_refl _) (.int .i64 z05)).setCell (p := ⟨w.heap.size, 6, none⟩) (Nat.le_refl _) (.int .i64 z06)).setCell (p := ⟨w.heap.size, 7, none⟩) (Nat.le_refl _) (.int .i64 z07)).setCell (p := ⟨w.heap.size, 8, none⟩) (Nat.le_refl _) (.int .i64 z08)))
  have HR := Lib.hid ((((((((((HRb.out.other (p := ⟨w.heap.size, 0, none⟩) (Nat.ne_of_lt (Nat.lt_succ_self _)) (.int .i64 z00)).other (p := ⟨w.heap.size, 1, none⟩) (Nat.ne_of_lt (Nat.lt_succ_self _)) (.int .i64 z01)).other (p := ⟨w.heap.size, 2, none⟩) (Nat.ne_of_lt (Nat.lt_succ_self _)) (.int .i64 z02)).other (p := ⟨w.heap.size, 3, none⟩) (Nat.ne_of_lt (Nat.lt_succ_self _)) (.int .i64 z03)).other (p := ⟨w.heap.size, 4, none⟩) (Nat.ne_of_lt (Nat.lt_succ_self _)) (.int .i64 z04)).other (p := ⟨w.heap.size, 5, none⟩) (Nat.ne_of_lt (Nat.lt_succ_self _)) (.int .i64 z05)).other (p := ⟨w.heap.size, 6, none⟩) (Nat.ne_of_lt (Nat.lt_succ_self _)) (.int .i64 z06)).other (p := ⟨w.heap.size, 7, none⟩) (Nat.ne_of_lt (Nat.lt_succ_self _)) (.int .i64 z07)).other (p := ⟨w.heap.size, 8, none⟩) (Nat.ne_of_lt (Nat.lt_succ_self _)) (.int .i64 z08)))
  clear HXb HBb HRb f0 f1 f2 f3 f4 f5 f6 f7 f8 l0 l1 l2 l3 l4 l5 l6 l7 l8
  rw [rounds_succ]
  obtain ⟨⟨l0, l1, l2⟩, ⟨l3, l4, l5⟩, l6, l7, l8⟩ := HX.out.cells
  go_wp2_with fail
  refine (i_clear1 z00 z01 z02 z03 z04 z05 z06 z07 z08 _ (by have k1 := (SC.out 1 (by omega)).1; rw [H1x.out] at k1; exact k1) (by have k1 := (SC.out 1 (by omega)).2.1; rw [H1x.out] at k1; exact k1)).mono ?_
  rintro e' wa ⟨y10, y11, y12, y13, y14, y15, y16, y17, y18, hy, rfl, hb⟩
  have HY := Lib.hid hy
  have HXa := Lib.hid (HX.out.below hb)
  have HRa := Lib.hid (HR.out.below hb)
  have HBa := Lib.hid (HB.out.trans (hb.mono HB.out.size))
  clear hb hy l0 l1 l2 l3 l4 l5 l6 l7 l8 HX HB HR
  go_wp2_with fail
  refine (i_red1 y10 y11 y12 y13 y14 y15 y16 y17 y18 _ (by have k1 := (SC.out 1 (by omega)).2.2; rw [H1x.out, HY.out] at k1; exact k1)).mono ?_
  rintro e' wb1 ⟨z10, z11, z12, z13, z14, z15, z16, z17, z18, hz, rfl, hb⟩
  have H2x := Lib.hid (show hermS [[a, b, c], [d, e, f], [g, h, i]] 2 = [[z10, z11, z12], [z13, z14, z15], [z16, z17, z18]] by rw [H3.out 1, H1x.out, HY.out]; exact hz)
  have HXb := Lib.hid (HXa.out.below hb)
  have HRb := Lib.hid (HRa.out.below hb)
  have HBb := Lib.hid (HBa.out.trans (hb.mono HBa.out.size))
  obtain ⟨⟨l0, l1, l2⟩, ⟨l3, l4, l5⟩, l6, l7, l8⟩ := HXb.out.cells
  have f0 := HXb.out.frozen 0
  have f1 := HXb.out.frozen 1
  have f2 := HXb.out.frozen 2
  have f3 := HXb.out.frozen 3
  have f4 := HXb.out.frozen 4
  have f5 := HXb.out.frozen 5
  have f6 := HXb.out.frozen 6
  have f7 := HXb.out.frozen 7
  have f8 := HXb.out.frozen 8
  clear hb hz HXa HBa HRa HY
  go_wp2_with fail
  have HX := Lib.hid (((HXb.out.set0 z10 z11 z12).set1 z13 z14 z15).set2 z16 z17 z18)
  have HB := Lib.hid ((((((((((HBb.out.setCell (p := ⟨w.heap.size, 0, none⟩) (Nat.le_refl _) (.int .i64 z10)).setCell (p := ⟨w.heap.size, 1, none⟩) (Nat.le_refl _) (.int .i64 z11)).setCell (p := ⟨w.heap.size, 2, none⟩) (Nat.le_refl _) (.int .i64 z12)).setCell (p := ⟨w.heap.size, 3, none⟩) (Nat.le_refl _) (.int .i64 z13)).setCell (p := ⟨w.heap.size, 4, none⟩) (Nat.le_refl _) (.int .i64 z14)).setCell (p := ⟨w.heap.size, 5, none⟩) (Nat.le_refl _) (.int .i64 z15)).setCell (p := ⟨w.heap.size, 6, none⟩) (Nat.le_refl _) (.int .i64 z16)).setCell (p := ⟨w.heap.size, 7, none⟩) (Nat.le_refl _) (.int .i64 z17)).setCell (p := ⟨w.heap.size, 8, none⟩) (Nat.le_refl _) (.int .i64 z18)))
  have HR := Lib.hid ((((((((((HRb.out.other (p := ⟨w.heap.size, 0, none⟩) (Nat.ne_of_lt (Nat.lt_succ_self _)) (.int .i64 z10)).other (p := ⟨w.heap.size, 1, none⟩) (Nat.ne_of_lt (Nat.lt_succ_self _)) (.int .i64 z11)).other (p := ⟨w.heap.size, 2, none⟩) (Nat.ne_of_lt (Nat.lt_succ_self _)) (.int .i64 z12)).other (p := ⟨w.heap.size, 3, none⟩) (Nat.ne_of_lt (Nat.lt_succ_self _)) (.int .i64 z13)).other (p := ⟨w.heap.size, 4, none⟩) (Nat.ne_of_lt (Nat.lt_succ_self _)) (.int .i64 z14)).other (p := ⟨w.heap.size, 5, none⟩) (Nat.ne_of_lt (Nat.lt_succ_self _)) (.int .i64 z15)).other (p := ⟨w.heap.size, 6, none⟩) (Nat.ne_of_lt (Nat.lt_succ_self _)) (.int .i64 z16)).other (p := ⟨w.heap.size, 7, none⟩) (Nat.ne_of_lt (Nat.lt_succ_self _)) (.int .i64 z17)).other (p := ⟨w.heap.size, 8, none⟩) (Nat.ne_of_lt (Nat.lt_succ_self _)) (.int .i64 z18)))
  clear HXb HBb HRb f0 f1 f2 f3 f4 f5 f6 f7 f8 l0 l1 l2 l3 l4 l5 l6 l7 l8
  rw [rounds_succ]
  obtain ⟨⟨l0, l1, l2⟩, ⟨l3, l4, l5⟩, l6, l7, l8⟩ := HX.out.cells
  go_wp2_with fail
  refine (i_clear2 z10 z11 z12 z13 z14 z15 z16 z17 z18 _ (by have k1 := (SC.out 2 (by omega)).1; rw [H2x.out] at k1; exact k1) (by have k1 := (SC.out 2 (by omega)).2.1; rw [H2x.out] at k1; exact k1)).mono ?_
  rintro e' wa ⟨y20, y21, y22, y23, y24, y25, y26, y27, y28, hy, rfl, hb⟩
  have HY := Lib.hid hy
  have HXa := Lib.hid (HX.out.below hb)
  have HRa := Lib.hid (HR.out.below hb)
  have HBa := Lib.hid (HB.out.trans (hb.mono HB.out.size))
  clear hb hy l0 l1 l2 l3 l4 l5 l6 l7 l8 HX HB HR
  go_wp2_with fail
  refine (i_red2 y20 y21 y22 y23 y24 y25 y26 y27 y28 _ (by have k1 := (SC.out 2 (by omega)).2.2; rw [H2x.out, HY.out] at k1; exact k1)).mono ?_
  rintro e' wb2 ⟨z20, z21, z22, z23, z24, z25, z26, z27, z28, hz, rfl, hb⟩
  have H3x := Lib.hid (show hermS [[a, b, c], [d, e, f], [g, h, i]] 3 = [[z20, z21, z22], [z23, z24, z25], [z26, z27, z28]] by rw [H3.out 2, H2x.out, HY.out]; exact hz)
  have HXb := Lib.hid (HXa.out.below hb)
  have HRb := Lib.hid (HRa.out.below hb)
  have HBb := Lib.hid (HBa.out.trans (hb.mono HBa.out.size))
  obtain ⟨⟨l0, l1, l2⟩, ⟨l3, l4, l5⟩, l6, l7, l8⟩ := HXb.out.cells
  have f0 := HXb.out.frozen 0
  have f1 := HXb.out.frozen 1
  have f2 := HXb.out.frozen 2
  have f3 := HXb.out.frozen 3
  have f4 := HXb.out.frozen 4
  have f5 := HXb.out.frozen 5
  have f6 := HXb.out.frozen 6
  have f7 := HXb.out.frozen 7
  have f8 := HXb.out.frozen 8
  clear hb hz HXa HBa HRa HY
  go_wp2_with fail
  have HX := Lib.hid (((HXb.out.set0 z20 z21 z22).set1 z23 z24 z25).set2 z26 z27 z28)
  have HB := Lib.hid ((((((((((HBb.out.setCell (p := ⟨w.heap.size, 0, none⟩) (Nat.le_refl _) (.int .i64 z20)).setCell (p := ⟨w.heap.size, 1, none⟩) (Nat.le_refl _) (.int .i64 z21)).setCell (p := ⟨w.heap.size, 2, none⟩) (Nat.le_refl _) (.int .i64 z22)).setCell (p := ⟨w.heap.size, 3, none⟩) (Nat.le_refl _) (.int .i64 z23)).setCell (p := ⟨w.heap.size, 4, none⟩) (Nat.le_refl _) (.int .i64 z24)).setCell (p := ⟨w.heap.size, 5, none⟩) (Nat.le_refl _) (.int .i64 z25)).setCell (p := ⟨w.heap.size, 6, none⟩) (Nat.le_refl _) (.int .i64 z26)).setCell (p := ⟨w.heap.size, 7, none⟩) (Nat.le_refl _) (.int .i64 z27)).setCell (p := ⟨w.heap.size, 8, none⟩) (Nat.le_refl _) (.int .i64 z28)))
  have HR := Lib.hid ((((((((((HRb.out.other (p := ⟨w.heap.size, 0, none⟩) (Nat.ne_of_lt (Nat.lt_succ_self _)) (.int .i64 z20)).other (p := ⟨w.heap.size, 1, none⟩) (Nat.ne_of_lt (Nat.lt_succ_self _)) (.int .i64 z21)).other (p := ⟨w.heap.size, 2, none⟩) (Nat.ne_of_lt (Nat.lt_succ_self _)) (.int .i64 z22)).other (p := ⟨w.heap.size, 3, none⟩) (Nat.ne_of_lt (Nat.lt_succ_self _)) (.int .i64 z23)).other (p := ⟨w.heap.size, 4, none⟩) (Nat.ne_of_lt (Nat.lt_succ_self _)) (.int .i64 z24)).other (p := ⟨w.heap.size, 5, none⟩) (Nat.ne_of_lt (Nat.lt_succ_self _)) (.int .i64 z25)).other (p := ⟨w.heap.size, 6, none⟩) (Nat.ne_of_lt (Nat.lt_succ_self _)) (.int .i64 z26)).other (p := ⟨w.heap.size, 7, none⟩) (Nat.ne_of_lt (Nat.lt_succ_self _)) (.int .i64 z27)).other (p := ⟨w.heap.size, 8, none⟩) (Nat.ne_of_lt (Nat.lt_succ_self _)) (.int .i64 z28)))
  clear HXb HBb HRb f0 f1 f2 f3 f4 f5 f6 f7 f8 l0 l1 l2 l3 l4 l5 l6 l7 l8
  rw [rounds_succ]
  obtain ⟨⟨l0, l1, l2⟩, ⟨l3, l4, l5⟩, l6, l7, l8⟩ := HX.out.cells
  obtain ⟨⟨j0, j1, j2⟩, ⟨j3, j4, j5⟩, j6, j7, j8⟩ := HR.out.cells
  have f0 := HR.out.frozen 0
  have f1 := HR.out.frozen 1
  have f2 := HR.out.frozen 2
  have f3 := HR.out.frozen 3
  have f4 := HR.out.frozen 4
  have f5 := HR.out.frozen 5
  have f6 := HR.out.frozen 6
  have f7 := HR.out.frozen 7
  have f8 := HR.out.frozen 8
  go_wp2
  refine bodyPost_ret (v := .agg #[.int .i64 z20, .int .i64 z21, .int .i64 z22, .int .i64 z23, .int .i64 z24, .int .i64 z25, .int .i64 z26, .int .i64 z27, .int .i64 z28]) ?_ rfl ⟨_, _, _, _, _, _, _, _, _, H3x.out, rfl, (((((((((HB.out.setCell (p := ⟨w.heap.size + 1, 0, none⟩) (Nat.le_succ _) _).setCell (p := ⟨w.heap.size + 1, 1, none⟩) (Nat.le_succ _) _).setCell (p := ⟨w.heap.size + 1, 2, none⟩) (Nat.le_succ _) _).setCell (p := ⟨w.heap.size + 1, 3, none⟩) (Nat.le_succ _) _).setCell (p := ⟨w.heap.size + 1, 4, none⟩) (Nat.le_succ _) _).setCell (p := ⟨w.heap.size + 1, 5, none⟩) (Nat.le_succ _) _).setCell (p := ⟨w.heap.size + 1, 6, none⟩) (Nat.le_succ _) _).setCell (p := ⟨w.heap.size + 1, 7, none⟩) (Nat.le_succ _) _).setCell (p := ⟨w.heap.size + 1, 8, none⟩) (Nat.le_succ _) _)⟩
  simp [results, Tryz.results25, go_sem, j0, j1, j2, j3, j4, j5, j6, j7, j8]
set_option maxRecDepth 100000 in
set_option maxHeartbeats 1600000 in
theorem i_hermof (m : List (List Int)) (v : Value) (w : World) (hv : Rw w v m) :
    Calls Tryz.prog 30 #[v] w (GotR w (hermR m)) := by
  have HV := Lib.hid hv
  obtain ⟨v, cc, rfl, _, _⟩ := hv.shape
  clear hv
  by_cases h0 : detR m = 0
  · have HR := Lib.hid (show hermR m = ([], false) from if_neg (fun h => h.1 h0))
    have HZ := Lib.hid h0
    clear h0
    go_enter Tryz.func30, Tryz.ntmps30
    go_wp2_with fail
    refine (i_detof m _ _ HV.out).mono ?_
    rintro e w1 ⟨rfl, hb⟩
    rw [HZ.out]
    go_wp2_with fail
    go_ret2
    rw [HR.out]
    exact ⟨⟨_, rfl, OwR.nil⟩, hb⟩
  · have hm : isM m = true := by
      by_cases hh : isM m = true
      · exact hh
      · exact absurd (if_neg hh) h0
    have hdd : detR m = detL m := if_pos hm
    obtain ⟨a, b, c, d, e, f, g, h, i, p1, hs, hdp⟩ := pad_all hm
    have hd : detL [[a, b, c], [d, e, f], [g, h, i]] ≠ 0 := by rw [hdp, ← hdd]; exact h0
    have hp := herm_pad (isM_t hm).1 (isM_t hm).2.1 (isM_sq hm)
    rw [p1] at hp
    have HR := Lib.hid (hermR_matR h0)
    have hne : (detR m == 0) = false := by rw [beq_eq_false_iff_ne]; exact h0
    have HM := Lib.hid hm
    have HP := Lib.hid hp
    have P1 := Lib.hid p1
    have IH := Lib.hid (fun W => i_hermite a b c d e f g h i hs hd W)
    clear hm hdd hd hp p1 hs hdp
    generalize hg : detR m = dd at hne h0
    have HG := Lib.hid hg
    clear hg
    go_enter Tryz.func30, Tryz.ntmps30
    go_wp2_with fail
    refine (i_detof m _ _ HV.out).mono ?_
    rintro e' w1 ⟨rfl, hb⟩
    rw [HG.out]
    have B1 := Lib.hid hb
    clear hb
    go_wp2_with fail
    refine (i_gridof (isM_t HM.out).1 (isM_t HM.out).2.1 (isM_sq HM.out) P1.out _ _ (HV.out.below B1.out)).mono ?_
    rintro e' w2 ⟨rfl, hb⟩
    have B2 := Lib.hid (B1.out.trans (hb.mono B1.out.size))
    clear hb
    go_wp2_with fail
    refine (IH.out _).mono ?_
    rintro e' w3 ⟨y0, y1, y2, y3, y4, y5, y6, y7, y8, hy, rfl, hb⟩
    have HY := Lib.hid hy
    have B3 := Lib.hid (B2.out.trans (hb.mono B2.out.size))
    clear hb hy
    go_wp2_with fail
    refine (i_rowsof _ _ _ _ _ _ _ _ _ m.length (isM_t HM.out).1 (isM_t HM.out).2.1 _).mono ?_
    rintro e' w9 ⟨⟨r, rfl, ho⟩, hb⟩
    have B9 := Lib.hid (B3.out.trans (hb.mono B3.out.size))
    have HO := Lib.hid (ho.mono (lo' := w.heap.size) B3.out.size (Nat.le_refl _))
    clear hb ho
    go_wp2_with fail
    go_ret2
    have e2 := herm_cut (isM_t HM.out).1 (isM_t HM.out).2.1 (isM_sq HM.out) (HP.out.symm.trans HY.out)
    rw [HR.out, ← e2]
    exact ⟨⟨_, rfl, HO.out⟩, B9.out⟩
end Go.Proofs.YtjijgagdaolkcaaGreat
