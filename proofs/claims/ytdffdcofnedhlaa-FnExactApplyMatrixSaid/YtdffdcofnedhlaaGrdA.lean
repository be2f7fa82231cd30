/- The program's ApplyMatrix. -/
import Derived.Test.YtdffdcofnedhlaaGrdI
import Derived.Test.YtdffdcofnedhlaaVecK
namespace Go.Proofs.Ytdffdcofnedhlaa
open Go.RowKit Go.Lib

/-- Block B holds three numbers. -/
def G3 (w : World) (B : Nat) (T : TypeId) (a b c : Int) : Prop := w.heap[B]? = some (.cells #[.int .i64 a, .int .i64 b, .int .i64 c] T (0, 0))
section
variable {w w' : World} {B : Nat} {T : TypeId} {a b c : Int}
theorem G3.lt (k : G3 w B T a b c) : B < w.heap.size := heap_lt k
theorem G3.below (k : G3 w B T a b c) (hb : Below w.heap.size w w') : G3 w' B T a b c := by
  unfold G3
  rw [hb.block B k.lt]; exact k
theorem G3.newAt {w : World} {B : Nat} (hB : w.heap.size = B) (T : TypeId) (a b c : Int) : G3 (w.alloc (.cells #[.int .i64 a, .int .i64 b, .int .i64 c] T)) B T a b c := by subst hB; exact heap_alloc_new w _
theorem G3.cells (k : G3 w B T a b c) : w.cell? ⟨B, 0, none⟩ = some (.int .i64 a) ∧ w.cell? ⟨B, 1, none⟩ = some (.int .i64 b) ∧ w.cell? ⟨B, 2, none⟩ = some (.int .i64 c) :=
  ⟨cell_of_row _ _ _ _ _ _ k, cell_of_row _ _ _ _ _ _ k, cell_of_row _ _ _ _ _ _ k⟩
theorem G3.frozen (k : G3 w B T a b c) (j : Nat) : w.frozen? ⟨B, j, none⟩ = false := frozen_of_row _ _ j _ _ k
theorem G3.set0 (k : G3 w B T a b c) (x : Int) : G3 (w.setCell ⟨B, 0, none⟩ (.int .i64 x)) B T x b c := heap_setCell_same _ _ _ _ _ _ k
theorem G3.set1 (k : G3 w B T a b c) (x : Int) : G3 (w.setCell ⟨B, 1, none⟩ (.int .i64 x)) B T a x c := heap_setCell_same _ _ _ _ _ _ k
theorem G3.set2 (k : G3 w B T a b c) (x : Int) : G3 (w.setCell ⟨B, 2, none⟩ (.int .i64 x)) B T a b x := heap_setCell_same _ _ _ _ _ _ k
end

/-- What the program's array holds behind k rows. -/
def arrF (xs : List Int) (k : Nat) : Array Value := #[.int .i64 (if 0 < k then xs.getD 0 0 else 0), .int .i64 (if 1 < k then xs.getD 1 0 else 0), .int .i64 (if 2 < k then xs.getD 2 0 else 0)]
theorem arrF_step (xs : List Int) (k : Nat) (hk : k < 3) : (arrF xs k).setIfInBounds k (.int .i64 (xs.getD k 0)) = arrF xs (k + 1) := by
  match k, hk with
  | 0, _ => simp [arrF]
  | 1, _ => simp [arrF]
  | 2, _ => simp [arrF]
theorem arrF_get (xs : List Int) (k : Nat) (hk : k < 3) : ∃ x, (arrF xs k)[k]? = some (.int .i64 x) := by
  match k, hk with
  | 0, _ => exact ⟨_, rfl⟩
  | 1, _ => exact ⟨_, rfl⟩
  | 2, _ => exact ⟨_, rfl⟩
theorem arrF_end (xs : List Int) : arrF xs xs.length = #[.int .i64 (xs.getD 0 0), .int .i64 (xs.getD 1 0), .int .i64 (xs.getD 2 0)] := by
  match xs with
  | [] => rfl
  | [a] => rfl
  | [a, b] => rfl
  | a :: b :: c :: r => simp [arrF]
theorem take_getD (xs : List Int) (h : xs.length ≤ 3) : [xs.getD 0 0, xs.getD 1 0, xs.getD 2 0].take xs.length = xs := by
  match xs, h with
  | [], _ => rfl
  | [a], _ => rfl
  | [a, b], _ => rfl
  | [a, b, c], _ => rfl
theorem apply_row {m : List (List Int)} {v : List Int} (k : Nat) (hk : k < m.length) : (applyL m v).getD k 0 = dotL m[k] v := by
  simp [applyL, List.getD_eq_getElem?_getD, hk]
theorem row_dot {m : List (List Int)} {v : List Int} (hm : isM m = true) (hv : isV v = true) (hl : m.length = v.length) (k : Nat) (hk : k < m.length) : dotR m[k] v = (applyL m v).getD k 0 := by
  obtain ⟨h1, h3, hr⟩ := isM_t hm
  obtain ⟨h4, h5⟩ := hr k hk
  have h6 : isV m[k] = true := by
    rw [isV_mk (by omega) (by omega)]
    exact small_mk (bd_up h5 (by omega))
  rw [apply_row k hk]
  exact if_pos ⟨h6, hv, by omega⟩
theorem applyR_vec {m : List (List Int)} {v : List Int} (hm : isM m = true) (hv : isV v = true) (hl : m.length = v.length) : applyR m v = vecR (applyL m v) := by
  unfold applyR vecR
  by_cases h4 : isV (applyL m v) = true
  · rw [if_pos ⟨hm, hv, hl.symm, h4⟩, if_pos h4]
  · rw [if_neg (fun h => h4 h.2.2.2), if_neg h4]

set_option maxRecDepth 100000 in
set_option maxHeartbeats 800000 in
theorem i_applym (m : List (List Int)) (v : List Int) (a b : Value) (w : World) (ha : Rw w a m) (hb : Sl w b (intVals v)) :
    Calls Try.prog 18 #[a, b] w (Got w (applyR m v)) := by
  have HA := Lib.hid ha
  obtain ⟨a, c, rfl, hm, _⟩ := ha.shape
  unfold maxLen at hm
  clear ha
  have HB := Lib.hid hb
  obtain ⟨b, d, rfl, hm1, _⟩ := hb.shape
  rw [intVals_len] at hm1 HB ⊢
  unfold maxLen at hm1
  clear hb
  have B0 := Lib.hid (Below.refl w.heap.size w)
  go_enter Try.func18, Try.ntmps18
  go_wp2_with fail
  refine (i_ismat m _ _ (HA.out.below B0.out)).mono ?_
  rintro e w1 ⟨rfl, hb1⟩
  have B1 := Lib.hid (B0.out.trans (hb1.mono B0.out.size))
  clear hb1
  by_cases h1 : isM m = true
  · have E1 := Lib.hid h1
    have HT := Lib.hid (isM_t h1)
    rw [h1]
    clear h1
    go_wp2_with fail
    refine (i_isv v _ _ (HB.out.below B1.out)).mono ?_
    rintro e w2 ⟨rfl, hb2⟩
    have B2 := Lib.hid (B1.out.trans (hb2.mono B1.out.size))
    clear hb2
    by_cases h2 : isV v = true
    · have E2 := Lib.hid h2
      obtain ⟨l1, l2, _⟩ := isV_t h2
      rw [h2]
      clear h2
      by_cases h3 : m.length = v.length
      · have E3 := Lib.hid h3
        have HR := Lib.hid (applyR_vec E1.out E2.out h3)
        have hne : ((m.length : Int) != (v.length : Int)) = false := by simp [h3]
        clear h3
        go_wp2_with fail
        go_loopw [7, 8, 26] (fun _ _ i wr => ∃ k : Nat, k ≤ m.length ∧ i = .int .i64 k ∧ wr.heap[w2.heap.size]? = some (.cells (arrF (applyL m v) k) 44 (0, 0)) ∧ Below w.heap.size w wr) (fun _ _ i _ => m.length - (RowKit.intOf i).toNat)
        case atStart => exact ⟨0, Nat.zero_le _, rfl, heap_alloc_new w2 _, B2.out.alloc B2.out.size _⟩
        case round =>
          obtain ⟨k, hk, rfl, hr, hbr⟩ := hrel
          rename World => w3
          have HK := Lib.hid hr
          have HBr := Lib.hid hbr
          clear hr hbr
          by_cases hlt : k < m.length
          · obtain ⟨b1, o1, r, rfl, hlt1, hcell, hsl⟩ := HA.out.row k hlt rfl
            rw [← HBr.out.cell (p := ⟨b1, o1 + k, none⟩) hlt1] at hcell
            have HS := Lib.hid (hsl.below HBr.out)
            have HD := Lib.hid (row_dot E1.out E2.out E3.out k hlt)
            clear hsl
            have k3 : k < 3 := by have := HT.out.2.1; omega
            have k3' : (k : Int) < 3 := by omega
            have k0' : (0 : Int) ≤ (k : Int) := by omega
            go_wp2_with fail
            refine (i_dotof m[k] v _ _ _ HS.out (HB.out.below HBr.out)).mono ?_
            rintro e w4 ⟨rfl, hb4⟩
            rw [HD.out]
            have hblt : w2.heap.size < w3.heap.size := heap_lt HK.out
            have HK4 := Lib.hid ((hb4.block _ hblt).trans HK.out)
            have B4 := Lib.hid (HBr.out.trans (hb4.mono HBr.out.size))
            obtain ⟨x, hx⟩ := arrF_get (applyL m v) k k3
            have hcell2 := (cell_of_row _ _ k _ _ _ HK4.out).trans hx
            have hfr := frozen_of_row _ _ k _ _ HK4.out
            clear hx hb4 hblt
            go_wp2_with fail
            refine ⟨⟨k + 1, by omega, by go_num, ?_, B4.out.setCell (p := ⟨w2.heap.size, k, none⟩) B2.out.size _⟩, by simp [RowKit.intOf]; omega⟩
            have h := heap_setCell_same _ _ k _ _ (.int .i64 ((applyL m v).getD k 0)) HK4.out
            rw [arrF_step _ _ k3] at h
            exact h
          · obtain rfl : k = m.length := by omega
            have hl : (applyL m v).length = m.length := by simp [applyL]
            have h := HK.out
            rw [← hl, arrF_end] at h
            have HL := Lib.hid hl
            have c0 := cell_of_row _ _ 0 _ _ _ h
            have c1 := cell_of_row _ _ 1 _ _ _ h
            have c2 := cell_of_row _ _ 2 _ _ _ h
            simp only [List.getElem?_toArray, List.getElem?_cons_zero, List.getElem?_cons_succ] at c0 c1 c2
            have TG := Lib.hid (take_getD (applyL m v) (by have := HT.out.2.1; omega))
            clear h hl
            generalize (applyL m v).getD 0 0 = x at c0 c1 c2 TG
            generalize (applyL m v).getD 1 0 = y at c0 c1 c2 TG
            generalize (applyL m v).getD 2 0 = z at c0 c1 c2 TG
            go_wp2_with fail
            refine (i_vecof x y z v.length l1 l2 _).mono ?_
            rintro e w4 ⟨⟨r, rfl, ho⟩, hb4⟩
            have B4 := Lib.hid (HBr.out.trans (hb4.mono HBr.out.size))
            have HO := Lib.hid (ho.mono (lo' := w.heap.size) HBr.out.size (Nat.le_refl _))
            clear hb4 ho
            go_wp2_with fail
            go_ret2
            have h := TG.out
            rw [HL.out, E3.out] at h
            rw [HR.out, ← h]
            exact ⟨⟨_, rfl, HO.out⟩, B4.out⟩
      · have HR := Lib.hid (show applyR m v = ([], false) from if_neg (fun h => h3 h.2.2.1.symm))
        have hne : ((m.length : Int) != (v.length : Int)) = true := by rw [bne_iff_ne]; omega
        have hne2 : ((m.length : Int) == (v.length : Int)) = false := by rw [beq_eq_false_iff_ne]; omega
        have hne3 : (m.length == v.length) = false := by rw [beq_eq_false_iff_ne]; exact h3
        go_wp2_with fail
        go_ret2
        rw [HR.out]
        exact ⟨⟨_, rfl, OwnV.nil⟩, B2.out⟩
    · have HR := Lib.hid (show applyR m v = ([], false) from if_neg (fun h => h2 h.2.1))
      rw [bool_f h2]
      go_wp2_with fail
      go_ret2
      rw [HR.out]
      exact ⟨⟨_, rfl, OwnV.nil⟩, B2.out⟩
  · have HR := Lib.hid (show applyR m v = ([], false) from if_neg (fun h => h1 h.1))
    rw [bool_f h1]
    go_wp2_with fail
    go_ret2
    rw [HR.out]
    exact ⟨⟨_, rfl, OwnV.nil⟩, B1.out⟩
end Go.Proofs.Ytdffdcofnedhlaa
