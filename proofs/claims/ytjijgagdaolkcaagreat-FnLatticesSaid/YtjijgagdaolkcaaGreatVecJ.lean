/- The program's vectors: the functions out of arrays. -/
import Derived.Test.YtjijgagdaolkcaaGreatVecI
import Derived.Test.YtjijgagdaolkcaaGreatMah
import Derived.RegionTactic
namespace Go.Proofs.YtjijgagdaolkcaaGreat
open Go.RowKit Go.Lib

def vecR (l : List Int) : List Int × Bool := if isV l = true then (l, true) else ([], false)
theorem sl_arr (w : World) (x y z : Int) (n : Nat) (hn : n ≤ 3) (T : TypeId) :
    Sl (w.alloc (.cells #[.int .i64 x, .int .i64 y, .int .i64 z] T)) (.slice (some ⟨w.heap.size, 0, none⟩) n 3) (intVals ([x, y, z].take n)) := by
  refine sl_of_cells (by rw [intVals_len, List.length_take]; simp; omega) hn (by unfold maxLen; omega) ?_
  intro i u hi
  have hlt : i < n := by
    by_cases hh : i < n
    · exact hh
    · rw [List.getElem?_eq_none (by rw [intVals_len, List.length_take]; omega)] at hi; cases hi
  have h0 : (⟨w.heap.size, 0, none⟩ : Addr).add i = ⟨w.heap.size, i, none⟩ := by unfold Addr.add; split <;> simp_all
  rw [h0, cell_of_row _ _ i _ _ _ (heap_alloc_new w _), ← hi]
  simp only [intVals, List.getElem?_map, List.getElem?_take_of_lt hlt]
  match i, (by omega : i < 3) with
  | 0, _ => rfl
  | 1, _ => rfl
  | 2, _ => rfl

set_option maxRecDepth 100000 in
set_option maxHeartbeats 400000 in
theorem i_vecof (x y z : Int) (n : Nat) (h1 : 1 ≤ n) (h2 : n ≤ 3) (w : World) :
    Calls Tryz.prog 33 #[.agg #[.int .i64 x, .int .i64 y, .int .i64 z], .int .i64 n] w (Got w (vecR ([x, y, z].take n))) := by
  have HS := Lib.hid (sl_arr w x y z n h2 43)
  have HL := Lib.hid (show ([x, y, z].take n).length = n by rw [List.length_take]; simp; omega)
  generalize hL : [x, y, z].take n = L at HS HL
  have i1 : (0 : Int) ≤ (n : Int) := by omega
  have i2 : (n : Int) ≤ 3 := by omega
  clear hL
  by_cases h : isV L = true
  · have E1 := Lib.hid h
    have ER := Lib.hid (show vecR L = (L, true) from if_pos h)
    clear h
    go_enter Tryz.func33, Tryz.ntmps33
    go_wp2_with fail
    refine (i_isv L _ _ HS.out).mono ?_
    rintro e w1 ⟨rfl, hb1⟩
    rw [E1.out]
    have HB1 := Lib.hid (((Below.refl w.heap.size w).alloc (Nat.le_refl _) _).trans (hb1.mono (by simp)))
    have HS1 := Lib.hid (HS.out.below hb1)
    clear hb1
    go_wp2_with fail
    refine (i_clone L _ _ _ _ (by have := HL.out; omega) (by have := HL.out; omega) HS1.out).mono ?_
    rintro e w2 ⟨⟨v, rfl, ho⟩, hb2⟩
    have HO := Lib.hid (ho.mono HB1.out.size (Nat.le_refl _))
    have HB2 := Lib.hid (HB1.out.trans (hb2.mono HB1.out.size))
    clear hb2 ho
    go_wp2_with fail
    go_ret2
    rw [ER.out]
    exact ⟨⟨_, rfl, HO.out⟩, HB2.out⟩
  · have E1 := Lib.hid (bool_f h)
    have ER := Lib.hid (show vecR L = ([], false) from if_neg h)
    clear h
    go_enter Tryz.func33, Tryz.ntmps33
    go_wp2_with fail
    refine (i_isv L _ _ HS.out).mono ?_
    rintro e w1 ⟨rfl, hb1⟩
    rw [E1.out]
    have HB1 := Lib.hid (((Below.refl w.heap.size w).alloc (Nat.le_refl _) _).trans (hb1.mono (by simp)))
    clear hb1
    go_wp2_with fail
    go_ret2
    rw [ER.out]
    exact ⟨⟨_, rfl, OwnV.nil⟩, HB1.out⟩

theorem tmod_bd {a b M : Int} (hb : ¬ b = 0) (h : -M ≤ b) (h' : b ≤ M) : -M ≤ a.tmod b ∧ a.tmod b ≤ M ∧ (a.tmod b).natAbs < b.natAbs := by
  have h2 : (a.tmod b).natAbs < b.natAbs := by rw [Int.natAbs_tmod]; exact Nat.mod_lt _ (by omega)
  generalize a.tmod b = t at *
  omega
theorem take_add {x y z x' y' z' : Int} (n : Nat) : addL ([x, y, z].take n) ([x', y', z'].take n) = [x + x', y + y', z + z'].take n := by
  unfold addL
  match n with
  | 0 => rfl
  | 1 => rfl
  | 2 => rfl
  | n + 3 => simp
theorem addR_vec {u v : List Int} (h : isV u = true ∧ isV v = true ∧ u.length = v.length) : addR u v = vecR (addL u v) := by
  unfold addR vecR
  by_cases h4 : isV (addL u v) = true
  · rw [if_pos ⟨h.1, h.2.1, h.2.2, h4⟩, if_pos h4]
  · rw [if_neg (fun h => h4 h.2.2.2), if_neg h4]
theorem take_scale {x y z k : Int} (n : Nat) : scaleL ([x, y, z].take n) k = [x * k, y * k, z * k].take n := by
  unfold scaleL
  match n with
  | 0 => rfl
  | 1 => rfl
  | 2 => rfl
  | n + 3 => simp
theorem scaleR_vec {u : List Int} {k : Int} (h : isV u = true ∧ inR k (-1000) 1000 = true) : scaleR u k = vecR (scaleL u k) := by
  unfold scaleR vecR
  by_cases h4 : isV (scaleL u k) = true
  · rw [if_pos ⟨h.1, h.2, h4⟩, if_pos h4]
  · rw [if_neg (fun h => h4 h.2.2), if_neg h4]
end Go.Proofs.YtjijgagdaolkcaaGreat
