/- The program's vectors: the functions out of arrays. -/
import Derived.Test.YtjijgagdaolkcaaVecI
import Derived.Test.YtjijgagdaolkcaaMaj
import Derived.RegionTactic
namespace Go.Proofs.Ytjijgagdaolkcaa
open Go.RowKit Go.Lib

def vecR (l : List Int) : List Int × Bool := if isV l = true then (l, true) else ([], false)
theorem sl_arr (w : World) (x y z : Int) (n : Nat) (hn : n ≤ 3) (T : TypeId) :
    Sl (w.alloc (.cells #[.int .i64 x, .int .i64 y, .int .i64 z] T)) (.slice (some ⟨w.heap.size, 0, none⟩) n 3) (intVals ([x, y, z].take n)) := by
  refine sl_of_cells (by rw [intVals_len, List.length_take]; simp; omega) hn (by unfold maxLen; omega) ?_
  intro i u hi
  have hlt : i < n := by
    by_cases hh : i < n
    · exact hh
    · rw [List.getElem?_eq_none (by rw [intVals_len, List.length_take]; omega)] at hi; cases hi
  have h0 : (⟨w.heap.size, 0, none⟩ : Addr).add i = ⟨w.heap.size, i, none⟩ := by unfold Addr.add; split <;> simp_all
  rw [h0, cell_of_row _ _ i _ _ _ (heap_alloc_new w _), ← hi]
  simp only [intVals, List.getElem?_map, List.getElem?_take_of_lt hlt]
  match i, (by omega : i < 3) with
  | 0, _ => rfl
  | 1, _ => rfl
  | 2, _ => rfl

theorem tmod_bd {a b M : Int} (hb : ¬ b = 0) (h : -M ≤ b) (h' : b ≤ M) : -M ≤ a.tmod b ∧ a.tmod b ≤ M ∧ (a.tmod b).natAbs < b.natAbs := by
  have h2 : (a.tmod b).natAbs < b.natAbs := by rw [Int.natAbs_tmod]; exact Nat.mod_lt _ (by omega)
  generalize a.tmod b = t at *
  omega
set_option maxRecDepth 100000 in
set_option maxHeartbeats 400000 in
theorem i_gcd (x y : Int) (h1 : -4611686018427387904 ≤ x) (h2 : x ≤ 4611686018427387904) (h3 : -4611686018427387904 ≤ y) (h4 : y ≤ 4611686018427387904) (w : World) :
    Calls Try.prog 115 #[.int .i64 x, .int .i64 y] w (Quiet w (.int .i64 (gcdI x y))) := by
  go_enter Try.func115, Try.ntmps115
  go_wp2_with fail
  go_loopw [0, 1] (fun p q wr => ∃ a b : Int, -4611686018427387904 ≤ a ∧ a ≤ 4611686018427387904 ∧ -4611686018427387904 ≤ b ∧ b ≤ 4611686018427387904 ∧ p = .int .i64 a ∧ q = .int .i64 b ∧ gcdI a b = gcdI x y ∧ Below w.heap.size w wr) (fun _ q _ => (RowKit.intOf q).natAbs)
  case atStart => exact ⟨x, y, h1, h2, h3, h4, rfl, rfl, rfl, Below.refl _ _⟩
  case round =>
    obtain ⟨a, b, ha, ha', hb, hb', rfl, rfl, hg, hbr⟩ := hrel
    have HG := Lib.hid hg
    have HB := Lib.hid hbr
    clear hg hbr
    by_cases hz : b = 0
    · subst hz
      by_cases h : -a ≤ a
      · have HM := Lib.hid (show a = gcdI a 0 by unfold gcdI; rw [Int.gcd_zero_right]; omega)
        go_wp2
        go_ret
        exact ⟨ret_int (by rw [← HG.out]; exact HM.out), HB.out⟩
      · have HM := Lib.hid (show -a = gcdI a 0 by unfold gcdI; rw [Int.gcd_zero_right]; omega)
        go_wp2
        go_ret
        exact ⟨ret_int (by rw [← HG.out]; exact HM.out), HB.out⟩
    · have hnz : (b != 0) = true := by rw [bne_iff_ne]; omega
      have hz0 : (b == 0) = false := by rw [beq_eq_false_iff_ne]; omega
      have HM := Lib.hid (tmod_bd (a := a) hz hb hb')
      have HS := Lib.hid (gcdI_tmod a b)
      go_wp2
      go_quiet (fail)
      go_wp2
      exact ⟨⟨b, a.tmod b, hb, hb', HM.out.1, HM.out.2.1, rfl, rfl, by rw [HS.out, HG.out], below_drewN' HB.out _⟩, HM.out.2.2⟩

theorem take_add {x y z x' y' z' : Int} (n : Nat) : addL ([x, y, z].take n) ([x', y', z'].take n) = [x + x', y + y', z + z'].take n := by
  unfold addL
  match n with
  | 0 => rfl
  | 1 => rfl
  | 2 => rfl
  | n + 3 => simp
theorem addR_vec {u v : List Int} (h : isV u = true ∧ isV v = true ∧ u.length = v.length) : addR u v = vecR (addL u v) := by
  unfold addR vecR
  by_cases h4 : isV (addL u v) = true
  · rw [if_pos ⟨h.1, h.2.1, h.2.2, h4⟩, if_pos h4]
  · rw [if_neg (fun h => h4 h.2.2.2), if_neg h4]
theorem take_scale {x y z k : Int} (n : Nat) : scaleL ([x, y, z].take n) k = [x * k, y * k, z * k].take n := by
  unfold scaleL
  match n with
  | 0 => rfl
  | 1 => rfl
  | 2 => rfl
  | n + 3 => simp
theorem scaleR_vec {u : List Int} {k : Int} (h : isV u = true ∧ inR k (-1000) 1000 = true) : scaleR u k = vecR (scaleL u k) := by
  unfold scaleR vecR
  by_cases h4 : isV (scaleL u k) = true
  · rw [if_pos ⟨h.1, h.2, h4⟩, if_pos h4]
  · rw [if_neg (fun h => h4 h.2.2), if_neg h4]
end Go.Proofs.Ytjijgagdaolkcaa
