/- The model's matrices: columns, products. -/
import Derived.Test.YteenheidomfpkaaMatU
import Derived.Test.YteenheidomfpkaaRowApp
namespace Go.Proofs.Yteenheidomfpkaa
open Go.RowKit Go.Lib

set_option maxRecDepth 100000 in
set_option maxHeartbeats 1600000 in
/-- l3Turn: the columns as rows. -/
theorem s_turn (m : List (List Int)) (hm : m.length ≤ 1048576) (hsq : ∀ (i : Nat) (hi : i < m.length), m.length ≤ m[i].length) (v : Value) (w : World) (hv : Rw w v m) :
    Calls Try.prog 82 #[v] w (MadeR w (turnL m)) := by
  have HV := Lib.hid hv
  have HQ := Lib.hid hsq
  obtain ⟨a, cp, rfl, _, _⟩ := hv.shape
  clear hv hsq
  go_enter Try.func82, Try.ntmps82
  go_wp2
  go_loopw [3, 4] (fun o i wr => ∃ k : Nat, k ≤ m.length ∧ i = .int .i64 k ∧ OwR 31 3 w.heap.size wr.heap.size wr o ((turnL m).take k) ∧ Below w.heap.size w wr) (fun _ i _ => m.length - (RowKit.intOf i).toNat)
  case atStart => exact ⟨0, Nat.zero_le _, rfl, owr_empty (Nat.le_refl _), (Below.refl _ _).alloc (Nat.le_refl _) _⟩
  case round =>
    obtain ⟨k, hk, rfl, how, hbr⟩ := hrel
    rename World => w1
    have HW := Lib.hid how
    have HB := Lib.hid hbr
    clear how hbr
    by_cases hlt : k < m.length
    · go_wp2
      go_loopw [5, 6] (fun o i ws => ∃ j : Nat, j ≤ m.length ∧ i = .int .i64 j ∧ ws.ownsRow w1.heap.size 3 1 o j (intVals (colL (m.take j) k)) ∧ Below w1.heap.size w1 ws) (fun _ i _ => m.length - (RowKit.intOf i).toNat)
      case atStart => exact ⟨0, Nat.zero_le _, rfl, owns_none (Nat.le_refl _), (Below.refl _ _).alloc (Nat.le_refl _) _⟩
      case round =>
        obtain ⟨j, hj, rfl, how2, hbs⟩ := hrel
        have HW2 := Lib.hid how2
        have HS := Lib.hid hbs
        have HBS := Lib.hid (HB.out.trans (hbs.mono HB.out.size))
        clear how2 hbs
        by_cases hlj : j < m.length
        · obtain ⟨b1, o1, r, rfl, hlt1, hcell, hsl⟩ := HV.out.row j hlj rfl
          rw [← HBS.out.cell (p := ⟨b1, o1 + j, none⟩) hlt1] at hcell
          have hsl2 := hsl.below HBS.out
          have hkl : k < m[j].length := by have := HQ.out j hlj; omega
          obtain ⟨ra, rc, rfl, _, _⟩ := hsl2.shape
          rw [intVals_len] at hsl2 hcell
          obtain ⟨b2, o2, rfl, hlt2, hcell2⟩ := hsl2.get k hkl
          have CT := Lib.hid (colL_take hlj hkl)
          have hj' : j ≤ 1099511627776 := by omega
          have i1 : (0 : Int) ≤ (k : Int) := by omega
          have i2 : (k : Int) < (m[j].length : Int) := by omega
          clear hsl hsl2
          have C3 := Lib.hid (show w1.heap.size ≤ (wr.alloc (.cells #[.int .i64 m[j][k]] 3)).heap.size by rw [World.size_alloc]; exact Nat.le_succ_of_le HS.out.size)
          go_wp2_with (at_builtin; refine list_app_int rfl _ _ rfl w1.heap.size _ j (colL (m.take j) k) _ rfl (HW2.out.alloc _) wr.heap.size rfl (heap_alloc_new wr _) hj' C3.out ?_; intro v' w2 hown1 hbel; have HO1 := Lib.hid hown1; have HB2 := Lib.hid ((HS.out.alloc HS.out.size _).trans hbel); clear hown1 hbel)
          refine ⟨⟨j + 1, by omega, by go_num, ?_, HB2.out⟩, by simp [RowKit.intOf]; omega⟩
          rw [CT.out]
          exact HO1.out
        · obtain rfl : j = m.length := by omega
          have h2 := OwnV.of_owns HW2.out
          rw [List.take_length] at h2
          have HC := Lib.hid h2
          have HO2 := Lib.hid (HW.out.below HS.out)
          have TT := Lib.hid (turnL_take m hlt)
          have hnk : ((turnL m).take k).length = k := by rw [List.length_take, turnL_len]; omega
          have HN := Lib.hid hnk
          clear h2 hnk
          have hcl : (intVals (colL m k)).length = m.length := by rw [intVals_len]; simp [colL]
          obtain ⟨gr, gc, e0, _, _⟩ := HC.out.form (by rw [hcl]; omega)
          rw [hcl] at e0
          subst e0
          have hkb : ((turnL m).take k).length ≤ 1099511627776 := by rw [HN.out]; omega
          go_wp2_with (at_builtin; go_loud (refine list_app_row rfl _ _ rfl w.heap.size w1.heap.size _ _ ((turnL m).take k) (colL m k) rfl (HO2.out.below ((Below.refl _ _).alloc (Nat.le_refl _) _)) ((HC.out.below ((Below.refl _ _).alloc (Nat.le_refl _) _)).mono (Nat.le_refl _) (by rw [World.size_alloc]; omega)) wr.heap.size rfl (heap_alloc_new wr _) hkb HB.out.size (by have := HS.out.size; rw [World.size_alloc]; omega) ?_); intro g cap w' hown hbel; have HO3 := Lib.hid hown; have HB3 := Lib.hid hbel; clear hown hbel)
          have hB4 : Below w.heap.size w w' := (HBS.out.alloc HBS.out.size _).trans HB3.out
          refine ⟨⟨k + 1, by omega, by go_num, ?_, hB4⟩, by simp [RowKit.intOf]; omega⟩
          rw [TT.out]
          have h := HO3.out
          rw [List.length_take] at h
          exact h
    · obtain rfl : k = m.length := by omega
      go_wp2
      go_ret
      refine ⟨⟨_, rfl, ?_⟩, HB.out⟩
      have h := HW.out
      rw [List.take_of_length_le (by rw [turnL_len]; exact Nat.le_refl _)] at h
      exact h
end Go.Proofs.Yteenheidomfpkaa
