/- The model's matrices: DetOf, IsUnimodular, ApplyMatrix. -/
import Derived.Test.YteenheidomfpkaaMatS
import Derived.Deep.RegionHeld3
namespace Go.Proofs.Yteenheidomfpkaa
open Go.RowKit Go.Lib

set_option maxRecDepth 100000 in
set_option maxHeartbeats 800000 in
theorem s_detof (m : List (List Int)) (v : Value) (w : World) (hv : Rw w v m) :
    Calls Try.prog 46 #[v] w (Quiet w (.int .i64 (detR m))) := by
  have HV := Lib.hid hv
  have HC := Lib.hid (s_ismat m v w hv)
  clear hv
  by_cases h : isM m = true
  · have E := Lib.hid h
    have HR := Lib.hid (show detR m = detL m from if_pos h)
    have HT := Lib.hid (isM_t h)
    clear h
    go_enter Try.func46, Try.ntmps46
    go_wp2_with fail
    refine HC.out.mono ?_
    rintro e w1 ⟨rfl, hb1⟩
    rw [E.out]
    have B1 := Lib.hid hb1
    clear hb1
    go_wp2_with fail
    refine (s_det m.length 100 m HT.out.1 HT.out.2.1 (by omega) (by omega) (isM_sq E.out) _ _ (HV.out.below B1.out)).mono ?_
    rintro e w2 ⟨rfl, hb2⟩
    have B2 := Lib.hid (B1.out.trans (hb2.mono B1.out.size))
    clear hb2
    go_wp2_with fail
    go_ret
    exact ⟨ret_int HR.out.symm, B2.out⟩
  · have E := Lib.hid (bool_f h)
    have HR := Lib.hid (show detR m = 0 from if_neg h)
    clear h
    go_enter Try.func46, Try.ntmps46
    go_wp2_with fail
    refine HC.out.mono ?_
    rintro e w1 ⟨rfl, hb1⟩
    rw [E.out]
    go_wp2_with fail
    go_ret
    exact ⟨ret_int HR.out.symm, hb1⟩
theorem detR_bd (m : List (List Int)) : -6000000000000000 ≤ detR m ∧ detR m ≤ 6000000000000000 := by
  unfold detR
  split
  · rename_i h
    have ht := isM_t h
    exact det_bd ht.1 ht.2.1 ((isM_sq h).mono (by omega))
  · omega
set_option maxRecDepth 100000 in
set_option maxHeartbeats 800000 in
/-- l3Apply: the products of the rows with a list. -/
theorem s_apply (m : List (List Int)) (u : List Int) (hm : m.length ≤ 1048576) (hu : u.length ≤ 1048576) (b c : Int) (hbc0 : 0 ≤ b * c) (hbc : b * c ≤ 1099511627776) (hr : ∀ (i : Nat) (hi : i < m.length), m[i].length = u.length ∧ Bd m[i] b) (hub : Bd u c) (v x : Value) (w : World) (hv : Rw w v m) (hx : Sl w x (intVals u)) :
    Calls Try.prog 83 #[v, x] w (Made w (applyL m u)) := by
  have HV := Lib.hid hv
  have HX := Lib.hid hx
  have HR := Lib.hid hr
  have HU := Lib.hid hub
  obtain ⟨a, cp, rfl, _, _⟩ := hv.shape
  clear hv hx hr hub
  go_enter Try.func83, Try.ntmps83
  go_wp2
  go_loopw [5, 6] (fun o i wr => ∃ k : Nat, k ≤ m.length ∧ i = .int .i64 k ∧ wr.ownsRow w.heap.size 3 1 o k (intVals (applyL (m.take k) u)) ∧ Below w.heap.size w wr) (fun _ i _ => m.length - (RowKit.intOf i).toNat)
  case atStart => exact ⟨0, Nat.zero_le _, rfl, owns_none (Nat.le_refl _), (Below.refl _ _).alloc (Nat.le_refl _) _⟩
  case round =>
    obtain ⟨k, hk, rfl, how, hbr⟩ := hrel
    have HW := Lib.hid how
    have HB := Lib.hid hbr
    by_cases hlt : k < m.length
    · obtain ⟨b1, o1, r, rfl, hlt1, hcell, hsl⟩ := HV.out.row k hlt rfl
      rw [← hbr.cell (p := ⟨b1, o1 + k, none⟩) hlt1] at hcell
      have HS := Lib.hid (hsl.below hbr)
      have AT := Lib.hid (applyL_take (v := u) hlt)
      have hk' : k ≤ 1099511627776 := by omega
      clear hsl hbr how
      go_wp2_with fail
      refine (s_dot m[k] u (HR.out k hlt).1 (by have := (HR.out k hlt).1; omega) b c hbc0 hbc (HR.out k hlt).2 HU.out _ _ _ HS.out (HX.out.below HB.out)).mono ?_
      rintro e w1 ⟨rfl, hb1⟩
      have HB1 := Lib.hid (HB.out.trans (hb1.mono HB.out.size))
      have HW1 := Lib.hid (owns_below HW.out hb1)
      clear hb1
      have C3 := Lib.hid (show w.heap.size ≤ (w1.alloc (.cells #[.int .i64 (dotL m[k] u)] 3)).heap.size by rw [World.size_alloc]; exact Nat.le_succ_of_le HB1.out.size)
      go_wp2_with (at_builtin; refine list_app_int rfl _ _ rfl w.heap.size _ k (applyL (m.take k) u) _ rfl (HW1.out.alloc _) w1.heap.size rfl (heap_alloc_new w1 _) hk' C3.out ?_; intro v' w2 hown1 hbel; have HO1 := Lib.hid hown1; have HB2 := Lib.hid ((HB1.out.alloc HB1.out.size _).trans hbel); clear hown1 hbel)
      refine ⟨⟨k + 1, by omega, by go_num, ?_, HB2.out⟩, by simp [RowKit.intOf]; omega⟩
      rw [AT.out]
      exact HO1.out
    · obtain rfl : k = m.length := by omega
      clear hbr how
      go_wp2
      go_ret
      refine ⟨⟨_, rfl, ?_⟩, HB.out⟩
      have h := OwnV.of_owns HW.out
      rw [List.take_length] at h
      exact h
end Go.Proofs.Yteenheidomfpkaa
