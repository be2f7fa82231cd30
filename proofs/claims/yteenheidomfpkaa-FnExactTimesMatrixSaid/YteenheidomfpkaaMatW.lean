/- The model's matrices: products. -/
import Derived.Test.YteenheidomfpkaaMatV
namespace Go.Proofs.Yteenheidomfpkaa
open Go.RowKit Go.Lib

set_option maxRecDepth 100000 in
set_option maxHeartbeats 1600000 in
/-- l3Times: the product. -/
theorem s_times (n : Nat) (a b : List (List Int)) (h3 : n ≤ 3) (ha : Sq n 100 a) (hb : Sq n 100 b) (v x : Value) (w : World) (hv : Rw w v a) (hx : Rw w x b) :
    Calls Try.prog 41 #[v, x] w (MadeR w (timesL a b)) := by
  have HV := Lib.hid hv
  have HX := Lib.hid hx
  have HA := Lib.hid ha
  have HT := Lib.hid (turnL_sq (by omega) hb)
  obtain ⟨p, cp, rfl, _, _⟩ := hv.shape
  have hla := ha.1
  have hlb := hb.1
  have HBS := Lib.hid (fun (i : Nat) (hi : i < b.length) => show b.length ≤ b[i].length by rw [(hb.2 i hi).1, hlb]; exact Nat.le_refl _)
  have htl : (turnL b).length = n := by rw [turnL_len, hlb]
  clear hv hx ha hb
  go_enter Try.func41, Try.ntmps41
  go_wp2_with fail
  refine (s_turn b (by omega) HBS.out _ _ (HX.out.below ((Below.refl _ _).alloc (Nat.le_refl _) _))).mono ?_
  rintro e w1 ⟨⟨tv, rfl, ht⟩, hb1⟩
  rw [World.size_alloc] at ht hb1
  have HT1 := Lib.hid ht
  have hsz : w.heap.size + 1 ≤ w1.heap.size := by have := hb1.size; rw [World.size_alloc] at this; exact this
  have HB1 := Lib.hid (((Below.refl w.heap.size w).alloc (Nat.le_refl _) _).trans (hb1.mono (Nat.le_succ _)))
  have HO0 := Lib.hid ((owr_empty (T := 31) (e := 3) (Nat.le_refl w.heap.size)).below (by rw [World.size_alloc]; exact hb1))
  clear ht hb1
  go_wp2
  go_loopw [5, 7] (fun o i wr => ∃ k : Nat, k ≤ a.length ∧ i = .int .i64 k ∧ OwR 31 3 w.heap.size wr.heap.size wr o (timesL (a.take k) b) ∧ Below w.heap.size w wr ∧
      (∀ g, o.ownBlock = some g → g < w.heap.size + 1 ∨ w1.heap.size ≤ g) ∧ Mid (w.heap.size + 1) w1.heap.size w1 wr ∧ w1.heap.size ≤ wr.heap.size) (fun _ i _ => a.length - (RowKit.intOf i).toNat)
  case atStart =>
    refine ⟨0, Nat.zero_le _, rfl, HO0.out.mono (Nat.le_refl _) (by rw [World.size_alloc]; exact hsz), HB1.out, fun g hg => ?_, Mid.refl _ _ _, Nat.le_refl _⟩
    simp only [Value.ownBlock, Option.some.injEq] at hg
    omega
  case round =>
    obtain ⟨k, hk, rfl, how, hbr, hob, hmid, hsr⟩ := hrel
    have HW := Lib.hid how
    have HB := Lib.hid hbr
    have HOB := Lib.hid hob
    have HM := Lib.hid hmid
    clear how hbr hob hmid
    by_cases hlt : k < a.length
    · obtain ⟨b1, o1, r, rfl, hlt1, hcell, hsl⟩ := HV.out.row k hlt rfl
      rw [← HB.out.cell (p := ⟨b1, o1 + k, none⟩) hlt1] at hcell
      have HS := Lib.hid (hsl.below HB.out)
      have AT := Lib.hid (timesL_take (b := b) hlt)
      clear hsl
      go_wp2_with fail
      refine (s_apply (turnL b) a[k] (by omega) (by have := (HA.out.2 k hlt).1; omega) 100 100 (by omega) (by omega) (fun i hi => ⟨by rw [(HT.out.2 i hi).1, (HA.out.2 k hlt).1], (HT.out.2 i hi).2⟩) (HA.out.2 k hlt).2 _ _ _ (HT1.out.mid HM.out).rw HS.out).mono ?_
      rintro e w2 ⟨⟨r2, rfl, ho⟩, hb2⟩
      have hcl : (intVals (applyL (turnL b) a[k])).length = n := by rw [intVals_len]; simp [applyL, htl]
      have HR2 := Lib.hid ho
      obtain ⟨gr, gc, e0, _, _⟩ := ho.form (by rw [hcl]; omega)
      rw [hcl] at e0
      subst e0
      have HW2 := Lib.hid (HW.out.below hb2)
      have HB2 := Lib.hid (HB.out.trans (hb2.mono HB.out.size))
      have HM2 := Lib.hid (HM.out.trans (Mid.of_below hb2 hsr))
      have HB3 := Lib.hid hb2
      have hs2 : wr.heap.size ≤ w2.heap.size := hb2.size
      have HN : (timesL (a.take k) b).length = k := by simp only [timesL, List.length_map, List.length_take]; omega
      have hkb : (timesL (a.take k) b).length ≤ 1099511627776 := by rw [HN]; omega
      have HN2 := Lib.hid HN
      clear ho hb2 HN
      go_wp2_with (at_builtin; refine list_app_row2 rfl _ _ rfl w.heap.size wr.heap.size _ _ (timesL (a.take k) b) (applyL (turnL b) a[k]) rfl (HW2.out.below ((Below.refl _ _).alloc (Nat.le_refl _) _)) ((HR2.out.below ((Below.refl _ _).alloc (Nat.le_refl _) _)).mono (Nat.le_refl _) (by rw [World.size_alloc]; omega)) w2.heap.size rfl (heap_alloc_new w2 _) hkb HB.out.size (by rw [World.size_alloc]; omega) ?_; intro g cap w' hown hbel hpl hgr; have HO4 := Lib.hid hown; have HB4 := Lib.hid ((HB2.out.alloc HB2.out.size _).trans hbel); have HP := Lib.hid (show u5.ownBlock = some g ∨ w2.heap.size + 1 ≤ g from by rw [World.size_alloc] at hpl; exact hpl); have HG := Lib.hid (show World.grownBy _ w' u5.ownBlock from hgr); clear hown hbel hpl hgr)
      have hs3 : w1.heap.size ≤ w'.heap.size := by have := HG.out.size; rw [World.size_alloc] at this; omega
      refine ⟨⟨k + 1, by omega, by go_num, ?_, HB4.out, ?_, (HM2.out.trans (Mid.of_below ((Below.refl _ _).alloc (Nat.le_refl _) _) (by omega))).trans (Mid.grown HG.out (by rw [World.size_alloc]; omega) HOB.out), hs3⟩, by simp [RowKit.intOf]; omega⟩
      · rw [AT.out]
        have h := HO4.out
        exact h
      · intro g' hg'
        simp only [Value.ownBlock, Option.some.injEq] at hg'
        subst hg'
        rcases HP.out with h | h
        · exact HOB.out _ h
        · exact .inr (by omega)
    · obtain rfl : k = a.length := by omega
      go_wp2
      go_ret
      refine ⟨⟨_, rfl, ?_⟩, HB.out⟩
      have h := HW.out
      rw [List.take_length] at h
      exact h
end Go.Proofs.Yteenheidomfpkaa
