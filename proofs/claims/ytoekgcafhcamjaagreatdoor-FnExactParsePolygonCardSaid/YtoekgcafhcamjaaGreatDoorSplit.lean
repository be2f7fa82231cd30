/- spec.SplitByte and impl.SplitByte: the pieces of a text. -/
import Derived.Test.YtoekgcafhcamjaaGreatDoorSplitNum
import Derived.Test.YtoekgcafhcamjaaGreatDoorAid
import Derived.Test.YtoekgcafhcamjaaGreatDoorMac
import Derived.Test.YtoekgcafhcamjaaGreatDoorShr
import Derived.Test.YtoekgcafhcamjaaGreatDoorMaa
import Derived.Test.YtoekgcafhcamjaaGreatDoorProg
import Derived.Deep.DeepMust
import Derived.Deep.Onto
namespace Go.Proofs.YtoekgcafhcamjaaGreatDoor
open Go.RowKit Go.Lib

theorem extract_list (s : ByteArray) (f i : Nat) : (s.extract f i).data.toList = (s.data.toList.drop f).take (i - f) := by
  rw [ByteArray.data_extract, Array.toList_extract, List.extract_eq_take_drop]

set_option maxRecDepth 100000 in
set_option maxHeartbeats 800000 in
/-- spec.SplitByte. -/
theorem ssplit (s : ByteArray) (c : UInt8) (hs : s.size ≤ 1048576) (w : World) :
    Calls Tryz.prog 64 #[.string s, .int .u8 c.toNat] w fun e w' => (∃ v, e = .returned v ∧ w'.ownsRow w.heap.size 9 1 v (parts c s.data.toList).length (strVals (parts c s.data.toList))) ∧ Below w.heap.size w w' := by
  obtain ⟨i0, hi, hz0, hz1, hz2⟩ := info_parts info_str
  have HI := Lib.hid (And.intro hi (And.intro hz0 (And.intro hz1 hz2)))
  have HLn := Lib.hid (list_len s)
  clear hi hz0 hz1 hz2
  go_enter Tryz.func64, Tryz.ntmps64
  go_wp2
  go_loopw [5, 6, 7] (fun o f i wr => ∃ (D : List ByteArray) (m k : Nat), k ≤ s.size + 1 ∧ i = .int .i64 k ∧ f = .int .i64 m ∧ SpInv c s.data.toList D m k ∧ wr.ownsRow w.heap.size 9 1 o D.length (strVals D) ∧ Below w.heap.size w wr) (fun _ _ i _ => s.size + 1 - (RowKit.intOf i).toNat)
  case atStart => exact ⟨[], 0, 0, Nat.zero_le _, rfl, rfl, spInv_start _ _, owns_empty (Nat.le_refl _), (Below.refl _ _).alloc (Nat.le_refl _) _⟩
  case round =>
    obtain ⟨D, m, k, hk, rfl, rfl, hinv, how, hbr⟩ := hrel
    obtain ⟨hD, hmk⟩ := spInv_le hinv
    rw [HLn.out] at hD hmk
    have HW := Lib.hid how
    have HB := Lib.hid hbr
    have HN := Lib.hid hinv
    clear how hbr hinv
    by_cases hle : k ≤ s.size
    · have hmk' := hmk hle
      clear hmk
      by_cases hlt : k < s.size
      · have hke : ((k : Int) == (s.size : Int)) = false := by rw [beq_eq_false_iff_ne]; omega
        by_cases hc : s[k] = c
        · have hcb : ((s[k].toNat : Int) == (c.toNat : Int)) = true := by rw [hc]; simp
          have HC := Lib.hid hc
          clear hc
          have C1 := Lib.hid (show D.length + 1 ≤ maxLen by unfold maxLen; omega)
          have C2 := Lib.hid (show (D.length + 1) * 16 ≤ 140737488355328 by omega)
          have C3 := Lib.hid (show w.heap.size ≤ (wr.alloc (.cells #[.string (s.extract m k)] 9)).heap.size by rw [World.size_alloc]; exact Nat.le_succ_of_le HB.out.size)
          have O1 := Lib.hid (show ∀ u ∈ [Value.string (s.extract m k)], u.oneCell' = true by simp [Value.oneCell'])
          go_wp2_with (at_builtin; refine wpList_append_own _ rfl (.tmp 26) (.tmp 31) 86 rfl w.heap.size 9 i0 (.string ⟨#[]⟩) 1 16 Tryz.underlying86 HI.out.1 HI.out.2.1 HI.out.2.2.1 HI.out.2.2.2 rfl (Nat.lt_succ_self 0) _ _ _ rfl (HW.out.alloc _) ⟨wr.heap.size, 0, none⟩ 1 1 [.string (s.extract m k)] rfl rfl (cell_one_new _ _ _) O1.out C1.out C2.out C3.out ?_; intro v1 w1 hown1 hgrow1 _; have HW1 := Lib.hid hown1; have HB1 := Lib.hid ((HB.out.alloc HB.out.size _).grown hgrow1 C3.out (fun q hq => (HW.out.lt q hq).1)); clear hown1 hgrow1)
          have hw := HW1.out
          have hp := spInv_cut HN.out (by rw [HLn.out]; exact hlt) HC.out (s.extract m k) (extract_list s m k)
          refine ⟨⟨D ++ [s.extract m k], k + 1, k + 1, by omega, by go_num, by go_num, hp, ?_, HB1.out⟩, by simp [RowKit.intOf]; omega⟩
          simpa [strVals] using hw
        · have hcb : ((s[k].toNat : Int) == (c.toNat : Int)) = false := by
            rw [beq_eq_false_iff_ne]; intro e
            exact hc (UInt8.toNat_inj.1 (by omega))
          have HC := Lib.hid hc
          clear hc
          go_wp2
          exact ⟨⟨D, m, k + 1, by omega, by go_num, rfl, spInv_skip HN.out (by rw [HLn.out]; exact hlt) HC.out, HW.out, HB.out⟩, by simp [RowKit.intOf]; omega⟩
      · obtain rfl : k = s.size := by omega
        have C1 := Lib.hid (show D.length + 1 ≤ maxLen by unfold maxLen; omega)
        have C2 := Lib.hid (show (D.length + 1) * 16 ≤ 140737488355328 by omega)
        have C3 := Lib.hid (show w.heap.size ≤ (wr.alloc (.cells #[.string (s.extract m s.size)] 9)).heap.size by rw [World.size_alloc]; exact Nat.le_succ_of_le HB.out.size)
        have O1 := Lib.hid (show ∀ u ∈ [Value.string (s.extract m s.size)], u.oneCell' = true by simp [Value.oneCell'])
        go_wp2_with (at_builtin; refine wpList_append_own _ rfl (.tmp 26) (.tmp 31) 86 rfl w.heap.size 9 i0 (.string ⟨#[]⟩) 1 16 Tryz.underlying86 HI.out.1 HI.out.2.1 HI.out.2.2.1 HI.out.2.2.2 rfl (Nat.lt_succ_self 0) _ _ _ rfl (HW.out.alloc _) ⟨wr.heap.size, 0, none⟩ 1 1 [.string (s.extract m s.size)] rfl rfl (cell_one_new _ _ _) O1.out C1.out C2.out C3.out ?_; intro v1 w1 hown1 hgrow1 _; have HW1 := Lib.hid hown1; have HB1 := Lib.hid ((HB.out.alloc HB.out.size _).grown hgrow1 C3.out (fun q hq => (HW.out.lt q hq).1)); clear hown1 hgrow1)
        have hw := HW1.out
        have hn2 := HN.out
        rw [← HLn.out] at hn2
        have hp := spInv_last hn2 (s.extract m s.size) (by rw [extract_list, HLn.out])
        rw [HLn.out] at hp
        refine ⟨⟨D ++ [s.extract m s.size], s.size + 1, s.size + 1, by omega, by go_num, by go_num, hp, ?_, HB1.out⟩, by simp [RowKit.intOf]⟩
        simpa [strVals] using hw
    · have hgt : s.size < k := by omega
      have HE := Lib.hid (spInv_end HN.out (by rw [HLn.out]; exact hgt))
      clear hmk
      go_wp2
      go_ret
      have hw := HW.out
      have he := HE.out
      subst he
      exact ⟨⟨_, rfl, hw⟩, HB.out⟩

/-- The library's variable that the search reads holds some int. -/
def HasMax (w : World) : Prop := ∃ m : Int, w.cell? ⟨1, 0, none⟩ = some (.int .i64 m)
theorem HasMax.below {w w' : World} (h : HasMax w) (hb : Below w.heap.size w w') : HasMax w' := by
  obtain ⟨m, h⟩ := h
  exact ⟨m, by rw [hb.cell (p := ⟨_, 0, none⟩) (cell_block_lt h)]; exact h⟩

set_option maxRecDepth 100000 in
set_option maxHeartbeats 800000 in
/-- impl.SplitByte. -/
theorem isplit (s : ByteArray) (c : UInt8) (hs : s.size ≤ 1048576) (w : World) (hx : HasMax w) :
    Calls Tryz.prog 67 #[.string s, .int .u8 c.toNat] w fun e w' => (∃ g, e = .returned (.slice (some ⟨g, 0, none⟩) (parts c s.data.toList).length (parts c s.data.toList).length) ∧
      w'.ownsRow w.heap.size 9 1 (.slice (some ⟨g, 0, none⟩) (parts c s.data.toList).length (parts c s.data.toList).length) (parts c s.data.toList).length (strVals (parts c s.data.toList))) ∧ Below w.heap.size w w' := by
  have hcv := run_one_byte (P := Tryz.prog) 22 9 5 5 Tryz.underlying22 Tryz.underlying5 Tryz.underlying9 (c.toNat : Int)
  have e1 : UInt8.ofNat ((c.toNat : Int)).toNat = c := by rw [Int.toNat_natCast]; exact UInt8.ofNat_toNat
  rw [e1] at hcv
  have call : ∀ W, HasMax W → Calls Tryz.prog 101 #[.string s, .string ⟨#[c]⟩] W fun e w' => (∃ g, e = .returned (.slice (some ⟨g, 0, none⟩) (parts c s.data.toList).length (parts c s.data.toList).length) ∧ W.heap.size ≤ g ∧
      w'.ownsRow W.heap.size 9 1 (.slice (some ⟨g, 0, none⟩) (parts c s.data.toList).length (parts c s.data.toList).length) (parts c s.data.toList).length (strVals (parts c s.data.toList))) ∧ Below W.heap.size W w' := by
    intro W hW
    obtain ⟨m, hm⟩ := hW
    refine (Tryz.strings_Split s ⟨#[c]⟩ m W (by omega) hm (Nat.le_refl 1)).mono fun e w' ⟨he, hw⟩ => ?_
    rw [countB_parts] at he
    rw [splitB_parts] at hw
    subst hw
    have hmx : (parts c s.data.toList).length ≤ maxLen := by
      rw [parts_len]
      have := sp_len_le c s.data.toList
      rw [list_len] at this
      unfold maxLen; omega
    exact ⟨⟨W.heap.size, he, Nat.le_refl _, by rw [strVals_len, Nat.mul_one], .inr ⟨W.heap.size, _, _, rfl, Nat.le_refl _, heap_alloc_new W _, Nat.le_refl _, hmx, by simp, by simp [strVals, List.take_of_length_le]⟩⟩, (Below.refl _ _).alloc (Nat.le_refl _) _⟩
  have HC := Lib.hid (call (w.alloc (.cells #[.int .u8 c.toNat] 5)) (hx.below ((Below.refl _ _).alloc (Nat.le_refl _) _)))
  clear call hx e1
  go_enter Tryz.func67, Tryz.ntmps67
  go_wp2_with fail
  refine HC.out.mono ?_
  rintro e w' ⟨⟨g, rfl, hg, how⟩, hb⟩
  have HW := Lib.hid how
  have HB := Lib.hid hb
  clear how hb
  go_wp2_with fail
  go_ret
  rw [World.size_alloc] at hg
  refine ⟨⟨g, rfl, ?_⟩, (((Below.refl _ _).alloc (Nat.le_refl _) _).trans (HB.out.mono (by rw [World.size_alloc]; omega)))⟩
  exact (HW.out.mono (by rw [World.size_alloc]; omega))
end Go.Proofs.YtoekgcafhcamjaaGreatDoor
