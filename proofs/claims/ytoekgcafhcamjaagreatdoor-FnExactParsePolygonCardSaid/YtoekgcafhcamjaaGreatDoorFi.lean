/- The model's FormatInt: the loop over the digits. -/
import Derived.Test.YtoekgcafhcamjaaGreatDoorCom
import Derived.Test.YtoekgcafhcamjaaGreatDoorNum
import Derived.Test.YtoekgcafhcamjaaGreatDoorAid
import Derived.Test.YtoekgcafhcamjaaGreatDoorProg
import Derived.WalkKit
import Derived.WalkLawsBesides
import Derived.WalkSpells
import Derived.Lib.Hide
namespace Go.Proofs.YtoekgcafhcamjaaGreatDoor
open Go.RowKit Go.Lib

theorem fi_done {n : Nat} (hn : n ≠ 0) {l : List UInt8} (h : digs 0 ++ l = digs n) : l = itoa (n : Int) := by
  rw [itoa_nonneg, ← digs_pos hn, ← h, digs_zero]; rfl
theorem fi_step {n u : Nat} {l : List UInt8} (hb : n ≤ 9223372036854775808) (h0 : u ≠ 0) (h : digs u ++ l = digs n) :
    digs (u / 10) ++ ((48 + UInt8.ofNat (u % 10)) :: l) = digs n ∧ ((48 + UInt8.ofNat (u % 10)) :: l).length ≤ 20 := by
  have e : digs (u / 10) ++ ((48 + UInt8.ofNat (u % 10)) :: l) = digs n := by
    rw [← h, ← digs_step h0, List.append_assoc, List.singleton_append]
    congr 2
    rw [UInt8.ofNat_add]; rfl
  refine ⟨e, ?_⟩
  have := congrArg List.length e
  rw [List.length_append] at this
  have := digs_len hb
  omega
theorem byte_eq (u : Nat) : UInt8.ofNat (48 + (u : Int) % 10).toNat = UInt8.ofNat (48 + u % 10) := by
  rw [show (48 + (u : Int) % 10).toNat = 48 + u % 10 from by omega]

set_option maxRecDepth 100000 in
set_option maxHeartbeats 400000 in
theorem fi_pos (n : Nat) (hn : n ≠ 0) (hb : n ≤ 9223372036854775807) (w : World) :
    Calls Tryz.prog 59 #[.int .i64 n] w fun e w' => e = .returned (.string ⟨(itoa n).toArray⟩) ∧ Below w.heap.size w w' := by
  have hz : ((n : Int) == 0) = false := by simpa using hn
  have hneg : decide ((n : Int) < 0) = false := by simp
  have hcv := run_one_byte (P := Tryz.prog) 22 9 5 5 Tryz.underlying22 Tryz.underlying5 Tryz.underlying9
  go_enter Tryz.func59, Tryz.ntmps59
  go_wp2
  go_loopw [0, 4] (fun m o wr => ∃ (u : Nat) (l : List UInt8), u ≤ n ∧ m = .int .i64 u ∧ o = .string ⟨l.toArray⟩ ∧ digs u ++ l = digs n ∧ l.length ≤ 20 ∧ Below w.heap.size w wr) (fun m _ _ => (intOf m).toNat)
  case atStart => exact ⟨n, [], Nat.le_refl _, rfl, rfl, by simp, by simp, Below.refl _ _⟩
  case round =>
    obtain ⟨u, l, hu, rfl, rfl, hd, hl, hbl⟩ := hrel
    have Hd := Lib.hid hd
    clear hd
    by_cases h0 : u = 0
    · subst h0
      go_wp2
      go_ret
      exact ⟨ret_str (fi_done hn Hd.out), hbl⟩
    · have hne : ((u : Int) != 0) = true := by simpa using h0
      go_wp2
      have hst := fi_step (l := l) (by omega) h0 Hd.out
      exact ⟨⟨u / 10, _, by omega, by go_num, congrArg Value.string (str_cons _ _), hst.1, hst.2, hbl.alloc hbl.size _⟩, by simp [intOf]; omega⟩

theorem fi_done_neg {n : Nat} (hn : n ≠ 0) {l : List UInt8} (h : digs 0 ++ l = digs n) : 45 :: l = itoa (-(n : Int)) := by
  rw [itoa_neg _ (by omega), ← digs_pos hn, ← h, digs_zero]; rfl
theorem tmod_neg (u : Nat) : (-(u : Int)).tmod 10 = -((u % 10 : Nat) : Int) := by
  rw [Int.neg_tmod]; rfl
theorem tdiv_neg (u : Nat) : (-(u : Int)).tdiv 10 = -((u / 10 : Nat) : Int) := by
  rw [Int.neg_tdiv]; rfl

set_option maxRecDepth 100000 in
set_option maxHeartbeats 400000 in
theorem fi_neg (n : Nat) (hn : n ≠ 0) (hb : n ≤ 9223372036854775808) (w : World) :
    Calls Tryz.prog 59 #[.int .i64 (-(n : Int))] w fun e w' => e = .returned (.string ⟨(itoa (-(n : Int))).toArray⟩) ∧ Below w.heap.size w w' := by
  have hz : (-(n : Int) == 0) = false := by rw [beq_eq_false_iff_ne]; omega
  have hneg : decide (-(n : Int) < 0) = true := by simp; omega
  have hcv := run_one_byte (P := Tryz.prog) 22 9 5 5 Tryz.underlying22 Tryz.underlying5 Tryz.underlying9
  go_enter Tryz.func59, Tryz.ntmps59
  go_wp2
  go_loopw [0, 4] (fun m o wr => ∃ (u : Nat) (l : List UInt8), u ≤ n ∧ m = .int .i64 (-(u : Int)) ∧ o = .string ⟨l.toArray⟩ ∧ digs u ++ l = digs n ∧ l.length ≤ 20 ∧ Below w.heap.size w wr) (fun m _ _ => (intOf m).natAbs)
  case atStart => exact ⟨n, [], Nat.le_refl _, rfl, rfl, by simp, by simp, Below.refl _ _⟩
  case round =>
    obtain ⟨u, l, hu, rfl, rfl, hd, hl, hbl⟩ := hrel
    have Hd := Lib.hid hd
    clear hd
    by_cases h0 : u = 0
    · subst h0
      go_wp2
      go_ret
      exact ⟨ret_str (fi_done_neg hn Hd.out), hbl⟩
    · have hne : (-(u : Int) != 0) = true := by rw [bne_iff_ne]; omega
      have hm := tmod_neg u
      have hq := tdiv_neg u
      by_cases hd : u % 10 = 0
      · have hlt : decide (-((u % 10 : Nat) : Int) < 0) = false := by simp; omega
        go_wp2
        have hst := fi_step (l := l) hb h0 Hd.out
        rw [hd] at hst
        exact ⟨⟨u / 10, _, by omega, by go_num, congrArg Value.string (str_cons _ _), hst.1, hst.2, hbl.alloc hbl.size _⟩, by simp [intOf]; omega⟩
      · have hlt : decide (-((u % 10 : Nat) : Int) < 0) = true := by simp; omega
        go_wp2
        have hst := fi_step (l := l) hb h0 Hd.out
        exact ⟨⟨u / 10, _, by omega, by go_num, congrArg Value.string (str_cons _ _), hst.1, hst.2, hbl.alloc hbl.size _⟩, by simp [intOf]; omega⟩

set_option maxHeartbeats 400000 in
theorem fi_zero (w : World) :
    Calls Tryz.prog 59 #[.int .i64 0] w fun e w' => e = .returned (.string ⟨(itoa 0).toArray⟩) ∧ Below w.heap.size w w' := by
  go_enter Tryz.func59, Tryz.ntmps59
  go_wp2
  go_ret
  exact ⟨ret_str (by rw [show (0 : Int) = ((0 : Nat) : Int) from rfl, itoa_nonneg, decDigits_one (by omega)]; rfl), Below.refl _ _⟩

/-- spec.FormatInt: the decimal numeral. -/
theorem fi_any (n : Int) (h0 : -9223372036854775808 ≤ n) (h1 : n ≤ 9223372036854775807) (w : World) :
    Calls Tryz.prog 59 #[.int .i64 n] w fun e w' => e = .returned (.string ⟨(itoa n).toArray⟩) ∧ Below w.heap.size w w' := by
  by_cases hz : n = 0
  · subst hz; exact fi_zero w
  · by_cases hn : n < 0
    · obtain ⟨u, rfl⟩ : ∃ u : Nat, n = -(u : Int) := ⟨n.natAbs, by omega⟩
      exact fi_neg u (by omega) (by omega) w
    · obtain ⟨u, rfl⟩ : ∃ u : Nat, n = (u : Int) := ⟨n.toNat, by omega⟩
      exact fi_pos u (by omega) (by omega) w
end Go.Proofs.YtoekgcafhcamjaaGreatDoor
