/- The program's quotient, rounded down. -/
import Derived.Test.YteenheidomfpkaaHerS
import Derived.Test.YteenheidomfpkaaGrdS
namespace Go.Proofs.Yteenheidomfpkaa
open Go.RowKit Go.Lib

theorem quot_fact (a b : Int) (_hb : 0 < b) : (a < a.tdiv b * b ↔ a.tmod b < 0) ∧ (a.tdiv b * b).natAbs ≤ a.natAbs := by
  have h1 := Int.tmod_add_mul_tdiv a b
  have e : a.tdiv b * b = b * a.tdiv b := Int.mul_comm _ _
  refine ⟨by rw [e]; omega, ?_⟩
  rw [Int.natAbs_mul, Int.natAbs_tdiv]
  exact Nat.div_mul_le_self _ _
set_option maxRecDepth 100000 in
theorem i_quot (a b : Int) (h1 : -4000000000000000000 ≤ a) (h2 : a ≤ 4000000000000000000) (hb : 0 < b) (hb2 : b ≤ 4000000000000000000) (w : World) :
    Calls Try.prog 115 #[.int .i64 a, .int .i64 b] w fun e w' => e = .returned (.int .i64 (a / b)) ∧ w = w' := by
  have FT := Lib.hid (floor_t a b hb)
  have QF := Lib.hid (quot_fact a b hb)
  have hp0 : ¬ b = 0 := by omega
  have hp1 : b ≠ -1 := by omega
  have hp2 : (b == -1) = false := by rw [beq_eq_false_iff_ne]; omega
  have q1 := Int.natAbs_tdiv_le_natAbs a b
  have hq1 : IntKind.i64.wrap (a.tdiv b) = a.tdiv b := IntWalk.i64_in _ (by generalize a.tdiv b = t at q1; omega)
  have q2 := QF.out.2
  have b1 : -4000000000000000000 ≤ a.tdiv b * b := by generalize a.tdiv b * b = t at q2; omega
  have b2 : a.tdiv b * b ≤ 4000000000000000000 := by generalize a.tdiv b * b = t at q2; omega
  have b3 : -4000000000000000000 ≤ a.tdiv b := by generalize a.tdiv b = t at q1; omega
  have b4 : a.tdiv b ≤ 4000000000000000000 := by generalize a.tdiv b = t at q1; omega
  clear q1 q2
  by_cases h : a < a.tdiv b * b
  · have e := Lib.hid (show a.tdiv b - 1 = a / b by have h2 := FT.out; rw [if_pos (QF.out.1.1 h)] at h2; exact h2)
    go_enter Try.func115, Try.ntmps115
    go_wp2
    go_ret
    exact ⟨by rw [← e.out]; rfl, rfl⟩
  · have e := Lib.hid (show a.tdiv b = a / b by have h2 := FT.out; rw [if_neg (fun k => h (QF.out.1.2 k))] at h2; exact h2)
    have h' : a.tdiv b * b ≤ a := by omega
    go_enter Try.func115, Try.ntmps115
    go_wp2
    go_ret
    exact ⟨by rw [← e.out]; rfl, rfl⟩
end Go.Proofs.Yteenheidomfpkaa
