/- The program's search among halves of fixed length. -/
import Derived.Test.YtmogncpkdkdodaaFxC
import Derived.Test.YtmogncpkdkdodaaRegE
import Derived.Laws.StructEq
namespace Go.Proofs.Ytmogncpkdkdodaa
open Go.RowKit Go.Lib

theorem eq_arr2 (d : Nat) (x y z x' y' z' : Int) (w : World) : (Op.equalIn (d + 1 + 1) 77 (.agg #[.int .i64 x, .int .i64 y, .int .i64 z]) (.agg #[.int .i64 x', .int .i64 y', .int .i64 z'])).run Try.prog w = .ok (decide (x = x' ∧ y = y' ∧ z = z')) w := by
  have u3 := Try.underlying3
  have a3 := Try.isAgg3
  have z3 := Try.sizeOf3
  rw [Op.equalIn]
  simp only [Sem.run_bind, run_underlying Try.underlying77, Result.andThen_ok]
  simp only [Std.Legacy.Range.forIn_eq_forIn_range', Std.Legacy.Range.size, Nat.sub_zero, Nat.add_sub_cancel, Nat.div_one, List.range'_succ, List.range'_zero, List.forIn_cons, List.forIn_nil]
  go_simp
  by_cases h1 : x = x' <;> by_cases h2 : y = y' <;> by_cases h3 : z = z' <;> simp [h1, h2, h3]
theorem fx_fields : Try.prog.underlying 91 = some (.struct (Try.prog.fieldsOf 91)) := by kernel_rfl
theorem fx_stood : Try.prog.stoodInHeld 91 = false := by kernel_rfl
theorem fx_list : (Try.prog.fieldsOf 91).toList.map (fun f => (f.type, f.offset, f.name == "_")) = [(77, 0, false), (3, 3, false)] := by kernel_rfl
theorem part_nums (x y z b : Int) (w : World) : (part 77 #[.int .i64 x, .int .i64 y, .int .i64 z, .int .i64 b] 0).run Try.prog w = .ok (.agg #[.int .i64 x, .int .i64 y, .int .i64 z]) w := by
  have a3 := Try.isAgg77
  have z3 := Try.sizeOf77
  go_simp
theorem part_bound (x y z b : Int) (w : World) : (part 3 #[.int .i64 x, .int .i64 y, .int .i64 z, .int .i64 b] 3).run Try.prog w = .ok (.int .i64 b) w := by
  have a3 := Try.isAgg3
  have z3 := Try.sizeOf3
  go_simp
theorem two_of {α : Type} {l : List α} (h : l.length = 2) : ∃ a b, l = [a, b] := by
  match l, h with
  | [a, b], _ => exact ⟨a, b, rfl⟩
theorem eq_fx (x y z b x' y' z' b' : Int) (w : World) : (Op.equalIn 10000 91 (.agg #[.int .i64 x, .int .i64 y, .int .i64 z, .int .i64 b]) (.agg #[.int .i64 x', .int .i64 y', .int .i64 z', .int .i64 b'])).run Try.prog w = .ok (decide (x = x' ∧ y = y' ∧ z = z' ∧ b = b')) w := by
  have u3 := Try.underlying3
  rw [show (10000 : Nat) = 9999 + 1 from rfl, run_equalIn_struct w 9999 91 _ _ fx_fields fx_stood]
  have hl := fx_list
  generalize (Try.prog.fieldsOf 91).toList = fs at hl
  have h2 : fs.length = 2 := by have h := congrArg List.length hl; simpa using h
  obtain ⟨f, g, rfl⟩ := two_of h2
  simp only [List.map_cons, List.map_nil, List.cons.injEq, Prod.mk.injEq, and_true] at hl
  obtain ⟨⟨f1, f2, f3⟩, g1, g2, g3⟩ := hl
  have f4 : f.name ≠ "_" := by simpa using f3
  have g4 : g.name ≠ "_" := by simpa using g3
  rw [show (9999 : Nat) = 9997 + 1 + 1 from rfl]
  simp only [Op.eqFields, f4, g4, ne_eq, not_false_eq_true, if_true, f1, f2, g1, g2, Sem.run_bind, part_nums, Result.andThen_ok, eq_arr2]
  by_cases h1 : x = x' ∧ y = y' ∧ z = z'
  · by_cases h2 : b = b' <;> simp [h1, h2, part_bound, run_equalIn_int _ 9998 _ _ _ _ _ u3]
  · simp [h1]
    intro a1 a2 a3
    exact absurd ⟨a1, a2, a3⟩ h1
theorem eq_fx_of {h k : Hf} (hl : h.1.length = k.1.length) (h3 : h.1.length ≤ 3) {q : Bool} (e : decide (h = k) = q) (w : World) : (Op.equalIn 10000 91 (.agg #[.int .i64 (h.1.getD 0 0), .int .i64 (h.1.getD 1 0), .int .i64 (h.1.getD 2 0), .int .i64 h.2]) (.agg #[.int .i64 (k.1.getD 0 0), .int .i64 (k.1.getD 1 0), .int .i64 (k.1.getD 2 0), .int .i64 k.2])).run Try.prog w = .ok q w := by
  rw [eq_fx, fx_eq hl h3, e]
/-- Where the half lies first, or -1. -/
def IdxF (hs : List Hf) (h : Hf) (w : World) (e : Ending) (w' : World) : Prop :=
  ((seenL hs h = false ∧ e = .returned (.int .i64 (-1))) ∨ (seenL hs h = true ∧ ∃ k : Nat, e = .returned (.int .i64 k))) ∧ Below w.heap.size w w'
theorem seen_yes {hs : List Hf} {h : Hf} {k : Nat} (hk : k < hs.length) (e : decide (h = hs[k]) = true) : seenL hs h = true := decide_eq_true (by rw [of_decide_eq_true e]; exact List.getElem_mem hk)
theorem seen_go {hs : List Hf} {h : Hf} {k : Nat} (hk : k < hs.length) (h1 : seenL (hs.take k) h = false) (e : decide (h = hs[k]) = false) : seenL (hs.take (k + 1)) h = false := by
  rw [seen_take hk, h1, Bool.false_or, decide_eq_false_iff_not]
  intro e2
  exact of_decide_eq_false e e2.symm

/-- What the copy of a list of fixed halves leaves. -/
def MadeF2 (w : World) (hs : List Hf) (e : Ending) (w' : World) : Prop := (∃ v, e = .returned v ∧ OwF 91 w.heap.size w'.heap.size w' v hs) ∧ Below w.heap.size w w'
theorem flatF_one (hs : List Hf) : ∀ u ∈ flatF hs, u.oneCell' = true := by
  induction hs with
  | nil => intro u hu; simp [flatF] at hu
  | cons h hs ih =>
    intro u hu
    simp only [flatF, List.mem_cons] at hu
    rcases hu with rfl | rfl | rfl | rfl | hu
    · rfl
    · rfl
    · rfl
    · rfl
    · exact ih u hu
end Go.Proofs.Ytmogncpkdkdodaa
