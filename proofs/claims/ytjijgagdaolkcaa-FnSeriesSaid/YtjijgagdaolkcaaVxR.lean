/- The program's reduced: a rational point out of numbers and their divisor. -/
import Derived.Test.YtjijgagdaolkcaaMac
import Derived.Test.YtjijgagdaolkcaaVecJ
import Derived.Test.YtjijgagdaolkcaaHfB
namespace Go.Proofs.Ytjijgagdaolkcaa
open Go Go.RowKit Go.Lib

/-- append(out, x) at an operation. -/
theorem wp_app_int1 {o : Oper} {a : Act} {w : World} {K : Act → World → Prop} {Q : Exit → Act → World → Prop} (s x : Operand)
    (ho : o.op = .call { callee := .builtin .append, args := #[s, x], argTypes := #[24, 24] })
    (base : Nat) (v : Value) (xs : List Int) (z : Int) (hs : a.eval s = v) (hown : w.ownsRow base 3 1 v xs.length (intVals xs))
    (H : Nat) (hx : a.eval x = .slice (some ⟨H, 0, none⟩) 1 1) (hnew : w.heap[H]? = some (.cells #[.int .i64 z] 3 (0, 0)))
    (hn : xs.length ≤ 1099511627776) (hbase : base ≤ w.heap.size)
    (k : ∀ g cap w', w'.ownsRow base 3 1 (.slice (some ⟨g, 0, none⟩) (xs.length + 1) cap) (xs.length + 1) (intVals (xs ++ [z])) → w.grownBy w' v.ownBlock → K (a.put o.dst (.slice (some ⟨g, 0, none⟩) (xs.length + 1) cap)) w') : o.wp Try.prog a w K Q := by
  obtain ⟨i0, hi, hz0, hz1, hz2⟩ := info_parts info_int'
  refine wp_append_lies w s x 24 ho base 3 i0 _ 1 8 Try.underlying24 hi hz0 hz1 hz2 rfl (by omega) v xs.length _ hs hown ⟨H, 0, none⟩ 1 1 [.int .i64 z] hx rfl (World.news_of_block (cs := #[.int .i64 z]) hnew) (by simp [Value.oneCell']) (by omega) (by unfold maxLen; omega) (by omega) hbase w.heap.size rfl ?_
  intro g cap w' h1 h2 h3 h4
  exact k g cap w' (by simpa [intVals] using h1) h2

theorem gcdI_le {a b B : Int} (ha : -B ≤ a ∧ a ≤ B) (hb : -B ≤ b ∧ b ≤ B) : 0 ≤ gcdI a b ∧ gcdI a b ≤ B := by
  refine ⟨gcdI_nonneg a b, ?_⟩
  by_cases h : a = 0
  · subst h
    unfold gcdI
    rw [Int.gcd_zero_left]; omega
  · have h1 := Int.le_of_dvd (show 0 < (a.natAbs : Int) by omega) (Int.dvd_natAbs.2 (gcdI_ldvd a b))
    omega
theorem gcdI_ne {a b : Int} (h : a ≠ 0) : gcdI a b ≠ 0 := by
  intro h0
  have := gcdI_ldvd a b
  rw [h0] at this
  exact h (Int.zero_dvd.1 this)
theorem fold_take {l : List Int} {d : Int} {k : Nat} (h : k < l.length) : (l.take (k + 1)).foldl gcdI d = gcdI ((l.take k).foldl gcdI d) l[k] := by
  rw [List.take_succ_eq_append_getElem h, List.foldl_append]; rfl
theorem tdiv_bdB {x g : Int} (B : Int) (hx : -B ≤ x ∧ x ≤ B) (hg : g ≠ 0) : -B ≤ x.tdiv g ∧ x.tdiv g ≤ B := by
  have h1 : (x.tdiv g).natAbs ≤ x.natAbs := by rw [Int.natAbs_tdiv]; exact Nat.div_le_self _ _
  omega

end Go.Proofs.Ytjijgagdaolkcaa
