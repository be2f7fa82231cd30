/- The laws' marks on slices of integers: markIntS, heldIntS. -/
import Derived.Test.YtmogncpkdkdodaaDoorCom
import Derived.Test.YtmogncpkdkdodaaDoorFrm
import Derived.Test.YtmogncpkdkdodaaDoorProg
import Derived.WalkLawsBesides
import Derived.WalkSpells
import Derived.BigQuiet
import Derived.Deep.QuietTactic
namespace Go.Proofs.YtmogncpkdkdodaaDoor
open Go.RowKit Go.Lib

/-- Marks from k on. -/
def imarks (k n : Nat) : List Int := (List.range n).map fun i => ((k + i : Nat) : Int)
theorem imarks_len (k n : Nat) : (imarks k n).length = n := by simp [imarks]
theorem imarks_get (k n i : Nat) (h : i < n) : (imarks k n)[i]'(by rw [imarks_len]; exact h) = ((k + i : Nat) : Int) := by simp [imarks]
theorem imarks_step (k j : Nat) (zs : List Int) (h : j < zs.length) :
    (intVals (imarks k j ++ zs.drop j)).set j (.int .i64 (k + j : Nat)) = intVals (imarks k (j + 1) ++ zs.drop (j + 1)) := by
  have hl : (intVals (imarks k j)).length = j := by rw [intVals_len, imarks_len]
  have e : intVals (imarks k j ++ zs.drop j) = intVals (imarks k j) ++ intVals (zs.drop j) := by simp [intVals]
  rw [e, List.set_append_right _ _ (by omega), hl, Nat.sub_self, List.drop_eq_getElem_cons h]
  have e2 : ∀ u, (intVals (zs[j] :: zs.drop (j + 1))).set 0 u = u :: intVals (zs.drop (j + 1)) := fun _ => rfl
  rw [e2]
  simp only [intVals, imarks, List.range_succ, List.map_append, List.map_cons, List.map_nil, List.append_assoc, List.cons_append, List.nil_append]

end Go.Proofs.YtmogncpkdkdodaaDoor
