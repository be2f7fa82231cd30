/- Copies of halves and regions. -/
import Derived.Test.YtoekgcafhcamjaaHfA
import Derived.Test.YtoekgcafhcamjaaBk
namespace Go.Proofs.Ytoekgcafhcamjaa
open Go.RowKit Go.Lib

def filledH (hs : List Hf) (k : Nat) : List Hf := hs.take k ++ zerosH (hs.length - k)
theorem filledH_len (hs : List Hf) (k : Nat) (h : k ≤ hs.length) : (filledH hs k).length = hs.length := by simp [filledH, zerosH]; omega
theorem filledH_all (hs : List Hf) : filledH hs hs.length = hs := by simp [filledH, zerosH]
theorem filledH_zero (hs : List Hf) : filledH hs 0 = zerosH hs.length := by simp [filledH]
theorem filledH_step (hs : List Hf) (k : Nat) (h : k < hs.length) : (filledH hs k).set k hs[k] = filledH hs (k + 1) := by
  unfold filledH zerosH
  rw [List.set_append_right _ _ (by rw [List.length_take]; omega), List.length_take, Nat.min_eq_left (by omega), Nat.sub_self]
  rw [show hs.length - k = (hs.length - (k + 1)) + 1 from by omega, List.replicate_succ, List.set_cons_zero, List.take_succ_eq_append_getElem h, List.append_assoc]
  rfl

end Go.Proofs.Ytoekgcafhcamjaa
