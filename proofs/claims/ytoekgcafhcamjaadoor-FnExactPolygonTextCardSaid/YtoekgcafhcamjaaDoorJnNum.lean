/- Plain facts: elements with a separator between them. -/
import Derived.Test.YtoekgcafhcamjaaDoorMac
import Derived.Lib.Join
namespace Go.Proofs.YtoekgcafhcamjaaDoor
open Go.Lib

def jn (sep : List UInt8) (ss : List ByteArray) : List UInt8 := Lib.join (ss.map (·.data.toList)) sep
theorem jn_nil (sep : List UInt8) : jn sep [] = [] := rfl
theorem jn_one (sep : List UInt8) (s : ByteArray) : jn sep [s] = s.data.toList := by simp [jn, join_one]
theorem jn_step (sep : List UInt8) (ss : List ByteArray) (k : Nat) (h : k < ss.length) (h0 : 0 < k) : jn sep (ss.take (k + 1)) = jn sep (ss.take k) ++ sep ++ ss[k].data.toList := by
  cases ss with
  | nil => simp at h
  | cons x r =>
    obtain ⟨j, rfl⟩ : ∃ j, k = j + 1 := ⟨k - 1, by omega⟩
    simp only [List.length_cons] at h
    have hj : j < r.length := by omega
    have e := joinTail_take_succ sep (r.map (·.data.toList)) j (r[j].data.toList) (by simp [hj])
    simp only [jn, List.take_succ_cons, List.map_cons, join_cons, List.map_take, List.getElem_cons_succ]
    rw [e]; simp [List.append_assoc]
theorem jn_len (sep : List UInt8) (ss : List ByteArray) (k : Nat) (h : k ≤ ss.length) : (jn sep (ss.take k)).length ≤ sizes ss + k * sep.length := by
  have key : ∀ j, j ≤ ss.length → (jn sep (ss.take j)).length ≤ sizes (ss.take j) + j * sep.length := by
    intro j
    induction j with
    | zero => intro _; simp [jn_nil]
    | succ j ih =>
      intro hj
      have h1 := ih (by omega)
      have h2 := sizes_snoc ss j (by omega)
      have hsz : ss[j].data.toList.length = ss[j].size := by rw [Array.length_toList]; rfl
      rw [h2]
      by_cases h0 : 0 < j
      · rw [jn_step sep ss j (by omega) h0, List.length_append, List.length_append, hsz, Nat.succ_mul]; omega
      · obtain rfl : j = 0 := by omega
        have : ss.take (0 + 1) = [ss[0]] := by rw [List.take_succ_eq_append_getElem (by omega)]; simp
        rw [this, jn_one, hsz]; omega
  exact Nat.le_trans (key k h) (by have := sizes_take_le ss k; omega)
theorem join_len (sep : List UInt8) (ss : List ByteArray) : (jn sep ss).length ≤ sizes ss + ss.length * sep.length := by
  have := jn_len sep ss ss.length (Nat.le_refl _)
  rwa [List.take_length] at this

end Go.Proofs.YtoekgcafhcamjaaDoor
