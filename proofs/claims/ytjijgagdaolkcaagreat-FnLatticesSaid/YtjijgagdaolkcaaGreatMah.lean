/- The model's vectors: the exported functions. -/
import Derived.Test.YtjijgagdaolkcaaGreatVecS
import Derived.Deep.RegionWith
namespace Go.Proofs.YtjijgagdaolkcaaGreat
open Go.RowKit Go.Lib

theorem Sl.get {w : World} {a : Option Addr} {n c : Nat} {v : List Int} (h : Sl w (.slice a n c) (intVals v)) (_k : Nat) (_hk : _k < v.length) : ∃ b off : Nat, a = some ⟨b, off, none⟩ ∧ b < w.heap.size ∧ w.cell? ⟨b, off + _k, none⟩ = some (.int .i64 v[_k]) := by
  obtain ⟨a', c', e, hm, ho⟩ := h.shape
  rw [intVals_len] at ho
  obtain ⟨b, off, e2, _, h2, h3⟩ := ho (by omega)
  simp only [Value.slice.injEq] at e
  exact ⟨b, off, by rw [e.1, e2], h2, h3 _ _ (intVals_get v _k _hk)⟩
theorem allG_bd {v : List Int} {n : Int} (hn : 0 ≤ n) (h : Bd v n) : ∀ k, k ≤ v.length → allG (v.take k) ≤ n := by
  intro k
  induction k with
  | zero => intro _; simpa [allG] using hn
  | succ k ih =>
    intro hk
    rw [allG_take (by omega)]
    have h1 := ih (by omega)
    have h0 := allG_nonneg (v.take k)
    have hb := h k (by omega)
    unfold gcdI
    by_cases hz : v[k] = 0
    · rw [hz, Int.gcd_zero_right]; omega
    · have : Int.gcd (allG (v.take k)) v[k] ≤ v[k].natAbs := Nat.gcd_le_right _ (by omega)
      omega

/-- What a function that answers a list and whether it is there leaves. -/
def Got (w : World) (r : List Int × Bool) (e : Ending) (w' : World) : Prop := (∃ v, e = .returned (.tuple #[v, .bool r.2]) ∧ OwnV 3 w.heap.size w'.heap.size w' v (intVals r.1)) ∧ Below w.heap.size w w'
theorem own_empty {w w0 : World} (hb : w0.heap.size ≤ w.heap.size) : OwnV 3 w0.heap.size (w.alloc (.cells #[] 3)).heap.size (w.alloc (.cells #[] 3)) (.slice (some ⟨w.heap.size, 0, none⟩) 0 0) (intVals []) :=
  OwnV.of_owns (owns_none hb)
theorem bool_f {b : Bool} (h : ¬ b = true) : b = false := by simpa using h

end Go.Proofs.YtjijgagdaolkcaaGreat
/- The model's vectors: the exported functions, out of the loops' contracts. -/
namespace Go.Proofs.YtjijgagdaolkcaaGreat
open Go.RowKit Go.Lib

end Go.Proofs.YtjijgagdaolkcaaGreat
