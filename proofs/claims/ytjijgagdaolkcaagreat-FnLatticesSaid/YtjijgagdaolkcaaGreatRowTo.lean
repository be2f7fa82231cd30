/- A copy of a slice of slices of integers; its measure. -/
import Derived.Test.YtjijgagdaolkcaaGreatCom
import Derived.Test.YtjijgagdaolkcaaGreatMac
import Derived.Test.YtjijgagdaolkcaaGreatMae
import Derived.Test.YtjijgagdaolkcaaGreatProg
import Derived.WalkLawsBesides
import Derived.WalkSpells
import Derived.BigQuiet
import Derived.Deep.QuietTactic
import Derived.Deep.RegionWith
namespace Go.Proofs.YtjijgagdaolkcaaGreat
open Go.RowKit Go.Lib

theorem info_row : (Tryz.prog.info? 27).map (fun i => (i.zero, i.size, i.bytes)) = some (some (.slice none 0 0), 1, 24) := by kernel_rfl

/-- How far the copy has come. -/
def RowsTo (B n k : Nat) (zss : List (List Int)) (wr : World) : Prop :=
  ∃ vs : List Value, vs.length = n ∧ wr.ownsRow B 27 1 (.slice (some ⟨B, 0, none⟩) n n) n vs ∧
    (∀ (i : Nat) u zs, i < k → vs[i]? = some u → zss[i]? = some zs → OwnV 3 (B + 1) wr.heap.size wr u (intVals zs)) ∧
    (∀ (i j : Nat) u u' b, i < k → j < k → i ≠ j → vs[i]? = some u → vs[j]? = some u' → u.ownBlock = some b → u'.ownBlock ≠ some b)
theorem RowsTo.step {B n k : Nat} {zss : List (List Int)} {wr w1 : World} {u : Value} {zs : List Int} (h : RowsTo B n k zss wr) (hb : Below wr.heap.size wr w1) (hk : k < n) (hB : B < wr.heap.size)
    (hz : zss[k]? = some zs) (hu : OwnV 3 wr.heap.size w1.heap.size w1 u (intVals zs)) : RowsTo B n (k + 1) zss (w1.setCell ⟨B, k, none⟩ u) := by
  obtain ⟨vs, h1, h2, h3, h4⟩ := h
  have h2' := (owns_below h2 hb)
  have h5 := (h2'.stored k u).1
  have hkept : Kept B (B + 1) w1 (w1.setCell ⟨B, k, none⟩ u) := (Kept.refl B (B + 1) w1).setCell (p := ⟨B, k, none⟩) (Nat.le_refl _) (Nat.lt_succ_self _) u
  have hsz : (w1.setCell ⟨B, k, none⟩ u).heap.size = w1.heap.size := by simp [World.setCell]
  have get : ∀ i, (vs.set k u)[i]? = if i = k then some u else vs[i]? := by
    intro i
    rw [List.getElem?_set]
    by_cases hi : k = i
    · subst hi; simp [h1, hk]
    · rw [if_neg hi, if_neg (fun e => hi e.symm)]
  have place : ∀ (i : Nat) x b, i < k → vs[i]? = some x → x.ownBlock = some b → b < wr.heap.size := by
    intro i x b hi hx hb
    by_cases hzi : i < zss.length
    · exact ((h3 i x _ hi hx (List.getElem?_eq_getElem hzi)).place hb).2.1
    · have : k < zss.length := by
        by_cases hh : k < zss.length
        · exact hh
        · rw [List.getElem?_eq_none (by omega)] at hz; cases hz
      omega
  refine ⟨vs.set k u, by rw [List.length_set, h1], h5, ?_, ?_⟩
  · intro i x ys hi hx hy
    rw [get] at hx
    rw [hsz]
    split at hx
    · rename_i e
      subst e
      obtain rfl : u = x := by simpa using hx
      rw [hz] at hy
      obtain rfl : zs = ys := by simpa using hy
      exact (hu.mono (by omega) (Nat.le_refl _)).kept hkept (.inr (Nat.le_refl _))
    · have := h3 i x ys (by omega) hx hy
      exact ((this.below hb).mono (Nat.le_refl _) hb.size).kept hkept (.inr (Nat.le_refl _))
  · intro i j x y b hi hj hne hx hy hxb
    rw [get] at hx hy
    split at hx
    · split at hy
      · omega
      · rename_i e _
        obtain rfl : u = x := by simpa using hx
        have p1 := (hu.place hxb).1
        intro hyb
        have := place j y b (by omega) hy hyb
        omega
    · split at hy
      · obtain rfl : u = y := by simpa using hy
        intro hyb
        have p1 := (hu.place hyb).1
        have := place i x b (by omega) hx hxb
        omega
      · exact h4 i j x y b (by omega) (by omega) hne hx hy hxb

/-- What szIntS answers. -/
def szI (left n : Int) : Int := if left < n then -1 else left - n
theorem szR_small {zss : List (List Int)} {left : Int} (h : left < zss.length + tot zss) : szR zss left = -1 := if_pos h
theorem szR_fits {zss : List (List Int)} {left : Int} (h : ¬ left < zss.length + tot zss) : szR zss left = left - zss.length - tot zss := if_neg h
end Go.Proofs.YtjijgagdaolkcaaGreat
