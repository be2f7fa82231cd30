/- The model's vectors: the exported functions. -/
import Derived.Test.YtoekgcafhcamjaaGreatDoorVecS
import Derived.Deep.RegionWith
namespace Go.Proofs.YtoekgcafhcamjaaGreatDoor
open Go.RowKit Go.Lib

theorem Sl.get {w : World} {a : Option Addr} {n c : Nat} {v : List Int} (h : Sl w (.slice a n c) (intVals v)) (_k : Nat) (_hk : _k < v.length) : ∃ b off : Nat, a = some ⟨b, off, none⟩ ∧ b < w.heap.size ∧ w.cell? ⟨b, off + _k, none⟩ = some (.int .i64 v[_k]) := by
  obtain ⟨a', c', e, hm, ho⟩ := h.shape
  rw [intVals_len] at ho
  obtain ⟨b, off, e2, _, h2, h3⟩ := ho (by omega)
  simp only [Value.slice.injEq] at e
  exact ⟨b, off, by rw [e.1, e2], h2, h3 _ _ (intVals_get v _k _hk)⟩
theorem allG_bd {v : List Int} {n : Int} (hn : 0 ≤ n) (h : Bd v n) : ∀ k, k ≤ v.length → allG (v.take k) ≤ n := by
  intro k
  induction k with
  | zero => intro _; simpa [allG] using hn
  | succ k ih =>
    intro hk
    rw [allG_take (by omega)]
    have h1 := ih (by omega)
    have h0 := allG_nonneg (v.take k)
    have hb := h k (by omega)
    unfold gcdI
    by_cases hz : v[k] = 0
    · rw [hz, Int.gcd_zero_right]; omega
    · have : Int.gcd (allG (v.take k)) v[k] ≤ v[k].natAbs := Nat.gcd_le_right _ (by omega)
      omega

set_option maxRecDepth 100000 in
set_option maxHeartbeats 400000 in
theorem s_all (v : List Int) (n : Int) (hn0 : 0 ≤ n) (hn : n ≤ 4611686018427387904) (hv' : Bd v n) (a : Value) (w : World) (hv : Sl w a (intVals v)) :
    Calls Tryz.prog 121 #[a] w (Quiet w (.int .i64 (allG v))) := by
  obtain ⟨a, c, rfl, hm, hopen⟩ := hv.shape
  rw [intVals_len] at hm hopen ⊢
  unfold maxLen at hm
  have HO := Lib.hid hopen
  have HV := Lib.hid hv'
  clear hopen hv hv'
  go_enter Tryz.func121, Tryz.ntmps121
  go_wp2
  go_loopw [3, 4] (fun g i wr => ∃ k : Nat, k ≤ v.length ∧ i = .int .i64 k ∧ g = .int .i64 (allG (v.take k)) ∧ Below w.heap.size w wr) (fun _ i _ => v.length - (RowKit.intOf i).toNat)
  case atStart => exact ⟨0, Nat.zero_le _, rfl, rfl, Below.refl _ _⟩
  case round =>
    obtain ⟨k, hk, rfl, rfl, hbr⟩ := hrel
    have HB := Lib.hid hbr
    by_cases hlt : k < v.length
    · obtain ⟨b, off, rfl, hc, hlt2, hx⟩ := HO.out (by omega)
      have hcell := hx k _ (intVals_get v k hlt)
      rw [← hbr.cell (p := ⟨b, off + k, none⟩) hlt2] at hcell
      clear hx hbr
      have g1 := (HV.out k hlt).1
      have g2 := (HV.out k hlt).2
      have g3 := allG_nonneg (v.take k)
      have g4 := allG_bd hn0 HV.out k hk
      have GT := Lib.hid (allG_take hlt)
      go_wp2_with fail
      refine (s_gcd _ _ (by omega) (by omega) (by omega) (by omega) _).mono ?_
      rintro e w1 ⟨rfl, hb1⟩
      have HB1 := Lib.hid (HB.out.trans (hb1.mono HB.out.size))
      clear hb1
      go_wp2_with fail
      exact ⟨⟨k + 1, by omega, by go_num, by rw [GT.out], HB1.out⟩, by simp [RowKit.intOf]; omega⟩
    · obtain rfl : k = v.length := by omega
      clear hbr
      go_wp2
      go_ret
      exact ⟨ret_int (by rw [List.take_length]), HB.out⟩

/-- What a function that answers a list and whether it is there leaves. -/
def Got (w : World) (r : List Int × Bool) (e : Ending) (w' : World) : Prop := (∃ v, e = .returned (.tuple #[v, .bool r.2]) ∧ OwnV 3 w.heap.size w'.heap.size w' v (intVals r.1)) ∧ Below w.heap.size w w'
theorem own_empty {w w0 : World} (hb : w0.heap.size ≤ w.heap.size) : OwnV 3 w0.heap.size (w.alloc (.cells #[] 3)).heap.size (w.alloc (.cells #[] 3)) (.slice (some ⟨w.heap.size, 0, none⟩) 0 0) (intVals []) :=
  OwnV.of_owns (owns_none hb)
theorem bool_f {b : Bool} (h : ¬ b = true) : b = false := by simpa using h

end Go.Proofs.YtoekgcafhcamjaaGreatDoor
/- The model's vectors: the exported functions, out of the loops' contracts. -/
namespace Go.Proofs.YtoekgcafhcamjaaGreatDoor
open Go.RowKit Go.Lib

end Go.Proofs.YtoekgcafhcamjaaGreatDoor
