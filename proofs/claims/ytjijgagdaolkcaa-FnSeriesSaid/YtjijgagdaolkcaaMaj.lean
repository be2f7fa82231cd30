/- The model's vectors: the exported functions. -/
import Derived.Test.YtjijgagdaolkcaaVecS
import Derived.Deep.RegionWith
namespace Go.Proofs.Ytjijgagdaolkcaa
open Go.RowKit Go.Lib

theorem Sl.get {w : World} {a : Option Addr} {n c : Nat} {v : List Int} (h : Sl w (.slice a n c) (intVals v)) (_k : Nat) (_hk : _k < v.length) : ∃ b off : Nat, a = some ⟨b, off, none⟩ ∧ b < w.heap.size ∧ w.cell? ⟨b, off + _k, none⟩ = some (.int .i64 v[_k]) := by
  obtain ⟨a', c', e, hm, ho⟩ := h.shape
  rw [intVals_len] at ho
  obtain ⟨b, off, e2, _, h2, h3⟩ := ho (by omega)
  simp only [Value.slice.injEq] at e
  exact ⟨b, off, by rw [e.1, e2], h2, h3 _ _ (intVals_get v _k _hk)⟩
theorem allG_bd {v : List Int} {n : Int} (hn : 0 ≤ n) (h : Bd v n) : ∀ k, k ≤ v.length → allG (v.take k) ≤ n := by
  intro k
  induction k with
  | zero => intro _; simpa [allG] using hn
  | succ k ih =>
    intro hk
    rw [allG_take (by omega)]
    have h1 := ih (by omega)
    have h0 := allG_nonneg (v.take k)
    have hb := h k (by omega)
    unfold gcdI
    by_cases hz : v[k] = 0
    · rw [hz, Int.gcd_zero_right]; omega
    · have : Int.gcd (allG (v.take k)) v[k] ≤ v[k].natAbs := Nat.gcd_le_right _ (by omega)
      omega

set_option maxRecDepth 100000 in
set_option maxHeartbeats 400000 in
theorem s_all (v : List Int) (n : Int) (hn0 : 0 ≤ n) (hn : n ≤ 4611686018427387904) (hv' : Bd v n) (a : Value) (w : World) (hv : Sl w a (intVals v)) :
    Calls Try.prog 98 #[a] w (Quiet w (.int .i64 (allG v))) := by
  obtain ⟨a, c, rfl, hm, hopen⟩ := hv.shape
  rw [intVals_len] at hm hopen ⊢
  unfold maxLen at hm
  have HO := Lib.hid hopen
  have HV := Lib.hid hv'
  clear hopen hv hv'
  go_enter Try.func98, Try.ntmps98
  go_wp2
  go_loopw [3, 4] (fun g i wr => ∃ k : Nat, k ≤ v.length ∧ i = .int .i64 k ∧ g = .int .i64 (allG (v.take k)) ∧ Below w.heap.size w wr) (fun _ i _ => v.length - (RowKit.intOf i).toNat)
  case atStart => exact ⟨0, Nat.zero_le _, rfl, rfl, Below.refl _ _⟩
  case round =>
    obtain ⟨k, hk, rfl, rfl, hbr⟩ := hrel
    have HB := Lib.hid hbr
    by_cases hlt : k < v.length
    · obtain ⟨b, off, rfl, hc, hlt2, hx⟩ := HO.out (by omega)
      have hcell := hx k _ (intVals_get v k hlt)
      rw [← hbr.cell (p := ⟨b, off + k, none⟩) hlt2] at hcell
      clear hx hbr
      have g1 := (HV.out k hlt).1
      have g2 := (HV.out k hlt).2
      have g3 := allG_nonneg (v.take k)
      have g4 := allG_bd hn0 HV.out k hk
      have GT := Lib.hid (allG_take hlt)
      go_wp2_with fail
      refine (s_gcd _ _ (by omega) (by omega) (by omega) (by omega) _).mono ?_
      rintro e w1 ⟨rfl, hb1⟩
      have HB1 := Lib.hid (HB.out.trans (hb1.mono HB.out.size))
      clear hb1
      go_wp2_with fail
      exact ⟨⟨k + 1, by omega, by go_num, by rw [GT.out], HB1.out⟩, by simp [RowKit.intOf]; omega⟩
    · obtain rfl : k = v.length := by omega
      clear hbr
      go_wp2
      go_ret
      exact ⟨ret_int (by rw [List.take_length]), HB.out⟩

set_option maxRecDepth 100000 in
set_option maxHeartbeats 400000 in
theorem s_prime (v : List Int) (hm : v.length ≤ 1048576) (n : Int) (hn0 : 0 ≤ n) (hn : n ≤ 4611686018427387904) (hv' : Bd v n) (a : Value) (w : World) (hv : Sl w a (intVals v)) :
    Calls Try.prog 116 #[a] w (Made w (primL v)) := by
  have HS := Lib.hid hv
  obtain ⟨a, c, rfl, _, hopen⟩ := hv.shape
  rw [intVals_len] at hopen HS ⊢
  have HO := Lib.hid hopen
  have HV := Lib.hid hv'
  clear hopen hv hv'
  have G0 := Lib.hid (allG_nonneg v)
  generalize hG : allG v = G at G0
  have HG := Lib.hid hG
  clear hG
  go_enter Try.func116, Try.ntmps116
  go_wp2_with fail
  refine (s_all v n hn0 hn HV.out _ _ HS.out).mono ?_
  rintro e w0 ⟨rfl, hb0⟩
  rw [HG.out]
  have HB0 := Lib.hid hb0
  clear hb0
  go_wp2_with fail
  go_loopw [4, 5] (fun o i wr => ∃ k : Nat, k ≤ v.length ∧ i = .int .i64 k ∧ wr.ownsRow w.heap.size 3 1 o k (intVals ((v.take k).map (fun x => x.tdiv (max G 1)))) ∧ Below w.heap.size w wr) (fun _ i _ => v.length - (RowKit.intOf i).toNat)
  case atStart => exact ⟨0, Nat.zero_le _, rfl, owns_none HB0.out.size, HB0.out.alloc HB0.out.size _⟩
  case round =>
    obtain ⟨k, hk, rfl, how, hbr⟩ := hrel
    have HW := Lib.hid how
    have HB := Lib.hid hbr
    by_cases hlt : k < v.length
    · obtain ⟨b1, o1, rfl, hc1, hlt1, hx1⟩ := HO.out (by omega)
      have hcell1 := hx1 k _ (intVals_get v k hlt)
      rw [← hbr.cell (p := ⟨b1, o1 + k, none⟩) hlt1] at hcell1
      clear hx1 hbr how
      have i1 : (0 : Int) ≤ (k : Int) := by omega
      have i2 : (k : Int) < (v.length : Int) := by omega
      have g1 := (HV.out k hlt).1
      have g2 := (HV.out k hlt).2
      have hp : 0 < max G 1 := by omega
      have hpz : (max G 1 == 0) = false := by rw [beq_eq_false_iff_ne]; omega
      have hp0 : ¬ max G 1 = 0 := by omega
      have hp1 : max G 1 ≠ -1 := by omega
      have hp2 : (max G 1 == -1) = false := by rw [beq_eq_false_iff_ne]; omega
      have hq1 : IntKind.i64.wrap (v[k].tdiv (max G 1)) = v[k].tdiv (max G 1) := IntWalk.i64_in _ (by have h1 := Int.natAbs_tdiv_le_natAbs v[k] (max G 1); generalize v[k].tdiv (max G 1) = t at h1; omega)
      have ZT := Lib.hid (map_take (f := fun x => x.tdiv (max G 1)) hlt)
      go_wp2
      go_region_held3 (fun w' => w'.cell? ⟨b1, o1 + k, none⟩ = some (.int .i64 v[k]))
        (first | go_keep | (go_split_ands; exact (hbel.cell hlt1).trans (by assumption)))
        (first | (go_at_call 125; refine (s_max _ _ _).mono ?_; rintro e w' ⟨rfl, rfl⟩) | (refine step_app_int (by rfl) _ _ (by rfl) w.heap.size _ k ((v.take k).map (fun x => x.tdiv (max G 1))) _ (by rfl) ((HW.out.alloc _).drew) wr.heap.size (by rfl) (heap_alloc_new wr _) (by omega) (by have := HB.out.size; simp; omega) ?_; intro v' w1 hown1 hbel))
      rename_i hH
      have HO1 := Lib.hid hown1
      have HB1 := Lib.hid ((((HB.out.alloc HB.out.size _).drew).trans hbel))
      clear hown1 hbel hH
      go_wp2
      refine ⟨⟨k + 1, by omega, by go_num, ?_, HB1.out⟩, by simp [RowKit.intOf]; omega⟩
      rw [ZT.out]
      exact HO1.out
    · obtain rfl : k = v.length := by omega
      clear hbr how
      go_wp2
      go_ret
      refine ⟨⟨_, rfl, ?_⟩, HB.out⟩
      have h := OwnV.of_owns HW.out
      rw [List.take_length, ← HG.out] at h
      exact h

/-- What a function that answers a list and whether it is there leaves. -/
def Got (w : World) (r : List Int × Bool) (e : Ending) (w' : World) : Prop := (∃ v, e = .returned (.tuple #[v, .bool r.2]) ∧ OwnV 3 w.heap.size w'.heap.size w' v (intVals r.1)) ∧ Below w.heap.size w w'
theorem own_empty {w w0 : World} (hb : w0.heap.size ≤ w.heap.size) : OwnV 3 w0.heap.size (w.alloc (.cells #[] 3)).heap.size (w.alloc (.cells #[] 3)) (.slice (some ⟨w.heap.size, 0, none⟩) 0 0) (intVals []) :=
  OwnV.of_owns (owns_none hb)
theorem bool_f {b : Bool} (h : ¬ b = true) : b = false := by simpa using h

end Go.Proofs.Ytjijgagdaolkcaa
/- The model's vectors: the exported functions, out of the loops' contracts. -/
namespace Go.Proofs.Ytjijgagdaolkcaa
open Go.RowKit Go.Lib

end Go.Proofs.Ytjijgagdaolkcaa
