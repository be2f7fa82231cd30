/- A copy of a slice of integers. -/
import Derived.Test.YtjijgagdaolkcaaCom
import Derived.Test.YtjijgagdaolkcaaMab
import Derived.Test.YtjijgagdaolkcaaProg
import Derived.WalkLawsBesides
import Derived.WalkSpells
import Derived.BigQuiet
import Derived.Deep.QuietTactic
namespace Go.Proofs.Ytjijgagdaolkcaa
open Go.RowKit Go.Lib

theorem info_int : (Try.prog.info? 3).map (fun i => (i.zero, i.size, i.bytes)) = some (some (.int .i64 0), 1, 8) := by kernel_rfl

set_option maxRecDepth 100000 in
set_option maxHeartbeats 400000 in
theorem to_int (zs : List Int) (v : Value) (w : World) (hv : Sl w v (intVals zs)) (hl : zs.length ≤ 1048576) :
    Calls Try.prog 49 #[v] w fun e w' => (∃ v', e = .returned v' ∧ w'.ownsRow w.heap.size 3 1 v' zs.length (intVals zs)) ∧ Below w.heap.size w w' := by
  obtain ⟨a, c, rfl, hm, hopen⟩ := hv.shape
  rw [intVals_len] at hm hopen ⊢
  unfold maxLen at hm
  obtain ⟨i0, hi, hz0, hz1, hz2⟩ := info_parts info_int
  have HO := Lib.hid hopen
  clear hopen hv
  go_enter Try.func49, Try.ntmps49
  go_wp2_with (at_make; refine wpList_make_full _ rfl _ _ 24 rfl w.heap.size 3 i0 _ 1 Try.underlying24 hi hz0 hz1 .i64 .i64 _ _ zs.length rfl rfl rfl rfl (by rw [hz2]; omega) (by unfold maxLen; omega) (Nat.le_refl _) ?_; intro w1 hown hgrow)
  have hbel : Below w.heap.size w w1 := (Below.refl _ _).grown hgrow (Nat.le_refl _) (fun _ h => by cases h)
  rw [show (Value.int .i64 0).cells = #[Value.int .i64 0] from rfl, toList_madeCells_one, Nat.mul_one, show zs.length = (intVals zs).length from (intVals_len zs).symm, ← filled_zero (intVals zs)] at hown
  rw [intVals_len] at hown
  have HW := Lib.hid hown
  have HB := Lib.hid hbel
  have hsz1 : w.heap.size < w1.heap.size := (hown.lt _ rfl).2
  clear hown hgrow hbel hi hz0 hz1 hz2
  go_loopw [4] (fun i wr => ∃ k : Nat, k ≤ zs.length ∧ i = .int .i64 k ∧ wr.ownsRow w.heap.size 3 1 (.slice (some ⟨w.heap.size, 0, none⟩) zs.length zs.length) zs.length (filled (intVals zs) (.int .i64 0) k) ∧ Below w.heap.size w wr) (fun i _ => zs.length - (RowKit.intOf i).toNat)
  case atStart => exact ⟨0, Nat.zero_le _, rfl, HW.out, HB.out⟩
  case round =>
    obtain ⟨k, hk, rfl, how, hbr⟩ := hrel
    by_cases hlt : k < zs.length
    · obtain ⟨b, off, rfl, hc, hlt2, hx⟩ := HO.out (by omega)
      have hcell := hx k _ (intVals_get zs k hlt)
      rw [← hbr.cell (p := ⟨b, off + k, none⟩) hlt2] at hcell
      have hmine := how.cellAt k (by omega)
      rw [filled_get _ _ _ (by rw [intVals_len]; exact hlt)] at hmine
      have hfree := how.frozenAt k
      have HS := Lib.hid (how.stored k (.int .i64 zs[k]))
      have HR := Lib.hid hbr
      clear hx how hbr
      go_wp2
      have h2 := HS.out.1
      rw [filled_step _ _ _ _ (intVals_get zs k hlt)] at h2
      exact ⟨⟨k + 1, by omega, by go_num, h2, HR.out.setCell (Nat.le_refl _) _⟩, by simp [RowKit.intOf]; omega⟩
    · obtain rfl : k = zs.length := by omega
      have HA := Lib.hid how
      have HR := Lib.hid hbr
      clear how hbr
      go_wp2
      go_ret
      have h := HA.out
      have hfa := filled_all (intVals zs) (.int .i64 0)
      rw [intVals_len] at hfa
      rw [hfa] at h
      exact ⟨⟨_, rfl, h⟩, HR.out⟩
end Go.Proofs.Ytjijgagdaolkcaa
/- Equality of two slices of integers. -/
namespace Go.Proofs.Ytjijgagdaolkcaa
open Go.RowKit Go.Lib

set_option maxRecDepth 100000 in
set_option maxHeartbeats 400000 in
/-- eqIntS at two slices that read alike. -/
theorem eq_int (zs : List Int) (v u : Value) (w : World) (hv : Sl w v (intVals zs)) (hu : Sl w u (intVals zs)) :
    Calls Try.prog 50 #[v, u] w fun e w' => e = .returned (.bool true) ∧ Below w.heap.size w w' := by
  obtain ⟨a, c, rfl, hm, hopen⟩ := hv.shape
  obtain ⟨a', c', rfl, hm', hopen'⟩ := hu.shape
  rw [intVals_len] at hm hopen hm' hopen'
  rw [intVals_len]
  unfold maxLen at hm hm'
  have HO := Lib.hid hopen
  have HO' := Lib.hid hopen'
  clear hopen hopen' hv hu
  go_enter Try.func50, Try.ntmps50
  go_wp2
  go_loopw [5] (fun i wr => ∃ k : Nat, k ≤ zs.length ∧ i = .int .i64 k ∧ Below w.heap.size w wr) (fun i _ => zs.length - (RowKit.intOf i).toNat)
  case atStart => exact ⟨0, Nat.zero_le _, rfl, Below.refl _ _⟩
  case round =>
    obtain ⟨k, hk, rfl, hbr⟩ := hrel
    have HB := Lib.hid hbr
    by_cases hlt : k < zs.length
    · obtain ⟨b, off, rfl, hc, hlt2, hx⟩ := HO.out (by omega)
      obtain ⟨b', off', rfl, hc', hlt2', hx'⟩ := HO'.out (by omega)
      have hcell := hx k _ (intVals_get zs k hlt)
      have hcell' := hx' k _ (intVals_get zs k hlt)
      rw [← hbr.cell (p := ⟨b, off + k, none⟩) hlt2] at hcell
      rw [← hbr.cell (p := ⟨b', off' + k, none⟩) hlt2'] at hcell'
      clear hx hx' hbr
      have i1 : (0 : Int) ≤ (k : Int) := by omega
      have i2 : (k : Int) < (zs.length : Int) := by omega
      go_wp2
      go_quiet (fail)
      go_wp2
      exact ⟨⟨k + 1, by omega, by go_num, below_drewN' HB.out _⟩, by simp [RowKit.intOf]; omega⟩
    · obtain rfl : k = zs.length := by omega
      go_wp2
      go_ret
      exact ⟨rfl, HB.out⟩

set_option maxRecDepth 100000 in
set_option maxHeartbeats 400000 in
/-- sameInts at two slices that read alike. -/
theorem same_int (zs : List Int) (v u : Value) (w : World) (hv : Sl w v (intVals zs)) (hu : Sl w u (intVals zs)) :
    Calls Try.prog 20 #[v, u] w fun e w' => e = .returned (.bool true) ∧ Below w.heap.size w w' := by
  obtain ⟨a, c, rfl, hm, hopen⟩ := hv.shape
  obtain ⟨a', c', rfl, hm', hopen'⟩ := hu.shape
  rw [intVals_len] at hm hopen hm' hopen'
  rw [intVals_len]
  unfold maxLen at hm hm'
  have HO := Lib.hid hopen
  have HO' := Lib.hid hopen'
  clear hopen hopen' hv hu
  go_enter Try.func20, Try.ntmps20
  go_wp2
  go_loopw [5] (fun i wr => ∃ k : Nat, k ≤ zs.length ∧ i = .int .i64 k ∧ Below w.heap.size w wr) (fun i _ => zs.length - (RowKit.intOf i).toNat)
  case atStart => exact ⟨0, Nat.zero_le _, rfl, Below.refl _ _⟩
  case round =>
    obtain ⟨k, hk, rfl, hbr⟩ := hrel
    have HB := Lib.hid hbr
    by_cases hlt : k < zs.length
    · obtain ⟨b, off, rfl, hc, hlt2, hx⟩ := HO.out (by omega)
      obtain ⟨b', off', rfl, hc', hlt2', hx'⟩ := HO'.out (by omega)
      have hcell := hx k _ (intVals_get zs k hlt)
      have hcell' := hx' k _ (intVals_get zs k hlt)
      rw [← hbr.cell (p := ⟨b, off + k, none⟩) hlt2] at hcell
      rw [← hbr.cell (p := ⟨b', off' + k, none⟩) hlt2'] at hcell'
      clear hx hx' hbr
      have i1 : (0 : Int) ≤ (k : Int) := by omega
      have i2 : (k : Int) < (zs.length : Int) := by omega
      go_wp2
      go_quiet (fail)
      go_wp2
      exact ⟨⟨k + 1, by omega, by go_num, below_drewN' HB.out _⟩, by simp [RowKit.intOf]; omega⟩
    · obtain rfl : k = zs.length := by omega
      go_wp2
      go_ret
      exact ⟨rfl, HB.out⟩
end Go.Proofs.Ytjijgagdaolkcaa
/- The laws' marks on slices of integers: markIntS, heldIntS. -/
namespace Go.Proofs.Ytjijgagdaolkcaa
open Go.RowKit Go.Lib

/-- Marks from k on. -/
def imarks (k n : Nat) : List Int := (List.range n).map fun i => ((k + i : Nat) : Int)
theorem imarks_len (k n : Nat) : (imarks k n).length = n := by simp [imarks]
theorem imarks_get (k n i : Nat) (h : i < n) : (imarks k n)[i]'(by rw [imarks_len]; exact h) = ((k + i : Nat) : Int) := by simp [imarks]
theorem imarks_step (k j : Nat) (zs : List Int) (h : j < zs.length) :
    (intVals (imarks k j ++ zs.drop j)).set j (.int .i64 (k + j : Nat)) = intVals (imarks k (j + 1) ++ zs.drop (j + 1)) := by
  have hl : (intVals (imarks k j)).length = j := by rw [intVals_len, imarks_len]
  have e : intVals (imarks k j ++ zs.drop j) = intVals (imarks k j) ++ intVals (zs.drop j) := by simp [intVals]
  rw [e, List.set_append_right _ _ (by omega), hl, Nat.sub_self, List.drop_eq_getElem_cons h]
  have e2 : ∀ u, (intVals (zs[j] :: zs.drop (j + 1))).set 0 u = u :: intVals (zs.drop (j + 1)) := fun _ => rfl
  rw [e2]
  simp only [intVals, imarks, List.range_succ, List.map_append, List.map_cons, List.map_nil, List.append_assoc, List.cons_append, List.nil_append]

set_option maxRecDepth 100000 in
set_option maxHeartbeats 400000 in
theorem mark_int_some (zs : List Int) (base g cap k : Nat) (w : World) (hk : 1 ≤ k) (hb : k + zs.length ≤ 4611686018427387904) (how : w.ownsRow base 3 1 (.slice (some ⟨g, 0, none⟩) zs.length cap) zs.length (intVals zs)) :
    Calls Try.prog 58 #[.slice (some ⟨g, 0, none⟩) zs.length cap, .int .i64 k] w fun e w' => e = .returned (.int .i64 (k + zs.length : Nat)) ∧ w'.ownsRow base 3 1 (.slice (some ⟨g, 0, none⟩) zs.length cap) zs.length (intVals (imarks k zs.length)) ∧ Kept g (g + 1) w w' := by
  have hgb := (how.lt g rfl).1
  have hgl := (how.lt g rfl).2
  have HW := Lib.hid how
  clear how
  go_enter Try.func58, Try.ntmps58
  go_wp2
  go_loopw [1, 5] (fun q i wr => ∃ j : Nat, j ≤ zs.length ∧ i = .int .i64 j ∧ q = .int .i64 (k + j : Nat) ∧ wr.ownsRow base 3 1 (.slice (some ⟨g, 0, none⟩) zs.length cap) zs.length (intVals (imarks k j ++ zs.drop j)) ∧ Kept g (g + 1) w wr) (fun _ i _ => zs.length - (RowKit.intOf i).toNat)
  case atStart => exact ⟨0, Nat.zero_le _, rfl, by simp, by simpa [imarks] using HW.out, Kept.refl _ _ _⟩
  case round =>
    obtain ⟨j, hj, rfl, rfl, hor, hbr⟩ := hrel
    have HO := Lib.hid hor
    have HB := Lib.hid hbr
    clear hor hbr
    by_cases hlt : j < zs.length
    · have hmine := HO.out.cellAt j (by omega)
      rw [intVals_get _ _ (by rw [List.length_append, imarks_len, List.length_drop]; omega)] at hmine
      have hfree := HO.out.frozenAt j
      have HS := Lib.hid (HO.out.stored j (.int .i64 (k + j : Nat)))
      go_wp2
      have h2 := HS.out.1
      rw [imarks_step k j zs hlt] at h2
      exact ⟨⟨j + 1, by omega, by go_num, by go_num, h2, HB.out.setCell (Nat.le_refl _) (Nat.lt_succ_self _) _⟩, by simp [RowKit.intOf]; omega⟩
    · obtain rfl : j = zs.length := by omega
      go_wp2
      go_ret
      have h2 := HO.out
      rw [List.drop_length, List.append_nil] at h2
      exact ⟨rfl, h2, HB.out⟩
set_option maxRecDepth 100000 in
set_option maxHeartbeats 400000 in
theorem mark_int_none (k : Nat) (w : World) (_hk : 1 ≤ k) :
    Calls Try.prog 58 #[.slice none 0 0, .int .i64 k] w fun e w' => e = .returned (.int .i64 (k : Nat)) ∧ w = w' := by
  go_enter Try.func58, Try.ntmps58
  go_wp2
  refine wp_loop_rounds 1 ?_
  rw [rounds_succ]
  go_wp2
  go_ret
  exact ⟨rfl, rfl⟩
/-- markIntS on a row of its own. -/
theorem mark_int (zs : List Int) (lo hi k n : Nat) (v : Value) (w : World) (hk : 1 ≤ k) (hn : k + zs.length = n) (hb : n ≤ 4611686018427387904) (how : OwnV 3 lo hi w v (intVals zs)) :
    Calls Try.prog 58 #[v, .int .i64 k] w fun e w' => e = .returned (.int .i64 n) ∧ OwnV 3 lo hi w' v (intVals (imarks k zs.length)) ∧ Kept lo hi w w' := by
  subst hn
  rcases how with ⟨h0, rfl⟩ | ⟨g, cap, cur, rfl, h1, h2, hr⟩
  · have h0 : zs = [] := by simpa [intVals] using h0
    subst h0
    exact (mark_int_none k w hk).mono fun e w' ⟨he, hw⟩ => by subst hw; exact ⟨he, .inl ⟨rfl, rfl⟩, Kept.refl _ _ _⟩
  · have ho : w.ownsRow g 3 1 (.slice (some ⟨g, 0, none⟩) (intVals zs).length cap) (intVals zs).length (intVals zs) := (show OwnV 3 g (g + 1) w _ (intVals zs) from .inr ⟨g, cap, cur, rfl, Nat.le_refl _, Nat.lt_succ_self _, hr⟩).owns
    rw [intVals_len] at ho ⊢
    refine (mark_int_some zs g g cap k w hk hb ho).mono fun e w' ⟨he, hm, hkk⟩ => ⟨he, ?_, hkk.mono h1 h2⟩
    rcases OwnV.of_owns hm with ⟨_, hh⟩ | ⟨g', cap', cur', hv, h3, h4, h5⟩
    · simp at hh
    · have hg : g = g' := by simpa using (congrArg (fun v => match v with | Value.slice (some a) _ _ => a.block | _ => 0) hv)
      subst hg
      exact .inr ⟨g, cap', cur', hv, h1, h2, h5⟩

set_option maxRecDepth 100000 in
set_option maxHeartbeats 800000 in
theorem held_int (v : Value) (n k m : Nat) (w : World) (hk : 1 ≤ k) (hn : k + n = m) (hb : m ≤ 4611686018427387904) (hv : Sl w v (intVals (imarks k n))) :
    Calls Try.prog 104 #[v, .int .i64 k] w fun e w' => e = .returned (.int .i64 m) ∧ Below w.heap.size w w' := by
  subst hn
  obtain ⟨a, c, rfl, hm, hopen⟩ := hv.shape
  rw [intVals_len, imarks_len] at hm hopen ⊢
  have HO := Lib.hid hopen
  clear hopen hv hm
  go_enter Try.func104, Try.ntmps104
  go_wp2
  go_loopw [1, 5] (fun q i wr => ∃ j : Nat, j ≤ n ∧ i = .int .i64 j ∧ q = .int .i64 (k + j : Nat) ∧ Below w.heap.size w wr) (fun _ i _ => n - (RowKit.intOf i).toNat)
  case atStart => exact ⟨0, Nat.zero_le _, rfl, by simp, Below.refl _ _⟩
  case round =>
    obtain ⟨j, hj, rfl, rfl, hbr⟩ := hrel
    by_cases hlt : j < n
    · obtain ⟨b, off, rfl, hc, hlt2, hx⟩ := HO.out (by omega)
      have hcell := hx j _ (intVals_get _ _ (by rw [imarks_len]; exact hlt))
      rw [imarks_get k n j hlt, ← hbr.cell (p := ⟨b, off + j, none⟩) hlt2] at hcell
      have i1 : (0 : Int) ≤ (j : Int) := by omega
      have i2 : (j : Int) < (n : Int) := by omega
      have HB := Lib.hid hbr
      clear hx hbr
      go_wp2
      exact ⟨⟨j + 1, by omega, by go_num, by go_num, HB.out⟩, by simp [RowKit.intOf]; omega⟩
    · obtain rfl : j = n := by omega
      go_wp2
      go_ret
      exact ⟨rfl, hbr⟩
end Go.Proofs.Ytjijgagdaolkcaa
