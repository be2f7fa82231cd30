/- The laws' marks on slices of integers: markIntS, heldIntS. -/
import Derived.Test.YtoekgcafhcamjaaCom
import Derived.Test.YtoekgcafhcamjaaFrm
import Derived.Test.YtoekgcafhcamjaaProg
import Derived.WalkLawsBesides
import Derived.WalkSpells
import Derived.BigQuiet
import Derived.Deep.QuietTactic
namespace Go.Proofs.Ytoekgcafhcamjaa
open Go.RowKit Go.Lib

/-- Marks from k on. -/
def imarks (k n : Nat) : List Int := (List.range n).map fun i => ((k + i : Nat) : Int)
theorem imarks_len (k n : Nat) : (imarks k n).length = n := by simp [imarks]
theorem imarks_get (k n i : Nat) (h : i < n) : (imarks k n)[i]'(by rw [imarks_len]; exact h) = ((k + i : Nat) : Int) := by simp [imarks]
theorem imarks_step (k j : Nat) (zs : List Int) (h : j < zs.length) :
    (intVals (imarks k j ++ zs.drop j)).set j (.int .i64 (k + j : Nat)) = intVals (imarks k (j + 1) ++ zs.drop (j + 1)) := by
  have hl : (intVals (imarks k j)).length = j := by rw [intVals_len, imarks_len]
  have e : intVals (imarks k j ++ zs.drop j) = intVals (imarks k j) ++ intVals (zs.drop j) := by simp [intVals]
  rw [e, List.set_append_right _ _ (by omega), hl, Nat.sub_self, List.drop_eq_getElem_cons h]
  have e2 : ∀ u, (intVals (zs[j] :: zs.drop (j + 1))).set 0 u = u :: intVals (zs.drop (j + 1)) := fun _ => rfl
  rw [e2]
  simp only [intVals, imarks, List.range_succ, List.map_append, List.map_cons, List.map_nil, List.append_assoc, List.cons_append, List.nil_append]

set_option maxRecDepth 100000 in
set_option maxHeartbeats 400000 in
theorem mark_int_some (zs : List Int) (base g cap k : Nat) (w : World) (hk : 1 ≤ k) (hb : k + zs.length ≤ 4611686018427387904) (how : w.ownsRow base 3 1 (.slice (some ⟨g, 0, none⟩) zs.length cap) zs.length (intVals zs)) :
    Calls Try.prog 91 #[.slice (some ⟨g, 0, none⟩) zs.length cap, .int .i64 k] w fun e w' => e = .returned (.int .i64 (k + zs.length : Nat)) ∧ w'.ownsRow base 3 1 (.slice (some ⟨g, 0, none⟩) zs.length cap) zs.length (intVals (imarks k zs.length)) ∧ Kept g (g + 1) w w' := by
  have hgb := (how.lt g rfl).1
  have hgl := (how.lt g rfl).2
  have HW := Lib.hid how
  clear how
  go_enter Try.func91, Try.ntmps91
  go_wp2
  go_loopw [1, 5] (fun q i wr => ∃ j : Nat, j ≤ zs.length ∧ i = .int .i64 j ∧ q = .int .i64 (k + j : Nat) ∧ wr.ownsRow base 3 1 (.slice (some ⟨g, 0, none⟩) zs.length cap) zs.length (intVals (imarks k j ++ zs.drop j)) ∧ Kept g (g + 1) w wr) (fun _ i _ => zs.length - (RowKit.intOf i).toNat)
  case atStart => exact ⟨0, Nat.zero_le _, rfl, by simp, by simpa [imarks] using HW.out, Kept.refl _ _ _⟩
  case round =>
    obtain ⟨j, hj, rfl, rfl, hor, hbr⟩ := hrel
    have HO := Lib.hid hor
    have HB := Lib.hid hbr
    clear hor hbr
    by_cases hlt : j < zs.length
    · have hmine := HO.out.cellAt j (by omega)
      rw [intVals_get _ _ (by rw [List.length_append, imarks_len, List.length_drop]; omega)] at hmine
      have hfree := HO.out.frozenAt j
      have HS := Lib.hid (HO.out.stored j (.int .i64 (k + j : Nat)))
      go_wp2
      have h2 := HS.out.1
      rw [imarks_step k j zs hlt] at h2
      exact ⟨⟨j + 1, by omega, by go_num, by go_num, h2, HB.out.setCell (Nat.le_refl _) (Nat.lt_succ_self _) _⟩, by simp [RowKit.intOf]; omega⟩
    · obtain rfl : j = zs.length := by omega
      go_wp2
      go_ret
      have h2 := HO.out
      rw [List.drop_length, List.append_nil] at h2
      exact ⟨rfl, h2, HB.out⟩
set_option maxRecDepth 100000 in
set_option maxHeartbeats 400000 in
theorem mark_int_none (k : Nat) (w : World) (_hk : 1 ≤ k) :
    Calls Try.prog 91 #[.slice none 0 0, .int .i64 k] w fun e w' => e = .returned (.int .i64 (k : Nat)) ∧ w = w' := by
  go_enter Try.func91, Try.ntmps91
  go_wp2
  refine wp_loop_rounds 1 ?_
  rw [rounds_succ]
  go_wp2
  go_ret
  exact ⟨rfl, rfl⟩
/-- markIntS on a row of its own. -/
theorem mark_int (zs : List Int) (lo hi k n : Nat) (v : Value) (w : World) (hk : 1 ≤ k) (hn : k + zs.length = n) (hb : n ≤ 4611686018427387904) (how : OwnV 3 lo hi w v (intVals zs)) :
    Calls Try.prog 91 #[v, .int .i64 k] w fun e w' => e = .returned (.int .i64 n) ∧ OwnV 3 lo hi w' v (intVals (imarks k zs.length)) ∧ Kept lo hi w w' := by
  subst hn
  rcases how with ⟨h0, rfl⟩ | ⟨g, cap, cur, rfl, h1, h2, hr⟩
  · have h0 : zs = [] := by simpa [intVals] using h0
    subst h0
    exact (mark_int_none k w hk).mono fun e w' ⟨he, hw⟩ => by subst hw; exact ⟨he, .inl ⟨rfl, rfl⟩, Kept.refl _ _ _⟩
  · have ho : w.ownsRow g 3 1 (.slice (some ⟨g, 0, none⟩) (intVals zs).length cap) (intVals zs).length (intVals zs) := (show OwnV 3 g (g + 1) w _ (intVals zs) from .inr ⟨g, cap, cur, rfl, Nat.le_refl _, Nat.lt_succ_self _, hr⟩).owns
    rw [intVals_len] at ho ⊢
    refine (mark_int_some zs g g cap k w hk hb ho).mono fun e w' ⟨he, hm, hkk⟩ => ⟨he, ?_, hkk.mono h1 h2⟩
    rcases OwnV.of_owns hm with ⟨_, hh⟩ | ⟨g', cap', cur', hv, h3, h4, h5⟩
    · simp at hh
    · have hg : g = g' := by simpa using (congrArg (fun v => match v with | Value.slice (some a) _ _ => a.block | _ => 0) hv)
      subst hg
      exact .inr ⟨g, cap', cur', hv, h1, h2, h5⟩

set_option maxRecDepth 100000 in
set_option maxHeartbeats 800000 in
theorem held_int (v : Value) (n k m : Nat) (w : World) (hk : 1 ≤ k) (hn : k + n = m) (hb : m ≤ 4611686018427387904) (hv : Sl w v (intVals (imarks k n))) :
    Calls Try.prog 92 #[v, .int .i64 k] w fun e w' => e = .returned (.int .i64 m) ∧ Below w.heap.size w w' := by
  subst hn
  obtain ⟨a, c, rfl, hm, hopen⟩ := hv.shape
  rw [intVals_len, imarks_len] at hm hopen ⊢
  have HO := Lib.hid hopen
  clear hopen hv hm
  go_enter Try.func92, Try.ntmps92
  go_wp2
  go_loopw [1, 5] (fun q i wr => ∃ j : Nat, j ≤ n ∧ i = .int .i64 j ∧ q = .int .i64 (k + j : Nat) ∧ Below w.heap.size w wr) (fun _ i _ => n - (RowKit.intOf i).toNat)
  case atStart => exact ⟨0, Nat.zero_le _, rfl, by simp, Below.refl _ _⟩
  case round =>
    obtain ⟨j, hj, rfl, rfl, hbr⟩ := hrel
    by_cases hlt : j < n
    · obtain ⟨b, off, rfl, hc, hlt2, hx⟩ := HO.out (by omega)
      have hcell := hx j _ (intVals_get _ _ (by rw [imarks_len]; exact hlt))
      rw [imarks_get k n j hlt, ← hbr.cell (p := ⟨b, off + j, none⟩) hlt2] at hcell
      have i1 : (0 : Int) ≤ (j : Int) := by omega
      have i2 : (j : Int) < (n : Int) := by omega
      have HB := Lib.hid hbr
      clear hx hbr
      go_wp2
      exact ⟨⟨j + 1, by omega, by go_num, by go_num, HB.out⟩, by simp [RowKit.intOf]; omega⟩
    · obtain rfl : j = n := by omega
      go_wp2
      go_ret
      exact ⟨rfl, hbr⟩
end Go.Proofs.Ytoekgcafhcamjaa
