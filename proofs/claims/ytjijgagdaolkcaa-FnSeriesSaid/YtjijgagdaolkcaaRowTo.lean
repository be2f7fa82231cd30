/- A copy of a slice of slices of integers; its measure. -/
import Derived.Test.YtjijgagdaolkcaaCom
import Derived.Test.YtjijgagdaolkcaaMac
import Derived.Test.YtjijgagdaolkcaaMad
import Derived.Test.YtjijgagdaolkcaaProg
import Derived.WalkLawsBesides
import Derived.WalkSpells
import Derived.BigQuiet
import Derived.Deep.QuietTactic
import Derived.Deep.RegionWith
namespace Go.Proofs.Ytjijgagdaolkcaa
open Go.RowKit Go.Lib

theorem info_row : (Try.prog.info? 24).map (fun i => (i.zero, i.size, i.bytes)) = some (some (.slice none 0 0), 1, 24) := by kernel_rfl

/-- How far the copy has come. -/
def RowsTo (B n k : Nat) (zss : List (List Int)) (wr : World) : Prop :=
  ∃ vs : List Value, vs.length = n ∧ wr.ownsRow B 24 1 (.slice (some ⟨B, 0, none⟩) n n) n vs ∧
    (∀ (i : Nat) u zs, i < k → vs[i]? = some u → zss[i]? = some zs → OwnV 3 (B + 1) wr.heap.size wr u (intVals zs)) ∧
    (∀ (i j : Nat) u u' b, i < k → j < k → i ≠ j → vs[i]? = some u → vs[j]? = some u' → u.ownBlock = some b → u'.ownBlock ≠ some b)
theorem RowsTo.step {B n k : Nat} {zss : List (List Int)} {wr w1 : World} {u : Value} {zs : List Int} (h : RowsTo B n k zss wr) (hb : Below wr.heap.size wr w1) (hk : k < n) (hB : B < wr.heap.size)
    (hz : zss[k]? = some zs) (hu : OwnV 3 wr.heap.size w1.heap.size w1 u (intVals zs)) : RowsTo B n (k + 1) zss (w1.setCell ⟨B, k, none⟩ u) := by
  obtain ⟨vs, h1, h2, h3, h4⟩ := h
  have h2' := (owns_below h2 hb)
  have h5 := (h2'.stored k u).1
  have hkept : Kept B (B + 1) w1 (w1.setCell ⟨B, k, none⟩ u) := (Kept.refl B (B + 1) w1).setCell (p := ⟨B, k, none⟩) (Nat.le_refl _) (Nat.lt_succ_self _) u
  have hsz : (w1.setCell ⟨B, k, none⟩ u).heap.size = w1.heap.size := by simp [World.setCell]
  have get : ∀ i, (vs.set k u)[i]? = if i = k then some u else vs[i]? := by
    intro i
    rw [List.getElem?_set]
    by_cases hi : k = i
    · subst hi; simp [h1, hk]
    · rw [if_neg hi, if_neg (fun e => hi e.symm)]
  have place : ∀ (i : Nat) x b, i < k → vs[i]? = some x → x.ownBlock = some b → b < wr.heap.size := by
    intro i x b hi hx hb
    by_cases hzi : i < zss.length
    · exact ((h3 i x _ hi hx (List.getElem?_eq_getElem hzi)).place hb).2.1
    · have : k < zss.length := by
        by_cases hh : k < zss.length
        · exact hh
        · rw [List.getElem?_eq_none (by omega)] at hz; cases hz
      omega
  refine ⟨vs.set k u, by rw [List.length_set, h1], h5, ?_, ?_⟩
  · intro i x ys hi hx hy
    rw [get] at hx
    rw [hsz]
    split at hx
    · rename_i e
      subst e
      obtain rfl : u = x := by simpa using hx
      rw [hz] at hy
      obtain rfl : zs = ys := by simpa using hy
      exact (hu.mono (by omega) (Nat.le_refl _)).kept hkept (.inr (Nat.le_refl _))
    · have := h3 i x ys (by omega) hx hy
      exact ((this.below hb).mono (Nat.le_refl _) hb.size).kept hkept (.inr (Nat.le_refl _))
  · intro i j x y b hi hj hne hx hy hxb
    rw [get] at hx hy
    split at hx
    · split at hy
      · omega
      · rename_i e _
        obtain rfl : u = x := by simpa using hx
        have p1 := (hu.place hxb).1
        intro hyb
        have := place j y b (by omega) hy hyb
        omega
    · split at hy
      · obtain rfl : u = y := by simpa using hy
        intro hyb
        have p1 := (hu.place hyb).1
        have := place i x b (by omega) hx hxb
        omega
      · exact h4 i j x y b (by omega) (by omega) hne hx hy hxb

set_option maxRecDepth 100000 in
set_option maxHeartbeats 800000 in
theorem to_rows (zss : List (List Int)) (v : Value) (w : World) (hv : Rw w v zss) (hl : zss.length ≤ 1048576) (hr : ∀ (i : Nat) zs, zss[i]? = some zs → zs.length ≤ 1048576) :
    Calls Try.prog 101 #[v] w fun e w' => (∃ v', e = .returned v' ∧ OwR 24 3 w.heap.size w'.heap.size w' v' zss) ∧ Below w.heap.size w w' := by
  have HV := Lib.hid hv
  have HR := Lib.hid hr
  obtain ⟨a, c, rfl, hm, _⟩ := hv.shape
  unfold maxLen at hm
  obtain ⟨i0, hi, hz0, hz1, hz2⟩ := info_parts info_row
  clear hv hr
  go_enter Try.func101, Try.ntmps101
  go_wp2_with (at_make; refine wpList_make_full _ rfl _ _ 28 rfl w.heap.size 24 i0 _ 1 Try.underlying28 hi hz0 hz1 .i64 .i64 _ _ zss.length rfl rfl rfl rfl (by rw [hz2]; omega) (by unfold maxLen; omega) (Nat.le_refl _) ?_; intro w1 hown hgrow)
  have hbel : Below w.heap.size w w1 := (Below.refl _ _).grown hgrow (Nat.le_refl _) (fun _ h => by cases h)
  have hsz1 : w.heap.size < w1.heap.size := (hown.lt _ rfl).2
  rw [show (Value.slice none 0 0).cells = #[Value.slice none 0 0] from rfl, toList_madeCells_one, Nat.mul_one] at hown
  have HW := Lib.hid (show RowsTo w.heap.size zss.length 0 zss w1 from ⟨_, by simp, hown, fun i u zs hi => absurd hi (Nat.not_lt_zero _), fun i j u u' b hi => absurd hi (Nat.not_lt_zero _)⟩)
  have HB := Lib.hid hbel
  clear hown hgrow hbel hi hz0 hz1 hz2
  go_loopw [4] (fun i wr => ∃ k : Nat, k ≤ zss.length ∧ i = .int .i64 k ∧ RowsTo w.heap.size zss.length k zss wr ∧ w.heap.size < wr.heap.size ∧ Below w.heap.size w wr) (fun i _ => zss.length - (intOf i).toNat)
  case atStart => exact ⟨0, Nat.zero_le _, rfl, HW.out, hsz1, HB.out⟩
  case round =>
    obtain ⟨k, hk, rfl, hrt, hszr, hbr⟩ := hrel
    by_cases hlt : k < zss.length
    · obtain ⟨b, off, u, rfl, hb2, hcell, hsl⟩ := HV.out.row k hlt rfl
      rw [← hbr.cell (p := ⟨b, off + k, none⟩) hb2] at hcell
      have HS := Lib.hid (hsl.below hbr)
      have HL := Lib.hid (HR.out k _ (List.getElem?_eq_getElem hlt))
      have HT := Lib.hid hrt
      have HBr := Lib.hid hbr
      clear hrt hbr hsl
      go_wp2_with fail
      refine (to_int zss[k] u _ HS.out HL.out).mono ?_
      rintro e w1 ⟨⟨r, rfl, ho⟩, hb1⟩
      have hu := OwnV.of_owns ho
      have hstep := HT.out.step hb1 hlt hszr (List.getElem?_eq_getElem hlt) hu
      obtain ⟨vs, hvl, hov, _⟩ := HT.out
      have hov1 := owns_below hov hb1
      obtain ⟨old, hmine⟩ : ∃ old, w1.cell? ⟨w.heap.size, k, none⟩ = some old := ⟨vs[k], by rw [hov1.cellAt k (by omega)]; exact List.getElem?_eq_getElem (by omega)⟩
      have hfree := hov1.frozenAt k
      obtain ⟨ra, rc, rfl, _, _⟩ := hu.sl.shape
      rw [intVals_len] at hstep ⊢
      have HT1 := Lib.hid hstep
      have HB1 := Lib.hid (HBr.out.trans (hb1.mono HBr.out.size))
      have hsz2 : w.heap.size < w1.heap.size := Nat.lt_of_lt_of_le hszr hb1.size
      clear ho hb1 hu hstep hov hov1 hvl
      go_wp2
      exact ⟨⟨k + 1, by omega, by go_num, HT1.out, by simpa [World.setCell] using hsz2, HB1.out.setCell (Nat.le_refl _) _⟩, by simp [intOf]; omega⟩
    · obtain rfl : k = zss.length := by omega
      have HT := Lib.hid hrt
      have HBr := Lib.hid hbr
      clear hrt hbr
      go_wp2
      go_ret
      obtain ⟨vs, hvl, hov, h3, h4⟩ := HT.out
      have h2 := OwnV.of_owns hov
      refine ⟨⟨_, rfl, vs, hvl, h2, ?_, ?_, ?_⟩, HBr.out⟩
      · intro i u zs hu hz
        have hi := lt_of_get hu
        exact (h3 i u zs (by omega) hu hz).mono (Nat.le_succ _) (Nat.le_refl _)
      · intro i j u u' b hne hu hu' hb
        have hi := lt_of_get hu
        have hj := lt_of_get hu'
        exact h4 i j u u' b (by omega) (by omega) hne hu hu' hb
      · intro i u b hu hb hv
        have hi := lt_of_get hu
        have hp := ((h3 i u _ (by omega) hu (List.getElem?_eq_getElem (by omega))).place hb).1
        have : w.heap.size = b := by simpa [Value.ownBlock] using hv
        omega

/-- What szIntS answers. -/
def szI (left n : Int) : Int := if left < n then -1 else left - n
set_option maxRecDepth 100000 in
set_option maxHeartbeats 800000 in
theorem sz_int (zs : List Int) (v : Value) (left : Int) (w : World) (hv : Sl w v (intVals zs)) (h1 : -1 ≤ left) (h2 : left ≤ 1048576) :
    Calls Try.prog 99 #[v, .int .i64 left] w fun e w' => e = .returned (.int .i64 (szI left zs.length)) ∧ w = w' := by
  obtain ⟨a, c, rfl, hm, _⟩ := hv.shape
  rw [intVals_len] at hm ⊢
  unfold maxLen at hm
  clear hv
  by_cases h : left < zs.length
  · have e := Lib.hid (show szI left zs.length = -1 from if_pos h)
    have h3 : left - zs.length < 0 := by omega
    go_enter Try.func99, Try.ntmps99
    go_wp2
    go_ret
    exact ⟨ret_int e.out.symm, rfl⟩
  · have e := Lib.hid (show szI left zs.length = left - zs.length from if_neg h)
    have h3 : ¬ left - zs.length < 0 := by omega
    go_enter Try.func99, Try.ntmps99
    go_wp2
    go_ret
    exact ⟨ret_int e.out.symm, rfl⟩

theorem szR_small {zss : List (List Int)} {left : Int} (h : left < zss.length + tot zss) : szR zss left = -1 := if_pos h
theorem szR_fits {zss : List (List Int)} {left : Int} (h : ¬ left < zss.length + tot zss) : szR zss left = left - zss.length - tot zss := if_neg h
set_option maxRecDepth 100000 in
set_option maxHeartbeats 800000 in
theorem sz_rows (zss : List (List Int)) (v : Value) (left : Int) (w : World) (hv : Rw w v zss) (h1 : 0 ≤ left) (h2 : left ≤ 1048576) :
    Calls Try.prog 100 #[v, .int .i64 left] w fun e w' => e = .returned (.int .i64 (szR zss left)) ∧ Below w.heap.size w w' := by
  have HV := Lib.hid hv
  obtain ⟨a, c, rfl, hm, _⟩ := hv.shape
  unfold maxLen at hm
  clear hv
  by_cases h : left < zss.length
  · have e := Lib.hid (szR_small (zss := zss) (left := left) (by omega))
    have h3 : left - zss.length < 0 := by omega
    go_enter Try.func100, Try.ntmps100
    go_wp2
    go_ret
    exact ⟨ret_int e.out.symm, Below.refl _ _⟩
  · have h3 : ¬ left - zss.length < 0 := by omega
    go_enter Try.func100, Try.ntmps100
    go_wp2
    go_loopw [1, 5] (fun q i wr => ∃ (k : Nat) (l : Int), k ≤ zss.length ∧ i = .int .i64 k ∧ q = .int .i64 l ∧ l = left - zss.length - tot (zss.take k) ∧ 0 ≤ l ∧ Below w.heap.size w wr) (fun _ i _ => zss.length - (RowKit.intOf i).toNat)
    case atStart => exact ⟨0, _, Nat.zero_le _, rfl, rfl, by simp [tot], by omega, Below.refl _ _⟩
    case round =>
      obtain ⟨k, l, hk, rfl, rfl, hl, hl0, hbr⟩ := hrel
      have HL := Lib.hid hl
      have hl2 : l ≤ 1048576 := by omega
      clear hl
      have HB := Lib.hid hbr
      by_cases hlt : k < zss.length
      · obtain ⟨b, off, u, rfl, hb2, hcell, hsl⟩ := HV.out.row k hlt rfl
        rw [← hbr.cell (p := ⟨b, off + k, none⟩) hb2] at hcell
        have HS := Lib.hid (hsl.below hbr)
        have TT := Lib.hid (tot_take hlt)
        clear hsl hbr
        by_cases hfit : l < zss[k].length
        · have E := Lib.hid (show szI l zss[k].length = -1 from if_pos hfit)
          have ER := Lib.hid (szR_small (zss := zss) (left := left) (by have h5 := tot_take_le zss (k + 1); rw [TT.out] at h5; have := HL.out; omega))
          go_wp2_with fail
          refine (sz_int zss[k] u l _ HS.out (by omega) hl2).mono ?_
          rintro e w1 ⟨rfl, rfl⟩
          rw [E.out]
          go_wp2_with fail
          go_ret
          exact ⟨ret_int ER.out.symm, HB.out⟩
        · have E := Lib.hid (show szI l zss[k].length = l - zss[k].length from if_neg hfit)
          have h5 : ¬ l - zss[k].length < 0 := by omega
          go_wp2_with fail
          refine (sz_int zss[k] u l _ HS.out (by omega) hl2).mono ?_
          rintro e w1 ⟨rfl, rfl⟩
          rw [E.out]
          go_wp2_with fail
          exact ⟨⟨k + 1, _, by omega, by go_num, rfl, by rw [TT.out, HL.out]; omega, by omega, HB.out⟩, by simp [RowKit.intOf]; omega⟩
      · obtain rfl : k = zss.length := by omega
        have ER := Lib.hid (show l = szR zss left by have h6 := HL.out; rw [List.take_length] at h6; rw [szR_fits (by omega), h6])
        clear hbr
        go_wp2
        go_ret
        exact ⟨ret_int ER.out, HB.out⟩
end Go.Proofs.Ytjijgagdaolkcaa
