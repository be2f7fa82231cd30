/- Copies of halves and regions. -/
import Derived.Test.YtmogncpkdkdodaaDoorHfA
import Derived.Test.YtmogncpkdkdodaaDoorBk
namespace Go.Proofs.YtmogncpkdkdodaaDoor
open Go.RowKit Go.Lib

set_option maxRecDepth 100000 in
set_option maxHeartbeats 400000 in
theorem to_half (h : Hf) (v : Value) (w : World) (hv : Hv w v h) (hl : h.1.length ≤ 1048576) :
    Calls Tryd.prog 108 #[v] w (MadeHv w h) := by
  obtain ⟨u, rfl, hs⟩ := hv
  have HS := Lib.hid hs
  have K := Lib.hid (Bk.three w #[u, .int .i64 h.2] #[.slice none 0 0, .int .i64 0] #[.slice none 0 0, .int .i64 0] 133 105 105)
  have B0 := Lib.hid (below3 w (.cells #[u, .int .i64 h.2] 133) (.cells #[.slice none 0 0, .int .i64 0] 105) (.cells #[.slice none 0 0, .int .i64 0] 105))
  clear hs
  go_enter Tryd.func108, Tryd.ntmps108
  go_wp2_with fail
  refine (to_int h.1 u _ (HS.out.below B0.out) hl).mono ?_
  rintro e w1 ⟨⟨r, rfl, ho⟩, hb⟩
  have ho := OwnV.of_owns ho
  have HO := Lib.hid ho
  obtain ⟨⟨_, a1⟩, _⟩ := (K.out.1.below hb).two
  obtain ⟨⟨b0, b1⟩, f0, f1⟩ := (K.out.2.1.below hb).two
  obtain ⟨⟨c0, c1⟩, g0, g1⟩ := (K.out.2.2.below hb).two
  have B1 := Lib.hid (B0.out.trans (hb.mono B0.out.size))
  obtain ⟨ra, rc, rfl, _⟩ := ho.shape1
  clear hb ho
  go_wp2
  refine bodyPost_ret (v := .agg #[.slice ra (intVals h.1).length rc, .int .i64 h.2]) ?_ rfl ⟨⟨_, rfl, _, rfl, ?_⟩, (((B1.out.setCell (by simp; omega) _).setCell (by simp; omega) _).setCell (by simp) _).setCell (by simp) _⟩
  · simp [results, Tryd.results108, go_sem, b0, b1]
  · exact ((HO.out.kept ((((Kept.refl w.heap.size (w.heap.size + 3) w1).setCell (by simp; omega) (by simp) _).setCell (by simp; omega) (by simp) _).setCell (by simp) (by simp) _ |>.setCell (by simp) (by simp) _) (.inr (by simp))).mono (by simp; omega) (by simp [World.setCell]))

def filledH (hs : List Hf) (k : Nat) : List Hf := hs.take k ++ zerosH (hs.length - k)
theorem filledH_len (hs : List Hf) (k : Nat) (h : k ≤ hs.length) : (filledH hs k).length = hs.length := by simp [filledH, zerosH]; omega
theorem filledH_all (hs : List Hf) : filledH hs hs.length = hs := by simp [filledH, zerosH]
theorem filledH_zero (hs : List Hf) : filledH hs 0 = zerosH hs.length := by simp [filledH]
theorem filledH_step (hs : List Hf) (k : Nat) (h : k < hs.length) : (filledH hs k).set k hs[k] = filledH hs (k + 1) := by
  unfold filledH zerosH
  rw [List.set_append_right _ _ (by rw [List.length_take]; omega), List.length_take, Nat.min_eq_left (by omega), Nat.sub_self]
  rw [show hs.length - k = (hs.length - (k + 1)) + 1 from by omega, List.replicate_succ, List.set_cons_zero, List.take_succ_eq_append_getElem h, List.append_assoc]
  rfl

set_option maxRecDepth 100000 in
set_option maxHeartbeats 800000 in
theorem to_halfs (hs : List Hf) (v : Value) (w : World) (hv : Hs w v hs) (hl : hs.length ≤ 1048576) (hr : ∀ (i : Nat) h, hs[i]? = some h → h.1.length ≤ 1048576) :
    Calls Tryd.prog 81 #[v] w fun e w' => (∃ v', e = .returned v' ∧ OwH 105 3 w.heap.size w'.heap.size w' v' hs) ∧ Below w.heap.size w w' := by
  have HV := Lib.hid hv
  have HR := Lib.hid hr
  obtain ⟨a, c, rfl, hm⟩ := hv.shape
  unfold maxLen at hm
  obtain ⟨i0, hi, hz0, hz1, hz2⟩ := info_parts info_half
  clear hv hr
  go_enter Tryd.func81, Tryd.ntmps81
  go_wp2_with (at_make; refine wpList_make_full _ rfl _ _ 49 rfl w.heap.size 105 i0 _ 2 Tryd.underlying49 hi hz0 hz1 .i64 .i64 _ _ hs.length rfl rfl rfl rfl (by rw [hz2]; omega) (by unfold maxLen; omega) (Nat.le_refl _) ?_; intro w1 hown hgrow)
  have hbel : Below w.heap.size w w1 := (Below.refl _ _).grown hgrow (Nat.le_refl _) (fun _ h => by cases h)
  have hsz1 : w.heap.size < w1.heap.size := (hown.lt _ rfl).2
  rw [show (Value.agg #[.slice none 0 0, .int .i64 0]).cells = #[Value.slice none 0 0, .int .i64 0] from rfl] at hown
  have HW := Lib.hid (show OwH 105 3 w.heap.size w1.heap.size w1 (.slice (some ⟨w.heap.size, 0, none⟩) hs.length hs.length) (filledH hs 0) by rw [filledH_zero]; exact OwH.zeros hown (Nat.le_refl _) hsz1)
  have HB := Lib.hid hbel
  clear hown hgrow hbel hi hz0 hz1 hz2
  go_loopw [4] (fun i wr => ∃ k : Nat, k ≤ hs.length ∧ i = .int .i64 k ∧ OwH 105 3 w.heap.size wr.heap.size wr (.slice (some ⟨w.heap.size, 0, none⟩) hs.length hs.length) (filledH hs k) ∧ w.heap.size < wr.heap.size ∧ Below w.heap.size w wr) (fun i _ => hs.length - (intOf i).toNat)
  case atStart => exact ⟨0, Nat.zero_le _, rfl, HW.out, hsz1, HB.out⟩
  case round =>
    obtain ⟨k, hk, rfl, hrt, hszr, hbr⟩ := hrel
    by_cases hlt : k < hs.length
    · obtain ⟨b, off, u, rfl, hcc, hb2, hcell, hcell1, hsl⟩ := HV.out.half k hlt rfl
      rw [← hbr.cell (p := ⟨b, off + k * 2, none⟩) hb2] at hcell
      rw [← hbr.cell (p := ⟨b, off + k * 2 + 1, none⟩) hb2] at hcell1
      have HS := Lib.hid (hsl.below hbr)
      have HL := Lib.hid (HR.out k _ (List.getElem?_eq_getElem hlt))
      have HT := Lib.hid hrt
      have HBr := Lib.hid hbr
      clear hrt hbr hsl
      go_wp2_with fail
      refine (to_half hs[k] _ _ ⟨u, rfl, HS.out⟩ HL.out).mono ?_
      rintro e w1 ⟨⟨r, rfl, x, rfl, ho⟩, hb1⟩
      have hfl := Lib.hid (filledH_len hs k hk)
      have hstep := HT.out.store hfl.out.symm hb1 (Nat.le_refl _) (Nat.le_of_lt hszr) (Nat.le_refl _) k (by rw [hfl.out]; exact hlt) hs[k].2 ho
      rw [show (hs[k].1, hs[k].2) = hs[k] from rfl, filledH_step hs k hlt] at hstep
      obtain ⟨b', u', e1, _, _, _, m0, m1, fr0, fr1, _, _⟩ := (HT.out.below hb1).at k (by rw [hfl.out]; exact hlt) rfl
      simp only [Option.some.injEq, Addr.mk.injEq, and_true] at e1
      subst e1
      obtain ⟨ra, rc, rfl, _⟩ := ho.shape1
      have HT1 := Lib.hid hstep
      have HB1 := Lib.hid (HBr.out.trans (hb1.mono HBr.out.size))
      have hsz2 : w.heap.size < w1.heap.size := Nat.lt_of_lt_of_le hszr hb1.size
      clear ho hb1 hstep
      go_wp2
      exact ⟨⟨k + 1, by omega, by go_num, by simpa [World.setCell] using HT1.out, by simpa [World.setCell] using hsz2, (HB1.out.setCell (Nat.le_refl _) _).setCell (Nat.le_refl _) _⟩, by simp [intOf]; omega⟩
    · obtain rfl : k = hs.length := by omega
      have HT := Lib.hid hrt
      have HBr := Lib.hid hbr
      clear hrt hbr
      go_wp2
      go_ret
      have h2 := HT.out
      rw [filledH_all] at h2
      exact ⟨⟨_, rfl, h2⟩, HBr.out⟩

set_option maxRecDepth 100000 in
set_option maxHeartbeats 400000 in
theorem to_region (r : Rgn) (v : Value) (w : World) (hv : Rg w v r) (hl : r.2.length ≤ 1048576) (hr : ∀ (i : Nat) h, r.2[i]? = some h → h.1.length ≤ 1048576) :
    Calls Tryd.prog 36 #[v] w (MadeG w r) := by
  obtain ⟨u, rfl, hs⟩ := hv
  have HS := Lib.hid hs
  have K := Lib.hid (Bk.three w #[.int .i64 r.1, u] #[.int .i64 0, .slice none 0 0] #[.int .i64 r.1, .slice none 0 0] 46 51 51)
  have B0 := Lib.hid (below3 w (.cells #[.int .i64 r.1, u] 46) (.cells #[.int .i64 0, .slice none 0 0] 51) (.cells #[.int .i64 r.1, .slice none 0 0] 51))
  have HR := Lib.hid hr
  clear hs hr
  go_enter Tryd.func36, Tryd.ntmps36
  go_wp2_with fail
  refine (to_halfs r.2 u _ (HS.out.below B0.out) hl HR.out).mono ?_
  rintro e w1 ⟨⟨x, rfl, ho⟩, hb⟩
  have HO := Lib.hid ho
  obtain ⟨⟨b0, b1⟩, f0, f1⟩ := (K.out.2.1.below hb).two
  obtain ⟨⟨c0, c1⟩, g0, g1⟩ := (K.out.2.2.below hb).two
  have B1 := Lib.hid (B0.out.trans (hb.mono B0.out.size))
  obtain ⟨ra, rc, rfl, _⟩ := ho.hs.shape
  clear hb ho
  go_wp2
  refine bodyPost_ret (v := .agg #[.int .i64 r.1, .slice ra r.2.length rc]) ?_ rfl ⟨⟨_, rfl, _, rfl, ?_⟩, ((B1.out.setCell (by simp; omega) _).setCell (by simp) _).setCell (by simp) _⟩
  · simp [results, Tryd.results36, go_sem, b0, b1]
  · exact ((HO.out.kept (((Kept.refl w.heap.size (w.heap.size + 3) w1).setCell (by simp; omega) (by simp) _).setCell (by simp) (by simp) _ |>.setCell (by simp) (by simp) _) (.inr (by simp))).mono (by simp; omega) (by simp [World.setCell]))
end Go.Proofs.YtmogncpkdkdodaaDoor
