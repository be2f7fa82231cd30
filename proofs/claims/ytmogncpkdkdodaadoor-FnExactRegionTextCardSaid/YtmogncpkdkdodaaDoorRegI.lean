/- The program's halves and regions: what is one. -/
import Derived.Test.YtmogncpkdkdodaaDoorVecK
import Derived.Test.YtmogncpkdkdodaaDoorRegS
import Derived.Shelf.Abstract
namespace Go.Proofs.YtmogncpkdkdodaaDoor
open Go.RowKit Go.Lib

theorem inR_hi {x lo hi : Int} (h : ¬ x < lo) : inR x lo hi = decide (x ≤ hi) := by
  unfold inR
  exact decide_eq_decide.2 (by omega)

set_option maxRecDepth 100000 in
theorem i_nonormal (x : Int) (w : World) : Calls Tryd.prog 117 #[.int .i64 x] w fun e w' => e = .returned (.bool (!inR x (-20) 20)) ∧ w = w' := by
  by_cases h1 : x < -20
  · have h := Lib.hid (inR_f (x := x) (lo := -20) (hi := 20) (fun h => by omega))
    go_enter Tryd.func117, Tryd.ntmps117
    go_wp2
    go_ret
    exact ⟨ret_bool (by rw [h.out]; rfl), rfl⟩
  · by_cases h2 : 20 < x
    · have h := Lib.hid (inR_f (x := x) (lo := -20) (hi := 20) (fun h => by omega))
      go_enter Tryd.func117, Tryd.ntmps117
      go_wp2
      go_ret
      exact ⟨ret_bool (by rw [h.out]; rfl), rfl⟩
    · have h := Lib.hid (inR_mk (x := x) (lo := -20) (hi := 20) (by omega) (by omega))
      go_enter Tryd.func117, Tryd.ntmps117
      go_wp2
      go_ret
      exact ⟨ret_bool (by rw [h.out]; rfl), rfl⟩

/-- Where the first number lies that is no entry, or -1. -/
def IdxN (v : List Int) (w : World) (e : Ending) (w' : World) : Prop :=
  ((small v 20 = true ∧ e = .returned (.int .i64 (-1))) ∨ (small v 20 = false ∧ ∃ k : Nat, e = .returned (.int .i64 k))) ∧ Below w.heap.size w w'

set_option maxRecDepth 100000 in
set_option maxHeartbeats 400000 in
theorem i_indexn (v : List Int) (a : Value) (w : World) (hv : Sl w a (intVals v)) :
    Calls Tryd.prog 104 #[a, .func (.func 117) #[] #[]] w (IdxN v w) := by
  obtain ⟨a, c, rfl, hm, hopen⟩ := hv.shape
  rw [intVals_len] at hm hopen ⊢
  unfold maxLen at hm
  have HO := Lib.hid hopen
  clear hopen hv
  go_enter Tryd.func104, Tryd.ntmps104
  go_wp2
  go_loopw [5, 8] (fun _ i wr => ∃ k : Nat, k ≤ v.length ∧ i = .int .i64 k ∧ small (v.take k) 20 = true ∧ Below w.heap.size w wr) (fun _ i _ => v.length - (RowKit.intOf i).toNat)
  case atStart => exact ⟨0, Nat.zero_le _, rfl, rfl, Below.refl _ _⟩
  case round =>
    obtain ⟨k, hk, rfl, ht, hbr⟩ := hrel
    have HB := Lib.hid hbr
    have HT := Lib.hid ht
    clear ht
    by_cases hlt : k < v.length
    · obtain ⟨b, off, rfl, hc, hlt2, hx⟩ := HO.out (by omega)
      have hcell := hx k _ (intVals_get v k hlt)
      rw [← hbr.cell (p := ⟨b, off + k, none⟩) hlt2] at hcell
      clear hx hbr
      by_cases hin : inR v[k] (-20) 20 = true
      · have HI := Lib.hid hin
        clear hin
        go_wp2_with fail
        refine (i_nonormal _ _).mono ?_
        rintro e w1 ⟨rfl, rfl⟩
        rw [HI.out]
        go_wp2_with fail
        exact ⟨⟨k + 1, by omega, by go_num, small_take hlt HT.out HI.out, HB.out⟩, by simp [RowKit.intOf]; omega⟩
      · have HI := Lib.hid (Bool.not_eq_true _ ▸ hin)
        clear hin
        go_wp2_with fail
        refine (i_nonormal _ _).mono ?_
        rintro e w1 ⟨rfl, rfl⟩
        rw [HI.out]
        go_wp2_with fail
        go_ret
        exact ⟨.inr ⟨small_not hlt HI.out, k, rfl⟩, HB.out⟩
    · obtain rfl : k = v.length := by omega
      clear hbr
      go_wp2
      go_ret
      refine ⟨.inl ⟨?_, rfl⟩, HB.out⟩
      have h := HT.out
      rw [List.take_length] at h
      exact h

set_option maxRecDepth 100000 in
theorem i_containsn (v : List Int) (a : Value) (w : World) (hv : Sl w a (intVals v)) :
    Calls Tryd.prog 72 #[a, .func (.func 117) #[] #[]] w (Quiet w (.bool (!small v 20))) := by
  have HV := Lib.hid hv
  clear hv
  go_enter Tryd.func72, Tryd.ntmps72
  go_wp2_with fail
  refine (i_indexn v a _ HV.out).mono ?_
  rintro e w1 ⟨⟨hs, rfl⟩ | ⟨hs, k, rfl⟩, hb⟩
  · have HS := Lib.hid hs
    clear hs
    go_wp2_with fail
    go_ret
    exact ⟨ret_bool (by rw [HS.out]; rfl), hb⟩
  · have HS := Lib.hid hs
    clear hs
    have h0 : (0 : Int) ≤ (k : Int) := by omega
    go_wp2_with fail
    go_ret
    exact ⟨ret_bool (by rw [HS.out]; rfl), hb⟩


set_option maxRecDepth 100000 in
set_option maxHeartbeats 800000 in
theorem i_ishalf (n : Int) (h : Hf) (v : Value) (w : World) (hv : Hv w v h) :
    Calls Tryd.prog 109 #[.int .i64 n, v] w (Quiet w (.bool (halfOk n h))) := by
  obtain ⟨u, rfl, hs⟩ := hv
  have HS := Lib.hid hs
  obtain ⟨a, c, rfl, hm, _⟩ := hs.shape
  rw [intVals_len] at hm HS ⊢
  unfold maxLen at hm
  have K := Lib.hid (Bk.new w #[.slice a h.1.length c, .int .i64 h.2] 105)
  have B0 := Lib.hid (below1 w (.cells #[.slice a h.1.length c, .int .i64 h.2] 105))
  clear hs
  by_cases l1 : n < 1
  · have E := Lib.hid (halfOk_f1 (n := n) (h := h) (inR_f (by omega)))
    go_enter Tryd.func109, Tryd.ntmps109
    go_wp2_with fail
    go_ret
    exact ⟨ret_bool E.out.symm, B0.out⟩
  by_cases l3 : 3 < n
  · have E := Lib.hid (halfOk_f1 (n := n) (h := h) (inR_f (by omega)))
    go_enter Tryd.func109, Tryd.ntmps109
    go_wp2_with fail
    go_ret
    exact ⟨ret_bool E.out.symm, B0.out⟩
  by_cases c2 : (h.1.length : Int) = n
  case neg =>
    have E := Lib.hid (halfOk_f2 (h := h) c2)
    have hne : ((h.1.length : Int) == n) = false := by rw [beq_eq_false_iff_ne]; exact c2
    have hne2 : ((h.1.length : Int) != n) = true := by rw [bne_iff_ne]; exact c2
    clear c2
    go_enter Tryd.func109, Tryd.ntmps109
    go_wp2_with fail
    go_ret
    exact ⟨ret_bool E.out.symm, B0.out⟩
  subst c2
  have C1 := Lib.hid (show inR (h.1.length : Int) 1 3 = true from inR_mk (by omega) (by omega))
  by_cases c3 : small h.1 20 = true
  case neg =>
    have C3 := Lib.hid (bool_f c3)
    have E := Lib.hid (halfOk_f3 (n := h.1.length) (h := h) (bool_f c3))
    clear c3
    go_enter Tryd.func109, Tryd.ntmps109
    go_wp2_with fail
    refine (i_containsn h.1 _ _ (HS.out.below B0.out)).mono ?_
    rintro e w1 ⟨rfl, hb⟩
    rw [C3.out]
    have B1 := Lib.hid (B0.out.trans (hb.mono B0.out.size))
    clear hb
    go_wp2_with fail
    go_ret
    exact ⟨ret_bool E.out.symm, B1.out⟩
  have C3 := Lib.hid c3
  obtain ⟨x, y, z, p1, p2, p4, p5, p3⟩ := pad3 h.1 (by omega) (by omega)
  have P1 := Lib.hid p1
  by_cases hz : x = 0 ∧ y = 0 ∧ z = 0
  · have E := Lib.hid (halfOk_f4 (n := h.1.length) (h := h) (by rw [p2, allG_zero _ hz]; omega))
    obtain ⟨rfl, rfl, rfl⟩ := hz
    have hq := eq_arr_t (x := 0) (y := 0) (z := 0) (x' := 0) (y' := 0) (z' := 0) ⟨rfl, rfl, rfl⟩
    clear c3 p1 p2 p4 p5 p3
    go_enter Tryd.func109, Tryd.ntmps109
    go_wp2_with fail
    refine (i_containsn h.1 _ _ (HS.out.below B0.out)).mono ?_
    rintro e w1 ⟨rfl, hb⟩
    rw [C3.out]
    have K1 := Lib.hid (K.out.below hb)
    have B1 := Lib.hid (B0.out.trans (hb.mono B0.out.size))
    clear hb
    obtain ⟨⟨l0, -⟩, -⟩ := K1.out.two
    go_wp2_with fail
    refine (i_num h.1 _ _ _ P1.out (by omega) (by omega) _ _ (HS.out.below B1.out)).mono ?_
    rintro e w2 ⟨rfl, hb⟩
    have B2 := Lib.hid (B1.out.trans (hb.mono B1.out.size))
    clear hb l0
    go_wp2_with fail
    go_ret
    exact ⟨ret_bool E.out.symm, B2.out⟩
  · have hq := eq_arr_f (x := x) (y := y) (z := z) (x' := 0) (y' := 0) (z' := 0) hz
    have E := Lib.hid (halfOk_e (n := h.1.length) (h := h) C1.out rfl c3 (allG_pos (fun hh => hz (pad_zero p2 p4 p5 (by omega) hh))))
    clear c3 p1 p2 p4 p5 p3
    by_cases e1 : h.2 < -200
    · have E2 := Lib.hid (E.out.trans (inR_f (by omega)))
      go_enter Tryd.func109, Tryd.ntmps109
      go_wp2_with fail
      refine (i_containsn h.1 _ _ (HS.out.below B0.out)).mono ?_
      rintro e w1 ⟨rfl, hb⟩
      rw [C3.out]
      have K1 := Lib.hid (K.out.below hb)
      have B1 := Lib.hid (B0.out.trans (hb.mono B0.out.size))
      clear hb
      obtain ⟨⟨l0, -⟩, -⟩ := K1.out.two
      go_wp2_with fail
      refine (i_num h.1 _ _ _ P1.out (by omega) (by omega) _ _ (HS.out.below B1.out)).mono ?_
      rintro e w2 ⟨rfl, hb⟩
      have B2 := Lib.hid (B1.out.trans (hb.mono B1.out.size))
      obtain ⟨⟨-, l1⟩, -⟩ := (K1.out.below hb).two
      clear hb l0
      go_wp2_with fail
      go_ret
      exact ⟨ret_bool E2.out.symm, B2.out⟩
    · have E2 := Lib.hid (E.out.trans (inR_hi (by omega)))
      go_enter Tryd.func109, Tryd.ntmps109
      go_wp2_with fail
      refine (i_containsn h.1 _ _ (HS.out.below B0.out)).mono ?_
      rintro e w1 ⟨rfl, hb⟩
      rw [C3.out]
      have K1 := Lib.hid (K.out.below hb)
      have B1 := Lib.hid (B0.out.trans (hb.mono B0.out.size))
      clear hb
      obtain ⟨⟨l0, -⟩, -⟩ := K1.out.two
      go_wp2_with fail
      refine (i_num h.1 _ _ _ P1.out (by omega) (by omega) _ _ (HS.out.below B1.out)).mono ?_
      rintro e w2 ⟨rfl, hb⟩
      have B2 := Lib.hid (B1.out.trans (hb.mono B1.out.size))
      obtain ⟨⟨-, l1⟩, -⟩ := (K1.out.below hb).two
      clear hb l0
      go_wp2_with fail
      go_ret
      exact ⟨ret_bool E2.out.symm, B2.out⟩

set_option maxRecDepth 100000 in
set_option maxHeartbeats 800000 in
theorem i_isreg (r : Rgn) (v : Value) (w : World) (hv : Rg w v r) :
    Calls Tryd.prog 82 #[v] w (Quiet w (.bool (regOk r.1 r.2))) := by
  obtain ⟨n, hs'⟩ := r
  obtain ⟨u, rfl, hss⟩ := hv
  simp only at hss ⊢
  have HV := Lib.hid hss
  obtain ⟨a, c, rfl, hm⟩ := hss.shape
  unfold maxLen at hm
  have K := Lib.hid (Bk.new w #[.int .i64 n, .slice a hs'.length c] 51)
  have B0 := Lib.hid (below1 w (.cells #[.int .i64 n, .slice a hs'.length c] 51))
  clear hss
  by_cases l1 : n < 1
  · have E := Lib.hid (regOk_in (n := n) (hs := hs') (inR_f (by omega)))
    go_enter Tryd.func82, Tryd.ntmps82
    go_wp2_with fail
    go_ret
    exact ⟨ret_bool E.out.symm, B0.out⟩
  by_cases l3 : 3 < n
  · have E := Lib.hid (regOk_in (n := n) (hs := hs') (inR_f (by omega)))
    go_enter Tryd.func82, Tryd.ntmps82
    go_wp2_with fail
    go_ret
    exact ⟨ret_bool E.out.symm, B0.out⟩
  by_cases l8 : 8 < hs'.length
  · have E := Lib.hid (regOk_long (n := n) (hs := hs') (by omega))
    go_enter Tryd.func82, Tryd.ntmps82
    go_wp2_with fail
    go_ret
    exact ⟨ret_bool E.out.symm, B0.out⟩
  have C1 := Lib.hid (show inR n 1 3 = true from inR_mk (by omega) (by omega))
  go_enter Tryd.func82, Tryd.ntmps82
  go_wp2
  go_loopw [22] (fun i wr => ∃ k : Nat, k ≤ hs'.length ∧ i = .int .i64 k ∧ (hs'.take k).all (halfOk n) = true ∧ Below (w.alloc (.cells #[.int .i64 n, .slice a hs'.length c] 51)).heap.size (w.alloc (.cells #[.int .i64 n, .slice a hs'.length c] 51)) wr) (fun i _ => hs'.length - (RowKit.intOf i).toNat)
  case atStart => exact ⟨0, Nat.zero_le _, rfl, rfl, Below.refl _ _⟩
  case round =>
    obtain ⟨k, hk, rfl, ht, hbr⟩ := hrel
    have HB := Lib.hid hbr
    have HT := Lib.hid ht
    have HA := Lib.hid (B0.out.trans (hbr.mono B0.out.size))
    obtain ⟨⟨l0, -⟩, -⟩ := (K.out.below hbr).two
    clear ht
    by_cases hlt : k < hs'.length
    · obtain ⟨b, off, x, rfl, _, hb2, hcell, hcell1, hsx⟩ := HV.out.half k hlt rfl
      rw [← HA.out.cell (p := ⟨b, off + k * 2, none⟩) hb2] at hcell
      rw [← HA.out.cell (p := ⟨b, off + k * 2 + 1, none⟩) hb2] at hcell1
      have HX := Lib.hid hsx
      obtain ⟨xa, xc, rfl, _, _⟩ := hsx.shape
      have hsz := (K.out.below hbr).lt
      have hnb := below1 wr (.cells #[.slice xa (intVals hs'[k].1).length xc, .int .i64 hs'[k].2] 105)
      have HN := Lib.hid (HB.out.trans (hnb.mono HB.out.size))
      have HAN := Lib.hid (HA.out.trans (hnb.mono HA.out.size))
      clear hsx hbr hnb
      obtain ⟨q, hq⟩ : ∃ q : Bool, halfOk n hs'[k] = q := ⟨_, rfl⟩
      have HQ := Lib.hid hq
      clear hq
      go_wp2_with fail
      refine (i_ishalf n hs'[k] _ _ ⟨_, rfl, HX.out.below HAN.out⟩).mono ?_
      rintro e w1 ⟨rfl, hb1⟩
      rw [HQ.out]
      have HB1 := Lib.hid (HN.out.trans (hb1.mono HN.out.size))
      have HA1 := Lib.hid (B0.out.trans (HB1.out.mono B0.out.size))
      clear hb1 l0 hcell hcell1
      cases q with
      | true =>
        go_wp2
        exact ⟨⟨k + 1, by omega, by go_num, all_take' hlt HT.out HQ.out, HB1.out⟩, by simp [RowKit.intOf]; omega⟩
      | false =>
        go_wp2
        go_ret
        exact ⟨ret_bool (regOk_half hlt HQ.out).symm, HA1.out⟩
    · obtain rfl : k = hs'.length := by omega
      have E := Lib.hid (regOk_e (by have h := HT.out; rw [List.take_length] at h; exact h) C1.out (by omega))
      clear hbr
      go_wp2
      go_ret
      exact ⟨ret_bool E.out.symm, HA.out⟩
end Go.Proofs.YtmogncpkdkdodaaDoor
