/- The measure of halves and regions. -/
import Derived.Test.YtmogncpkdkdodaaDoorHfTo
namespace Go.Proofs.YtmogncpkdkdodaaDoor
open Go.RowKit Go.Lib

theorem szI_small {left n : Int} (h : left < n) : szI left n = -1 := if_pos h
theorem szI_fits {left n : Int} (h : ¬ left < n) : szI left n = left - n := if_neg h
theorem szHs_small {hs : List Hf} {left : Int} (h : left < hs.length + totN hs) : szHs hs left = -1 := if_pos h
theorem szHs_fits {hs : List Hf} {left : Int} (h : ¬ left < hs.length + totN hs) : szHs hs left = left - hs.length - totN hs := if_neg h

set_option maxRecDepth 100000 in
set_option maxHeartbeats 400000 in
theorem sz_half (h : Hf) (v : Value) (left : Int) (w : World) (hv : Hv w v h) (h1 : 0 ≤ left) (h2 : left ≤ 1048576) :
    Calls Tryd.prog 106 #[v, .int .i64 left] w (Quiet w (.int .i64 (szI left h.1.length))) := by
  obtain ⟨u, rfl, hs⟩ := hv
  have HS := Lib.hid hs
  have B0 := Lib.hid (below1 w (.cells #[u, .int .i64 h.2] 133))
  clear hs
  by_cases hf : left < h.1.length
  · have E := Lib.hid (szI_small hf)
    clear hf
    go_enter Tryd.func106, Tryd.ntmps106
    go_wp2_with fail
    refine (sz_int h.1 u left _ (HS.out.below B0.out) (by omega) h2).mono ?_
    rintro e w1 ⟨rfl, rfl⟩
    rw [E.out]
    go_wp2_with fail
    go_ret
    exact ⟨ret_int E.out.symm, B0.out⟩
  · have E := Lib.hid (szI_fits hf)
    have h5 : ¬ left - h.1.length < 0 := by omega
    clear hf
    go_enter Tryd.func106, Tryd.ntmps106
    go_wp2_with fail
    refine (sz_int h.1 u left _ (HS.out.below B0.out) (by omega) h2).mono ?_
    rintro e w1 ⟨rfl, rfl⟩
    rw [E.out]
    go_wp2_with fail
    go_ret
    exact ⟨ret_int E.out.symm, B0.out⟩

set_option maxRecDepth 100000 in
set_option maxHeartbeats 800000 in
theorem sz_halfs (hs : List Hf) (v : Value) (left : Int) (w : World) (hv : Hs w v hs) (h1 : 0 ≤ left) (h2 : left ≤ 1048576) :
    Calls Tryd.prog 78 #[v, .int .i64 left] w (Quiet w (.int .i64 (szHs hs left))) := by
  have HV := Lib.hid hv
  obtain ⟨a, c, rfl, hm⟩ := hv.shape
  unfold maxLen at hm
  clear hv
  by_cases h : left < hs.length
  · have e := Lib.hid (szHs_small (hs := hs) (left := left) (by omega))
    have h3 : left - hs.length < 0 := by omega
    go_enter Tryd.func78, Tryd.ntmps78
    go_wp2
    go_ret
    exact ⟨ret_int e.out.symm, Below.refl _ _⟩
  · have h3 : ¬ left - hs.length < 0 := by omega
    go_enter Tryd.func78, Tryd.ntmps78
    go_wp2
    go_loopw [1, 5] (fun q i wr => ∃ (k : Nat) (l : Int), k ≤ hs.length ∧ i = .int .i64 k ∧ q = .int .i64 l ∧ l = left - hs.length - totN (hs.take k) ∧ 0 ≤ l ∧ Below w.heap.size w wr) (fun _ i _ => hs.length - (RowKit.intOf i).toNat)
    case atStart => exact ⟨0, _, Nat.zero_le _, rfl, rfl, by simp [totN], by omega, Below.refl _ _⟩
    case round =>
      obtain ⟨k, l, hk, rfl, rfl, hl, hl0, hbr⟩ := hrel
      have HL := Lib.hid hl
      have hl2 : l ≤ 1048576 := by omega
      clear hl
      have HB := Lib.hid hbr
      by_cases hlt : k < hs.length
      · obtain ⟨b, off, u, rfl, hcc, hb2, hcell, hcell1, hsl⟩ := HV.out.half k hlt rfl
        rw [← hbr.cell (p := ⟨b, off + k * 2, none⟩) hb2] at hcell
        rw [← hbr.cell (p := ⟨b, off + k * 2 + 1, none⟩) hb2] at hcell1
        have HS := Lib.hid (hsl.below hbr)
        have TT := Lib.hid (totN_take hlt)
        clear hsl hbr
        by_cases hfit : l < hs[k].1.length
        · have E := Lib.hid (szI_small hfit)
          have ER := Lib.hid (szHs_small (hs := hs) (left := left) (by have h5 := totN_take_le hs (k + 1); rw [TT.out] at h5; have := HL.out; omega))
          go_wp2_with fail
          refine (sz_half hs[k] _ l _ ⟨u, rfl, HS.out⟩ hl0 hl2).mono ?_
          rintro e w1 ⟨rfl, hb1⟩
          rw [E.out]
          have HB1 := Lib.hid (HB.out.trans (hb1.mono HB.out.size))
          go_wp2_with fail
          go_ret
          exact ⟨ret_int ER.out.symm, HB1.out⟩
        · have E := Lib.hid (szI_fits hfit)
          have h5 : ¬ l - hs[k].1.length < 0 := by omega
          go_wp2_with fail
          refine (sz_half hs[k] _ l _ ⟨u, rfl, HS.out⟩ hl0 hl2).mono ?_
          rintro e w1 ⟨rfl, hb1⟩
          rw [E.out]
          have HB1 := Lib.hid (HB.out.trans (hb1.mono HB.out.size))
          go_wp2_with fail
          exact ⟨⟨k + 1, _, by omega, by go_num, rfl, by rw [TT.out, HL.out]; omega, by omega, HB1.out⟩, by simp [RowKit.intOf]; omega⟩
      · obtain rfl : k = hs.length := by omega
        have ER := Lib.hid (show l = szHs hs left by have h6 := HL.out; rw [List.take_length] at h6; rw [szHs_fits (by omega), h6])
        clear hbr
        go_wp2
        go_ret
        exact ⟨ret_int ER.out, HB.out⟩

set_option maxRecDepth 100000 in
set_option maxHeartbeats 400000 in
theorem sz_region (r : Rgn) (v : Value) (left : Int) (w : World) (hv : Rg w v r) (h1 : 0 ≤ left) (h2 : left ≤ 1048576) :
    Calls Tryd.prog 34 #[v, .int .i64 left] w (Quiet w (.int .i64 (szHs r.2 left))) := by
  obtain ⟨u, rfl, hs⟩ := hv
  have HS := Lib.hid hs
  have B0 := Lib.hid (below1 w (.cells #[.int .i64 r.1, u] 46))
  clear hs
  by_cases hf : left < r.2.length + totN r.2
  · have E := Lib.hid (szHs_small hf)
    clear hf
    go_enter Tryd.func34, Tryd.ntmps34
    go_wp2_with fail
    refine (sz_halfs r.2 u left _ (HS.out.below B0.out) h1 h2).mono ?_
    rintro e w1 ⟨rfl, hb1⟩
    rw [E.out]
    have HB1 := Lib.hid (B0.out.trans (hb1.mono B0.out.size))
    go_wp2_with fail
    go_ret
    exact ⟨ret_int E.out.symm, HB1.out⟩
  · have E := Lib.hid (szHs_fits hf)
    have h5 : ¬ left - r.2.length - totN r.2 < 0 := by omega
    clear hf
    go_enter Tryd.func34, Tryd.ntmps34
    go_wp2_with fail
    refine (sz_halfs r.2 u left _ (HS.out.below B0.out) h1 h2).mono ?_
    rintro e w1 ⟨rfl, hb1⟩
    rw [E.out]
    have HB1 := Lib.hid (B0.out.trans (hb1.mono B0.out.size))
    go_wp2_with fail
    go_ret
    exact ⟨ret_int E.out.symm, HB1.out⟩
end Go.Proofs.YtmogncpkdkdodaaDoor
