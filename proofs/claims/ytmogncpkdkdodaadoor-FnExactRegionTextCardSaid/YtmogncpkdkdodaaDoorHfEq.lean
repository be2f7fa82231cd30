/- Equality of halves and regions that read alike. -/
import Derived.Test.YtmogncpkdkdodaaDoorHfTo
import Derived.Test.YtmogncpkdkdodaaDoorRowEq
namespace Go.Proofs.YtmogncpkdkdodaaDoor
open Go.RowKit Go.Lib

set_option maxRecDepth 100000 in
set_option maxHeartbeats 400000 in
theorem eq_half (h : Hf) (v u : Value) (w : World) (hv : Hv w v h) (hu : Hv w u h) :
    Calls Tryd.prog 112 #[v, u] w (Quiet w (.bool true)) := by
  obtain ⟨x, rfl, hx⟩ := hv
  obtain ⟨y, rfl, hy⟩ := hu
  have HX := Lib.hid hx
  have HY := Lib.hid hy
  have B0 := Lib.hid (below2 w (.cells #[x, .int .i64 h.2] 105) (.cells #[y, .int .i64 h.2] 105))
  have K := Lib.hid (Bk.pair w #[x, .int .i64 h.2] #[y, .int .i64 h.2] 105 105)
  clear hx hy
  go_enter Tryd.func112, Tryd.ntmps112
  go_wp2_with fail
  refine (eq_int h.1 x y _ (HX.out.below B0.out) (HY.out.below B0.out)).mono ?_
  rintro e w1 ⟨rfl, hb⟩
  have B1 := Lib.hid (B0.out.trans (hb.mono B0.out.size))
  obtain ⟨⟨_, a1⟩, _⟩ := (K.out.1.below hb).two
  obtain ⟨⟨_, b1⟩, _⟩ := (K.out.2.below hb).two
  clear hb
  go_wp2_with fail
  go_ret
  exact ⟨rfl, B1.out⟩

theorem keepF4 {w W : World} {p q r s : Addr} {x y z t : Value} (h1 : W.cell? p = some x) (h2 : W.cell? q = some y) (h4 : W.cell? r = some z) (h5 : W.cell? s = some t) (h3 : Below w.heap.size w W) : W.drew.cell? p = some x ∧ W.drew.cell? q = some y ∧ W.drew.cell? r = some z ∧ W.drew.cell? s = some t ∧ Below w.heap.size w W.drew := ⟨h1, h2, h4, h5, h3.drew⟩
theorem keepE4 {w W w1 : World} {p q r s : Addr} {x y z t : Value} (hp : p.block < w.heap.size) (hq : q.block < w.heap.size) (hr : r.block < w.heap.size) (hs : s.block < w.heap.size) (h1 : W.cell? p = some x) (h2 : W.cell? q = some y) (h4 : W.cell? r = some z) (h5 : W.cell? s = some t) (h3 : Below w.heap.size w W) (hb : Below W.heap.size W w1) :
    w1.cell? p = some x ∧ w1.cell? q = some y ∧ w1.cell? r = some z ∧ w1.cell? s = some t ∧ Below w.heap.size w w1 :=
  ⟨(hb.cell (Nat.lt_of_lt_of_le hp h3.size)).trans h1, (hb.cell (Nat.lt_of_lt_of_le hq h3.size)).trans h2, (hb.cell (Nat.lt_of_lt_of_le hr h3.size)).trans h4, (hb.cell (Nat.lt_of_lt_of_le hs h3.size)).trans h5, h3.trans (hb.mono h3.size)⟩

set_option maxRecDepth 100000 in
set_option maxHeartbeats 800000 in
theorem eq_halfs (hs : List Hf) (v u : Value) (w : World) (hv : Hs w v hs) (hu : Hs w u hs) :
    Calls Tryd.prog 85 #[v, u] w (Quiet w (.bool true)) := by
  have HV := Lib.hid hv
  have HU := Lib.hid hu
  obtain ⟨a, c, rfl, hm⟩ := hv.shape
  obtain ⟨a', c', rfl, _⟩ := hu.shape
  unfold maxLen at hm
  clear hv hu
  go_enter Tryd.func85, Tryd.ntmps85
  go_wp2
  go_loopw [5] (fun i wr => ∃ k : Nat, k ≤ hs.length ∧ i = .int .i64 k ∧ Below w.heap.size w wr) (fun i _ => hs.length - (RowKit.intOf i).toNat)
  case atStart => exact ⟨0, Nat.zero_le _, rfl, Below.refl _ _⟩
  case round =>
    obtain ⟨k, hk, rfl, hbr⟩ := hrel
    have HB := Lib.hid hbr
    by_cases hlt : k < hs.length
    · obtain ⟨b, off, x, rfl, _, hb2, hcell, hcell1, hsx⟩ := HV.out.half k hlt rfl
      obtain ⟨b', off', y, rfl, _, hb2', hcell', hcell1', hsy⟩ := HU.out.half k hlt rfl
      rw [← hbr.cell (p := ⟨b, off + k * 2, none⟩) hb2] at hcell
      rw [← hbr.cell (p := ⟨b', off' + k * 2, none⟩) hb2'] at hcell'
      rw [← hbr.cell (p := ⟨b, off + k * 2 + 1, none⟩) hb2] at hcell1
      rw [← hbr.cell (p := ⟨b', off' + k * 2 + 1, none⟩) hb2'] at hcell1'
      have HX := Lib.hid hsx
      have HY := Lib.hid hsy
      have i1 : (0 : Int) ≤ (k : Int) := by omega
      have i2 : (k : Int) < (hs.length : Int) := by omega
      clear hsx hsy
      go_wp2
      go_region_held3 (fun w' => w'.cell? ⟨b, off + k * 2, none⟩ = some x ∧ w'.cell? ⟨b, off + k * 2 + 1, none⟩ = some (.int .i64 hs[k].2) ∧ w'.cell? ⟨b', off' + k * 2, none⟩ = some y ∧ w'.cell? ⟨b', off' + k * 2 + 1, none⟩ = some (.int .i64 hs[k].2) ∧ Below w.heap.size w w')
        (first
          | with_reducible exact keepF4 hcell hcell1 hcell' hcell1' hbr
          | (go_split_ands; with_reducible exact keepE4 hb2 hb2 hb2' hb2' (by assumption) (by assumption) (by assumption) (by assumption) (by assumption) (by assumption))
          | go_keep)
        (first | (go_at_call 112; refine (eq_half hs[k] _ _ _ ⟨x, rfl, HX.out.below HB.out.drew⟩ ⟨y, rfl, HY.out.below HB.out.drew⟩).mono ?_; rintro e w1 ⟨rfl, hb1⟩))
      rename_i hH
      have HB1 := Lib.hid hH.2.2.2.2
      clear hH hbr
      go_wp2
      exact ⟨⟨k + 1, by omega, by go_num, HB1.out⟩, by simp [RowKit.intOf]; omega⟩
    · obtain rfl : k = hs.length := by omega
      clear hbr
      go_wp2
      go_ret
      exact ⟨rfl, HB.out⟩

set_option maxRecDepth 100000 in
set_option maxHeartbeats 400000 in
theorem eq_region (r : Rgn) (v u : Value) (w : World) (hv : Rg w v r) (hu : Rg w u r) :
    Calls Tryd.prog 38 #[v, u] w (Quiet w (.bool true)) := by
  obtain ⟨x, rfl, hx⟩ := hv
  obtain ⟨y, rfl, hy⟩ := hu
  have HX := Lib.hid hx
  have HY := Lib.hid hy
  have B0 := Lib.hid (below2 w (.cells #[.int .i64 r.1, x] 51) (.cells #[.int .i64 r.1, y] 51))
  clear hx hy
  go_enter Tryd.func38, Tryd.ntmps38
  go_wp2_with fail
  refine (eq_halfs r.2 x y _ (HX.out.below B0.out) (HY.out.below B0.out)).mono ?_
  rintro e w1 ⟨rfl, hb⟩
  have B1 := Lib.hid (B0.out.trans (hb.mono B0.out.size))
  clear hb
  go_wp2_with fail
  go_ret
  exact ⟨rfl, B1.out⟩
end Go.Proofs.YtmogncpkdkdodaaDoor
