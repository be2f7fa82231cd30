/- The model's areas, sides and places. -/
import Derived.Test.YtckpifcdlmfabaaPgW
import Derived.Test.YtckpifcdlmfabaaPgN
namespace Go.Proofs.Ytckpifcdlmfabaa
open Go.RowKit Go.Lib

theorem mod_next {k n : Nat} : Int.tmod ((k : Int) + 1) (n : Int) = (((k + 1) % n : Nat) : Int) := by
  rw [Int.ofNat_tmod]; rfl
theorem side_at {ps : List P2} {k nx : Nat} (hk : k < ps.length) (hn : (k + 1) % ps.length = nx) (hx : nx < ps.length) : sideP ps k = (ps[k], ps[nx]) := by
  unfold sideP
  rw [hn, List.getD_eq_getElem?_getD, List.getD_eq_getElem?_getD, List.getElem?_eq_getElem hk, List.getElem?_eq_getElem hx]; rfl
theorem sides_bd {ps : List P2} (h : ∀ p ∈ ps, BdP 50 p) : BdS (sidesP ps) := by
  intro s hs
  obtain ⟨k, hk, rfl⟩ := List.mem_map.1 hs
  have hk : k < ps.length := by simpa using hk
  have hx : (k + 1) % ps.length < ps.length := Nat.mod_lt _ (by omega)
  rw [side_at hk rfl hx]
  exact ⟨h _ (List.getElem_mem _), h _ (List.getElem_mem _)⟩
theorem Rw.pt {w : World} {a : Option Addr} {n c : Nat} {ps : List P2} (h : Rw w (.slice a n c) (ps.map rowOf)) (k : Nat) (hk : k < ps.length) : ∃ (b off : Nat) (x : Value), a = some ⟨b, off, none⟩ ∧ b < w.heap.size ∧ w.cell? ⟨b, off + k, none⟩ = some x ∧ Sl w x (intVals (rowOf ps[k])) := by
  obtain ⟨b, off, x, h1, h2, h3, h4⟩ := h.cells k (by simpa using hk)
  exact ⟨b, off, x, h1, h2, h3, by simpa using h4⟩
theorem crossS_at (p q : P2) : p.1 * q.2 - p.2 * q.1 = crossS (p, q) := rfl
set_option maxRecDepth 100000 in
set_option maxHeartbeats 1600000 in
theorem s_area (ps : List P2) (h12 : ps.length ≤ 12) (hbd : ∀ p ∈ ps, BdP 50 p) (v : Value) (w : World) (hv : Rw w v (ps.map rowOf)) :
    Calls Try.prog 78 #[v] w (Quiet w (.int .i64 (areaL (sidesP ps)))) := by
  have HX := Lib.hid hv
  obtain ⟨va, vc, rfl, hvm, _⟩ := hv.shape
  rw [List.length_map] at HX hvm ⊢
  have HBD := Lib.hid hbd
  have AB := Lib.hid (area_bd (sides_bd hbd))
  clear hv hbd
  go_enter Try.func78, Try.ntmps78
  go_wp2
  go_loopw [3, 4] (fun s i wr => ∃ k : Nat, k ≤ ps.length ∧ i = .int .i64 k ∧ s = .int .i64 (areaL ((sidesP ps).take k)) ∧ Below w.heap.size w wr) (fun _ i _ => ps.length - (RowKit.intOf i).toNat)
  case atStart => exact ⟨0, Nat.zero_le _, rfl, rfl, Below.refl _ _⟩
  case round =>
    obtain ⟨k, hk, rfl, rfl, hbr⟩ := hrel
    rename World => w2
    have HA := Lib.hid hbr
    by_cases hlt : k < ps.length
    · have i1 : (0 : Int) ≤ (k : Int) := by omega
      have i2 : (k : Int) < (ps.length : Int) := by omega
      obtain ⟨nx, hnx⟩ : ∃ nx, (k + 1) % ps.length = nx := ⟨_, rfl⟩
      have hxl : nx < ps.length := by rw [← hnx]; exact Nat.mod_lt _ (by omega)
      have HSD := Lib.hid (side_at hlt hnx hxl)
      have j1 : IntKind.i64.wrap ((k : Int) + 1) = (k : Int) + 1 := by rw [IntWalk.i64_in _ (by omega)]
      have j2 : Int.tmod ((k : Int) + 1) (ps.length : Int) = (nx : Int) := by rw [mod_next, hnx]
      have j3 : ¬ (ps.length : Int) = 0 := by omega
      have j4 : ((ps.length : Int) == 0) = false := beq_eq_false_iff_ne.2 j3
      have j9 : ¬ ps = [] := fun e => by rw [e] at hlt; simp at hlt
      have j5 : IntKind.i64.wrap (nx : Int) = (nx : Int) := by rw [IntWalk.i64_in _ (by omega)]
      have j6 : (0 : Int) ≤ (nx : Int) := by omega
      have j7 : (nx : Int) < (ps.length : Int) := by omega
      obtain ⟨b1, o1, x, rfl, hb2, hcell, hsx⟩ := HX.out.pt k hlt
      obtain ⟨b2, o2, y, e2, _, hcell', hsy⟩ := HX.out.pt nx hxl
      simp only [Option.some.injEq, Addr.mk.injEq, and_true] at e2
      obtain ⟨rfl, rfl⟩ := e2
      rw [← HA.out.cell (p := ⟨b1, o1 + k, none⟩) hb2] at hcell
      rw [← HA.out.cell (p := ⟨b1, o1 + nx, none⟩) hb2] at hcell'
      have QX := Lib.hid hsx
      have QY := Lib.hid hsy
      obtain ⟨xa, xc, rfl, _⟩ := hsx.shape
      obtain ⟨ya, yc, rfl, _⟩ := hsy.shape
      have h1 : b1 < w2.heap.size := Nat.lt_of_lt_of_le hb2 hbr.size
      have B1 := HBD.out ps[k] (List.getElem_mem _)
      have B2 := HBD.out ps[nx] (List.getElem_mem _)
      have CB := Lib.hid (show BdP 4000 ps[k] ∧ BdP 4000 ps[nx] from ⟨B1.wide (by omega), B2.wide (by omega)⟩)
      have hsl : k < (sidesP ps).length := by rw [sidesP_len]; exact hlt
      have AT := Lib.hid (area_take hsl)
      rw [sidesP_get, HSD.out] at AT
      have b1' := AB.out k (by rw [sidesP_len]; omega)
      have b2' := crossS_bd (s := (ps[k], ps[nx])) ⟨B1, B2⟩
      obtain ⟨p, hp⟩ : ∃ p, ps[k] = p := ⟨_, rfl⟩
      obtain ⟨q, hq⟩ : ∃ q, ps[nx] = q := ⟨_, rfl⟩
      rw [hp, hq] at AT b2' CB
      rw [hp] at QX hcell
      rw [hq] at QY hcell'
      obtain ⟨sm, hs⟩ : ∃ sm, areaL ((sidesP ps).take k) = sm := ⟨_, rfl⟩
      obtain ⟨cr, hc⟩ : ∃ cr, crossS (p, q) = cr := ⟨_, rfl⟩
      rw [hs] at AT b1' ⊢
      rw [hc] at AT b2'
      have HC := Lib.hid hc
      have j8 : IntKind.i64.wrap (sm + cr) = sm + cr := by rw [IntWalk.i64_in _ (by omega)]
      have hbr : Below w2.heap.size w2 w2 := Below.refl _ _
      clear hsx hsy hb2 hnx B1 B2 hsl hs hc hp hq b1' b2'
      go_wp2_with fail
      go_region_held3 (fun w' => w'.cell? ⟨b1, o1 + k, none⟩ = some (.slice xa (intVals (rowOf p)).length xc) ∧ w'.cell? ⟨b1, o1 + nx, none⟩ = some (.slice ya (intVals (rowOf q)).length yc) ∧ Below w2.heap.size w2 w')
        (first
          | with_reducible exact keepP2 hcell hcell' hbr
          | (go_split_ands; with_reducible exact keepQ2 h1 h1 (by assumption) (by assumption) (by assumption) (by assumption))
          | go_keep)
        (first | (go_at_call 120; refine (s_cross p q CB.out.1 CB.out.2 _ _ _ (QX.out.below HA.out.drew) (QY.out.below HA.out.drew)).mono ?_; rintro e w3 ⟨rfl, hb3⟩; rw [crossS_at, HC.out]))
      rename_i hH
      have HB1 := Lib.hid (HA.out.trans (hH.2.2.mono HA.out.size))
      clear hH hbr hcell hcell'
      go_wp2
      exact ⟨⟨k + 1, by omega, by go_num, by rw [AT.out], HB1.out⟩, by simp [RowKit.intOf]; omega⟩
    · obtain rfl : k = ps.length := by omega
      have E := Lib.hid (show areaL ((sidesP ps).take ps.length) = areaL (sidesP ps) by rw [List.take_of_length_le (by rw [sidesP_len]; omega)])
      rw [E.out]
      clear hbr
      go_wp2
      go_ret
      exact ⟨rfl, HA.out⟩
set_option maxRecDepth 100000 in
set_option maxHeartbeats 1600000 in
theorem s_side (ps : List P2) (h12 : ps.length ≤ 12) (hbd : ∀ p ∈ ps, BdP 50 p) (k : Nat) (hlt : k < ps.length) (v : Value) (w : World) (hv : Rw w v (ps.map rowOf)) :
    Calls Try.prog 81 #[v, .int .i64 k] w (Quiet w (.int .i64 (stepS (sideP ps k)))) := by
  have HX := Lib.hid hv
  obtain ⟨va, vc, rfl, hvm, _⟩ := hv.shape
  rw [List.length_map] at HX hvm ⊢
  have HBD := Lib.hid hbd
  have i1 : (0 : Int) ≤ (k : Int) := by omega
  have i2 : (k : Int) < (ps.length : Int) := by omega
  obtain ⟨nx, hnx⟩ : ∃ nx, (k + 1) % ps.length = nx := ⟨_, rfl⟩
  have hxl : nx < ps.length := by rw [← hnx]; exact Nat.mod_lt _ (by omega)
  rw [side_at hlt hnx hxl]
  have j1 : IntKind.i64.wrap ((k : Int) + 1) = (k : Int) + 1 := by rw [IntWalk.i64_in _ (by omega)]
  have j2 : Int.tmod ((k : Int) + 1) (ps.length : Int) = (nx : Int) := by rw [mod_next, hnx]
  have j3 : ¬ (ps.length : Int) = 0 := by omega
  have j4 : ((ps.length : Int) == 0) = false := beq_eq_false_iff_ne.2 j3
  have j9 : ¬ ps = [] := fun e => by rw [e] at hlt; simp at hlt
  have j5 : IntKind.i64.wrap (nx : Int) = (nx : Int) := by rw [IntWalk.i64_in _ (by omega)]
  have j6 : (0 : Int) ≤ (nx : Int) := by omega
  have j7 : (nx : Int) < (ps.length : Int) := by omega
  obtain ⟨b1, o1, x, rfl, h1, hcell, hsx⟩ := HX.out.pt k hlt
  obtain ⟨b2, o2, y, e2, _, hcell', hsy⟩ := HX.out.pt nx hxl
  simp only [Option.some.injEq, Addr.mk.injEq, and_true] at e2
  obtain ⟨rfl, rfl⟩ := e2
  have QX := Lib.hid hsx
  have QY := Lib.hid hsy
  obtain ⟨xa, xc, rfl, _⟩ := hsx.shape
  obtain ⟨ya, yc, rfl, _⟩ := hsy.shape
  have B1 := HBD.out ps[k] (List.getElem_mem _)
  have B2 := HBD.out ps[nx] (List.getElem_mem _)
  obtain ⟨p, hp⟩ : ∃ p, ps[k] = p := ⟨_, rfl⟩
  obtain ⟨q, hq⟩ : ∃ q, ps[nx] = q := ⟨_, rfl⟩
  rw [hp] at QX hcell B1
  rw [hq] at QY hcell' B2
  rw [hp, hq]
  have D := Lib.hid (show Bd (rowOf (q.1 - p.1, q.2 - p.2)) 100 from (B2.less B1 (by omega)).bd)
  have C1 := Lib.hid (And.intro B1.bd B2.bd)
  have HE := Lib.hid (show allG (rowOf (q.1 - p.1, q.2 - p.2)) = stepS (p, q) from all_two _ _)
  have hbr : Below w.heap.size w w := Below.refl _ _
  clear hsx hsy hv hbd hnx B1 B2 hp hq
  go_enter Try.func81, Try.ntmps81
  go_wp2_with fail
  go_region_held3 (fun w' => w'.cell? ⟨b1, o1 + k, none⟩ = some (.slice xa (intVals (rowOf p)).length xc) ∧ w'.cell? ⟨b1, o1 + nx, none⟩ = some (.slice ya (intVals (rowOf q)).length yc) ∧ Below w.heap.size w w')
    (first
      | with_reducible exact keepP2 hcell hcell' hbr
      | (go_split_ands; with_reducible exact keepQ2 h1 h1 (by assumption) (by assumption) (by assumption) (by assumption))
      | go_keep)
    (first
      | (go_at_call 123; refine (s_lessP (rowOf q) (rowOf p) rfl (by simp [rowOf]) 50 (by omega) C1.out.2 C1.out.1 _ _ _ (QY.out.below (Below.refl _ _).drew) (QX.out.below (Below.refl _ _).drew)).mono ?_; rintro e w3 ⟨⟨u3, rfl, h3⟩, hb3⟩; rw [lessL_row] at h3; obtain ⟨ua, uc, rfl, _⟩ := h3.sl.shape)
      | (go_at_call 122; refine (s_all (rowOf (q.1 - p.1, q.2 - p.2)) 100 (by omega) (by omega) D.out _ _ h3.sl).mono ?_; rintro e w4 ⟨rfl, hb4⟩; rw [HE.out]))
  rename_i hH
  have HB1 := Lib.hid hH.2.2
  clear hH hbr hcell hcell'
  go_wp2
  go_ret
  exact ⟨rfl, HB1.out⟩
end Go.Proofs.Ytckpifcdlmfabaa
