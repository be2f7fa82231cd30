/- The model's InverseMatrix. -/
import Derived.Test.YteenheidomfpkaaDoorMatMin
namespace Go.Proofs.YteenheidomfpkaaDoor
open Go.RowKit Go.Lib

def signI (r c : Nat) : Int := 1 - 2 * (((r : Int) + (c : Int)) % 2)
def entI (m : List (List Int)) (r c : Nat) : Int := detL m * signI r c * minorD m c r
def rowI (m : List (List Int)) (r : Nat) : List Int := (List.range m.length).map (entI m r)
def invL (m : List (List Int)) : List (List Int) := (List.range m.length).map (rowI m)
def invR (m : List (List Int)) : List (List Int) × Bool := if uniR m = true ∧ isM (invL m) = true then (invL m, true) else ([], false)
theorem rng_take {α : Type} (f : Nat → α) {n k : Nat} (h : k < n) : ((List.range n).map f).take (k + 1) = ((List.range n).map f).take k ++ [f k] := by
  have hl : k < ((List.range n).map f).length := by simp [h]
  rw [List.take_succ_eq_append_getElem hl]
  simp
theorem sign_two (r c : Nat) : signI r c = 1 ∨ signI r c = -1 := by
  unfold signI
  have : ((r : Int) + (c : Int)) % 2 = 0 ∨ ((r : Int) + (c : Int)) % 2 = 1 := by omega
  rcases this with h | h <;> rw [h] <;> simp
theorem uniR_t {m : List (List Int)} (h : uniR m = true) : isM m = true ∧ (detL m = 1 ∨ detL m = -1) := by
  unfold uniR detR at h
  rw [decide_eq_true_eq] at h
  by_cases hm : isM m = true
  · rw [if_pos hm] at h; exact ⟨hm, by omega⟩
  · rw [if_neg hm] at h; simp at h
theorem minor_bd {n : Nat} {m : List (List Int)} {r c : Nat} (h3 : n ≤ 3) (hm : Sq n 100 m) (hr : r < n) (hc : c < n) : -6000000000000000 ≤ minorD m r c ∧ minorD m r c ≤ 6000000000000000 := by
  unfold minorD
  split
  · omega
  · have hs := part_sq (ro := r) (c := c) hm hr hc
    have := hs.1
    exact det_bd (n := n - 1) (by omega) (by omega) (hs.mono (by omega))
theorem pm_mul {d s : Int} (hd : d = 1 ∨ d = -1) (hs : s = 1 ∨ s = -1) : d * s = 1 ∨ d * s = -1 := by
  rcases hd with rfl | rfl <;> rcases hs with rfl | rfl <;> simp
theorem pm_bd {d x : Int} (hd : d = 1 ∨ d = -1) (h1 : -6000000000000000 ≤ x) (h2 : x ≤ 6000000000000000) : -6000000000000000 ≤ d * x ∧ d * x ≤ 6000000000000000 := by
  rcases hd with rfl | rfl <;> omega
theorem rowI_len (m : List (List Int)) (r : Nat) : (rowI m r).length = m.length := by simp [rowI]
theorem invL_len (m : List (List Int)) : (invL m).length = m.length := by simp [invL]
theorem isM_tot {m : List (List Int)} (h : isM m = true) : tot m ≤ 9 := by
  have ht := isM_t h
  have key : ∀ (l : List (List Int)) (n : Nat), (∀ r ∈ l, r.length = n) → tot l = l.length * n := by
    intro l n
    induction l with
    | nil => intro _; simp [tot]
    | cons r rs ih =>
      intro hh
      have := ih (fun x hx => hh x (by simp [hx]))
      simp only [tot, List.map_cons, List.sum_cons, List.length_cons] at this ⊢
      rw [this, hh r (by simp), Nat.succ_mul]; omega
  rw [key m m.length (fun r hr => by obtain ⟨i, hi, rfl⟩ := List.getElem_of_mem hr; exact (ht.2.2 i hi).1)]
  exact Nat.mul_le_mul ht.2.1 ht.2.1
theorem invR_len (m : List (List Int)) : tot (invR m).1 ≤ 9 := by
  unfold invR
  split
  · rename_i h; exact isM_tot h.2
  · simp [tot]

set_option maxRecDepth 100000 in
set_option maxHeartbeats 1600000 in
theorem s_inv (m : List (List Int)) (v : Value) (w : World) (hv : Rw w v m) :
    Calls Tryd.prog 5 #[v] w (GotR w (invR m)) := by
  have HV := Lib.hid hv
  obtain ⟨p, cp, rfl, _, _⟩ := hv.shape
  clear hv
  go_enter Tryd.func5, Tryd.ntmps5
  go_wp2_with fail
  refine (s_isuni m _ _ HV.out).mono ?_
  rintro e w1 ⟨rfl, hb1⟩
  have HB1 := Lib.hid hb1
  clear hb1
  by_cases hu : uniR m = true
  · obtain ⟨hm, hd⟩ := uniR_t hu
    have HU := Lib.hid hu
    have HM := Lib.hid (isM_sq hm)
    have hl := isM_t hm
    have h1 : 1 ≤ m.length := hl.1
    have h3 : m.length ≤ 3 := hl.2.1
    have HD := Lib.hid hd
    rw [hu]
    clear hu hm hl hd
    go_wp2_with fail
    refine (s_det m.length 100 m h1 h3 (by omega) (by omega) HM.out _ _ (HV.out.below HB1.out)).mono ?_
    rintro e w2 ⟨rfl, hb2⟩
    have HB2 := Lib.hid (HB1.out.trans (hb2.mono HB1.out.size))
    clear hb2
    go_wp2
    go_loopw [5, 6] (fun o i wr => ∃ k : Nat, k ≤ m.length ∧ i = .int .i64 k ∧ OwR 30 3 w.heap.size wr.heap.size wr o ((invL m).take k) ∧ Below w.heap.size w wr) (fun _ i _ => m.length - (RowKit.intOf i).toNat)
    case atStart => exact ⟨0, Nat.zero_le _, rfl, owr_empty HB2.out.size, HB2.out.alloc HB2.out.size _⟩
    case round =>
      obtain ⟨k, hk, rfl, how, hbr⟩ := hrel
      rename World => w3
      have HW := Lib.hid how
      have HB := Lib.hid hbr
      clear how hbr
      by_cases hlt : k < m.length
      · go_wp2
        go_loopw [7, 8] (fun o i ws => ∃ j : Nat, j ≤ m.length ∧ i = .int .i64 j ∧ ws.ownsRow w3.heap.size 3 1 o j (intVals ((rowI m k).take j)) ∧ Below w3.heap.size w3 ws) (fun _ i _ => m.length - (RowKit.intOf i).toNat)
        case atStart => exact ⟨0, Nat.zero_le _, rfl, owns_none (Nat.le_refl _), (Below.refl _ _).alloc (Nat.le_refl _) _⟩
        case round =>
          obtain ⟨j, hj, rfl, how2, hbs⟩ := hrel
          rename World => ws
          have HW2 := Lib.hid how2
          have HS := Lib.hid hbs
          have HBS := Lib.hid (HB.out.trans (hbs.mono HB.out.size))
          clear how2 hbs
          by_cases hlj : j < m.length
          · have RT := Lib.hid (rng_take (entI m k) hlj)
            have MB := minor_bd (r := j) (c := k) h3 HM.out hlj hlt
            have SG := sign_two k j
            have hj' : j ≤ 1099511627776 := by omega
            have DS := pm_mul HD.out SG
            have DM := pm_bd DS MB.1 MB.2
            have e5 : wrap64 (detL m * (1 - 2 * (((k : Int) + (j : Int)) % 2))) = detL m * signI k j := w64 (by unfold signI at DS; omega) (by unfold signI at DS; omega)
            have e6 : wrap64 (detL m * signI k j * minorD m j k) = entI m k j := w64 (by omega) (by omega)
            go_wp2_with fail
            refine (s_minor m.length m h3 HM.out j k hlj hlt _ _ (HV.out.below HBS.out)).mono ?_
            rintro e w4 ⟨rfl, hb4⟩
            have HS4 := Lib.hid (HS.out.trans (hb4.mono HS.out.size))
            have HW4 := Lib.hid (owns_below HW2.out hb4)
            clear hb4
            have C3 := Lib.hid (show w3.heap.size ≤ (w4.alloc (.cells #[.int .i64 (entI m k j)] 3)).heap.size by rw [World.size_alloc]; exact Nat.le_succ_of_le HS4.out.size)
            go_wp2_with (at_builtin; refine list_app_int rfl _ _ rfl w3.heap.size _ j ((rowI m k).take j) _ rfl (HW4.out.alloc _) w4.heap.size rfl (heap_alloc_new w4 _) hj' C3.out ?_; intro v' w5 hown1 hbel; have HO1 := Lib.hid hown1; have HB5 := Lib.hid ((HS4.out.alloc HS4.out.size _).trans hbel); clear hown1 hbel)
            refine ⟨⟨j + 1, by omega, by go_num, ?_, HB5.out⟩, by simp [RowKit.intOf]; omega⟩
            have h := RT.out
            unfold rowI
            rw [h]
            exact HO1.out
          · obtain rfl : j = m.length := by omega
            have h2 := OwnV.of_owns HW2.out
            rw [List.take_of_length_le (by rw [rowI_len]; exact Nat.le_refl _)] at h2
            have HC := Lib.hid h2
            have HO2 := Lib.hid (HW.out.below HS.out)
            have TT := Lib.hid (rng_take (rowI m) hlt)
            have HN := Lib.hid (show ((invL m).take k).length ≤ 1099511627776 by rw [List.length_take, invL_len]; omega)
            have hcl : (intVals (rowI m k)).length = m.length := by rw [intVals_len, rowI_len]
            obtain ⟨gr, gc, e0, _, _⟩ := HC.out.form (by rw [hcl]; omega)
            rw [hcl] at e0
            subst e0
            clear h2
            go_wp2_with (at_builtin; refine list_app_row rfl _ _ rfl w.heap.size w3.heap.size _ _ ((invL m).take k) (rowI m k) rfl (HO2.out.below ((Below.refl _ _).alloc (Nat.le_refl _) _)) ((HC.out.below ((Below.refl _ _).alloc (Nat.le_refl _) _)).mono (Nat.le_refl _) (by rw [World.size_alloc]; omega)) ws.heap.size rfl (heap_alloc_new ws _) HN.out HB.out.size (by have := HS.out.size; rw [World.size_alloc]; omega) ?_; intro g cap w' hown hbel; have HO3 := Lib.hid hown; have HB3 := Lib.hid ((HBS.out.alloc HBS.out.size _).trans hbel); clear hown hbel)
            refine ⟨⟨k + 1, by omega, by go_num, ?_, HB3.out⟩, by simp [RowKit.intOf]; omega⟩
            have h := HO3.out
            have e := TT.out
            unfold invL at h ⊢
            rw [e]
            rw [List.length_take] at h
            exact h
      · obtain rfl : k = m.length := by omega
        have h2 := HW.out
        rw [List.take_of_length_le (by rw [invL_len]; exact Nat.le_refl _)] at h2
        have HO := Lib.hid h2
        clear h2 HW
        go_wp2_with fail
        refine (s_ismat (invL m) _ _ HO.out.rw).mono ?_
        rintro e w4 ⟨rfl, hb4⟩
        have HB4 := Lib.hid (HB.out.trans (hb4.mono HB.out.size))
        have HO4 := Lib.hid (HO.out.below hb4)
        have hs4 := hb4.size
        clear hb4
        by_cases h : isM (invL m) = true
        · have ER := Lib.hid (show invR m = (invL m, true) from if_pos ⟨HU.out, h⟩)
          rw [h]
          clear h
          go_wp2_with fail
          go_ret2
          rw [ER.out]
          exact ⟨⟨_, rfl, HO4.out.mono (Nat.le_refl _) hs4⟩, HB4.out⟩
        · have ER := Lib.hid (show invR m = ([], false) from if_neg (fun hh => h hh.2))
          rw [bool_f h]
          clear h
          go_wp2_with fail
          go_ret2
          rw [ER.out]
          exact ⟨⟨_, rfl, owr_empty HB4.out.size⟩, HB4.out.alloc HB4.out.size _⟩
  · have ER := Lib.hid (show invR m = ([], false) from if_neg (fun hh => hu hh.1))
    rw [bool_f hu]
    clear hu
    go_wp2_with fail
    go_ret2
    rw [ER.out]
    exact ⟨⟨_, rfl, owr_empty HB1.out.size⟩, HB1.out.alloc HB1.out.size _⟩
end Go.Proofs.YteenheidomfpkaaDoor
