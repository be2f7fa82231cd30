/- FnPoints's helpers: two lists of lists that read alike, the size of a number. -/
import Derived.Test.YtjijgagdaolkcaaGreatRowEq
import Derived.Test.YtjijgagdaolkcaaGreatVecS
namespace Go.Proofs.YtjijgagdaolkcaaGreat
open Go Go.RowKit Go.Lib

set_option maxRecDepth 100000 in
set_option maxHeartbeats 800000 in
theorem same_rows (zss : List (List Int)) (v u : Value) (w : World) (hv : Rw w v zss) (hu : Rw w u zss) :
    Calls Tryz.prog 12 #[v, u] w fun e w' => e = .returned (.bool true) ∧ Below w.heap.size w w' := by
  have HV := Lib.hid hv
  have HU := Lib.hid hu
  obtain ⟨a, c, rfl, hm, _⟩ := hv.shape
  obtain ⟨a', c', rfl, _, _⟩ := hu.shape
  unfold maxLen at hm
  clear hv hu
  go_enter Tryz.func12, Tryz.ntmps12
  go_wp2
  go_loopw [5] (fun i wr => ∃ k : Nat, k ≤ zss.length ∧ i = .int .i64 k ∧ Below w.heap.size w wr) (fun i _ => zss.length - (RowKit.intOf i).toNat)
  case atStart => exact ⟨0, Nat.zero_le _, rfl, Below.refl _ _⟩
  case round =>
    obtain ⟨k, hk, rfl, hbr⟩ := hrel
    have HB := Lib.hid hbr
    by_cases hlt : k < zss.length
    · obtain ⟨b, off, x, rfl, hb2, hcell, hsx⟩ := HV.out.row k hlt rfl
      obtain ⟨b', off', y, rfl, hb2', hcell', hsy⟩ := HU.out.row k hlt rfl
      rw [← hbr.cell (p := ⟨b, off + k, none⟩) hb2] at hcell
      rw [← hbr.cell (p := ⟨b', off' + k, none⟩) hb2'] at hcell'
      have HX := Lib.hid hsx
      have HY := Lib.hid hsy
      have i1 : (0 : Int) ≤ (k : Int) := by omega
      have i2 : (k : Int) < (zss.length : Int) := by omega
      clear hsx hsy
      go_wp2
      go_region_held3 (fun w' => w'.cell? ⟨b, off + k, none⟩ = some x ∧ w'.cell? ⟨b', off' + k, none⟩ = some y ∧ Below w.heap.size w w')
        (first
          | exact keepF hcell hcell' hbr
          | (go_split_ands; exact keepE hb2 hb2' (by assumption) (by assumption) (by assumption) (by assumption))
          | go_keep)
        (first | (go_at_call 15; refine (same_int zss[k] x y _ (HX.out.below HB.out.drew) (HY.out.below HB.out.drew)).mono ?_; rintro e w1 ⟨rfl, hb1⟩))
      rename_i hH
      have HB1 := Lib.hid hH.2.2
      clear hH hbr
      go_wp2
      exact ⟨⟨k + 1, by omega, by go_num, HB1.out⟩, by simp [RowKit.intOf]; omega⟩
    · obtain rfl : k = zss.length := by omega
      clear hbr
      go_wp2
      go_ret
      exact ⟨rfl, HB.out⟩
end Go.Proofs.YtjijgagdaolkcaaGreat
/- What the law of lattices calls: whether two lists are alike, whether a list of lists has a list. -/
namespace Go.Proofs.YtjijgagdaolkcaaGreat
open Go Go.RowKit Go.Lib

set_option maxRecDepth 100000 in
set_option maxHeartbeats 800000 in
theorem same_dec (xs ys : List Int) (v u : Value) (w : World) (hv : Sl w v (intVals xs)) (hu : Sl w u (intVals ys)) :
    Calls Tryz.prog 15 #[v, u] w (Quiet w (.bool (decide (xs = ys)))) := by
  obtain ⟨a, c, rfl, hm, hopen⟩ := hv.shape
  obtain ⟨a', c', rfl, hm', hopen'⟩ := hu.shape
  rw [intVals_len] at hm hopen hm' hopen'
  rw [intVals_len, intVals_len]
  unfold maxLen at hm hm'
  have HO := Lib.hid hopen
  have HO' := Lib.hid hopen'
  clear hopen hopen' hv hu
  by_cases hl : xs.length = ys.length
  · have HL := Lib.hid hl
    rw [← hl] at HO' ⊢
    clear hl
    go_enter Tryz.func15, Tryz.ntmps15
    go_wp2
    go_loopw [5] (fun i wr => ∃ k : Nat, k ≤ xs.length ∧ i = .int .i64 k ∧ (∀ j, j < k → xs[j]? = ys[j]?) ∧ Below w.heap.size w wr) (fun i _ => xs.length - (RowKit.intOf i).toNat)
    case atStart => exact ⟨0, Nat.zero_le _, rfl, fun j h => by omega, Below.refl _ _⟩
    case round =>
      obtain ⟨k, hk, rfl, heq, hbr⟩ := hrel
      have HB := Lib.hid hbr
      have HE := Lib.hid heq
      clear heq
      by_cases hlt : k < xs.length
      · have hlt' : k < ys.length := by have := HL.out; omega
        obtain ⟨b, off, rfl, hc, hlt2, hx⟩ := HO.out (by omega)
        obtain ⟨b', off', rfl, hc', hlt2', hx'⟩ := HO'.out (by omega)
        have hcell := hx k _ (intVals_get xs k hlt)
        have hcell' := hx' k _ (intVals_get ys k hlt')
        rw [← hbr.cell (p := ⟨b, off + k, none⟩) hlt2] at hcell
        rw [← hbr.cell (p := ⟨b', off' + k, none⟩) hlt2'] at hcell'
        obtain ⟨x, ex⟩ : ∃ x, xs[k] = x := ⟨_, rfl⟩
        obtain ⟨y, ey⟩ : ∃ y, ys[k] = y := ⟨_, rfl⟩
        rw [ex] at hcell
        rw [ey] at hcell'
        have EX := Lib.hid (show xs[k]? = some x by rw [List.getElem?_eq_getElem hlt, ex])
        have EY := Lib.hid (show ys[k]? = some y by rw [List.getElem?_eq_getElem hlt', ey])
        clear hx hx' hbr ex ey hlt'
        have i1 : (0 : Int) ≤ (k : Int) := by omega
        have i2 : (k : Int) < (xs.length : Int) := by omega
        by_cases e : x = y
        · subst e
          go_wp2
          go_quiet (fail)
          go_wp2
          exact ⟨⟨k + 1, by omega, by go_num, fun j hj => by
            by_cases h : j < k
            · exact HE.out j h
            · obtain rfl : j = k := by omega
              rw [EX.out, EY.out], below_drewN' HB.out _⟩, by simp [RowKit.intOf]; omega⟩
        · have e' : (x == y) = false := by simpa using e
          have DF := Lib.hid (show decide (xs = ys) = false by
            rw [decide_eq_false_iff_not]
            intro h
            have h1 := EX.out
            rw [h, EY.out] at h1
            exact e (Option.some.inj h1).symm)
          go_wp2
          go_quiet (fail)
          go_wp2
          go_ret
          exact ⟨by rw [DF.out]; rfl, below_drewN' HB.out _⟩
      · obtain rfl : k = xs.length := by omega
        have DT := Lib.hid (show decide (xs = ys) = true by
          rw [decide_eq_true_eq]
          refine List.ext_getElem? fun j => ?_
          by_cases h : j < xs.length
          · exact HE.out j h
          · rw [List.getElem?_eq_none (by omega), List.getElem?_eq_none (by have := HL.out; omega)])
        clear hbr
        go_wp2
        go_ret
        exact ⟨by rw [DT.out]; rfl, HB.out⟩
  · have hl' : ¬ (xs.length : Int) = (ys.length : Int) := by omega
    have DF := Lib.hid (show decide (xs = ys) = false by
      rw [decide_eq_false_iff_not]
      intro h; rw [h] at hl; exact hl rfl)
    clear hl
    go_enter Tryz.func15, Tryz.ntmps15
    go_wp2
    go_ret
    exact ⟨by rw [DF.out]; rfl, Below.refl _ _⟩

set_option maxRecDepth 100000 in
set_option maxHeartbeats 800000 in
theorem has_list (L : List (List Int)) (xs : List Int) (v u : Value) (w : World) (hv : Rw w v L) (hu : Sl w u (intVals xs)) :
    Calls Tryz.prog 20 #[v, u] w (Quiet w (.bool (decide (xs ∈ L)))) := by
  have HV := Lib.hid hv
  have HU := Lib.hid hu
  obtain ⟨a, c, rfl, hm, _⟩ := hv.shape
  unfold maxLen at hm
  clear hv hu
  go_enter Tryz.func20, Tryz.ntmps20
  go_wp2
  go_loopw [5] (fun i wr => ∃ k : Nat, k ≤ L.length ∧ i = .int .i64 k ∧ (∀ j, j < k → L[j]? ≠ some xs) ∧ Below w.heap.size w wr) (fun i _ => L.length - (RowKit.intOf i).toNat)
  case atStart => exact ⟨0, Nat.zero_le _, rfl, fun j h => by omega, Below.refl _ _⟩
  case round =>
    obtain ⟨k, hk, rfl, heq, hbr⟩ := hrel
    have HB := Lib.hid hbr
    have HE := Lib.hid heq
    clear heq hbr
    by_cases hlt : k < L.length
    · obtain ⟨b, off, r, rfl, hb2, hcell, hsr⟩ := HV.out.row k hlt rfl
      rw [← HB.out.cell (p := ⟨b, off + k, none⟩) hb2] at hcell
      have HR := Lib.hid hsr
      obtain ⟨y, ey⟩ : ∃ y, L[k] = y := ⟨_, rfl⟩
      rw [ey] at HR
      have EY := Lib.hid (show L[k]? = some y by rw [List.getElem?_eq_getElem hlt, ey])
      have i1 : (0 : Int) ≤ (k : Int) := by omega
      have i2 : (k : Int) < (L.length : Int) := by omega
      clear hsr ey
      go_wp2_with fail
      refine (same_dec y xs _ _ _ (HR.out.below HB.out) (HU.out.below HB.out)).mono ?_
      rintro e w1 ⟨rfl, hb1⟩
      have HB1 := Lib.hid (HB.out.trans (hb1.mono HB.out.size))
      clear hb1 hcell
      by_cases e : y = xs
      · subst e
        rw [show decide (y = y) = true from decide_eq_true rfl]
        have DT := Lib.hid (show decide (y ∈ L) = true by rw [decide_eq_true_eq]; exact List.mem_of_getElem? EY.out)
        go_wp2_with fail
        go_ret
        exact ⟨by rw [DT.out]; rfl, HB1.out⟩
      · rw [show decide (y = xs) = false from decide_eq_false e]
        have NE := Lib.hid e
        clear e
        go_wp2_with fail
        exact ⟨⟨k + 1, by omega, by go_num, fun j hj => by
          by_cases h : j < k
          · exact HE.out j h
          · obtain rfl : j = k := by omega
            rw [EY.out]
            intro h2
            exact NE.out (Option.some.inj h2), HB1.out⟩, by simp [RowKit.intOf]; omega⟩
    · obtain rfl : k = L.length := by omega
      have DF := Lib.hid (show decide (xs ∈ L) = false by
        rw [decide_eq_false_iff_not]
        intro h
        obtain ⟨j, hj, e⟩ := List.mem_iff_getElem.1 h
        exact HE.out j hj (by rw [List.getElem?_eq_getElem hj, e]))
      go_wp2
      go_ret
      exact ⟨by rw [DF.out]; rfl, HB.out⟩
end Go.Proofs.YtjijgagdaolkcaaGreat
