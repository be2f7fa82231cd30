/- Lists of rows that are the same, on both sides; both IsPolygon. -/
import Derived.Test.YtckpifcdlmfabaaPgU
import Derived.Test.YtckpifcdlmfabaaPgF
import Derived.Test.YtckpifcdlmfabaaPgL0
namespace Go.Proofs.Ytckpifcdlmfabaa
open Go.RowKit Go.Lib

theorem Rw.cells {w : World} {a : Option Addr} {n c : Nat} {l : List (List Int)} (h : Rw w (.slice a n c) l) (k : Nat) (hk : k < l.length) : ∃ (b off : Nat) (x : Value), a = some ⟨b, off, none⟩ ∧ b < w.heap.size ∧ w.cell? ⟨b, off + k, none⟩ = some x ∧ Sl w x (intVals l[k]) := by
  obtain ⟨a', c', e, _, ho⟩ := h.shape
  simp only [Value.slice.injEq] at e
  obtain ⟨rfl, rfl, rfl⟩ := e
  obtain ⟨b, off, u, h1, _, h2, h3, h4⟩ := ho k _ (List.getElem?_eq_getElem hk)
  exact ⟨b, off, u, h1, h2, h3, h4⟩
set_option maxRecDepth 100000 in
set_option maxHeartbeats 1600000 in
theorem i_eqrows (hs ks : List (List Int)) (v u : Value) (w : World) (hv : Rw w v hs) (hu : Rw w u ks) :
    Calls Try.prog 76 #[v, u, .func (.func 77) #[] #[]] w (Quiet w (.bool (decide (hs = ks)))) := by
  have HX := Lib.hid hv
  have HY := Lib.hid hu
  obtain ⟨a, c, rfl, hm, _⟩ := hv.shape
  obtain ⟨b, d, rfl, _, _⟩ := hu.shape
  unfold maxLen at hm
  clear hv hu
  by_cases hl : hs.length = ks.length
  case neg =>
    have E := Lib.hid (show ¬ hs = ks from fun e => hl (by rw [e]))
    have hne3 : ((hs.length : Int) == (ks.length : Int)) = false := by rw [beq_eq_false_iff_ne]; omega
    have hne4 : ((hs.length : Int) != (ks.length : Int)) = true := by rw [bne_iff_ne]; omega
    have hne5 : (hs.length == ks.length) = false := by rw [beq_eq_false_iff_ne]; exact hl
    have hne6 : (hs.length != ks.length) = true := by rw [bne_iff_ne]; exact hl
    go_enter Try.func76, Try.ntmps76
    go_wp2
    go_ret
    exact ⟨ret_bool (decide_eq_false E.out).symm, Below.refl _ _⟩
  have HL := Lib.hid hl
  rw [← hl] at HY ⊢
  clear hl
  go_enter Try.func76, Try.ntmps76
  go_wp2
  go_loopw [7, 17] (fun _ i wr => ∃ k : Nat, k ≤ hs.length ∧ i = .int .i64 k ∧ hs.take k = ks.take k ∧ Below w.heap.size w wr) (fun _ i _ => hs.length - (RowKit.intOf i).toNat)
  case atStart => exact ⟨0, Nat.zero_le _, rfl, rfl, Below.refl _ _⟩
  case round =>
    obtain ⟨k, hk, rfl, ht, hbr⟩ := hrel
    have HT := Lib.hid ht
    have HA := Lib.hid hbr
    clear ht
    by_cases hlt : k < hs.length
    · have hlt' : k < ks.length := by have := HL.out; omega
      have i1 : (0 : Int) ≤ (k : Int) := by omega
      have i2 : (k : Int) < (hs.length : Int) := by omega
      obtain ⟨b1, o1, x, rfl, hb2, hcell, hsx⟩ := HX.out.cells k hlt
      obtain ⟨b2, o2, y, rfl, hb2', hcell', hsy⟩ := HY.out.cells k hlt'
      rw [← HA.out.cell (p := ⟨b1, o1 + k, none⟩) hb2] at hcell
      rw [← HA.out.cell (p := ⟨b2, o2 + k, none⟩) hb2'] at hcell'
      have QX := Lib.hid (hsx.below HA.out)
      have QY := Lib.hid (hsy.below HA.out)
      obtain ⟨xa, xc, rfl, _⟩ := hsx.shape
      obtain ⟨ya, yc, rfl, _⟩ := hsy.shape
      clear hsx hsy hbr
      obtain ⟨q, hq⟩ : ∃ q : Bool, decide (hs[k] = ks[k]) = q := ⟨_, rfl⟩
      have HQ := Lib.hid hq
      clear hq
      go_wp2_with fail
      refine (i_sameP hs[k] ks[k] _ _ _ QX.out QY.out).mono ?_
      rintro e w1 ⟨rfl, hb1⟩
      rw [HQ.out]
      have HB1 := Lib.hid (HA.out.trans (hb1.mono HA.out.size))
      clear hb1 hcell hcell'
      cases q with
      | true =>
        go_wp2
        exact ⟨⟨k + 1, by omega, by go_num, takeEqStep hlt hlt' HT.out (of_decide_eq_true HQ.out), HB1.out⟩, by simp [RowKit.intOf]; omega⟩
      | false =>
        go_wp2
        go_ret
        exact ⟨ret_bool (decide_eq_false (getNe hlt hlt' (of_decide_eq_false HQ.out))).symm, HB1.out⟩
    · obtain rfl : k = hs.length := by omega
      have E := Lib.hid (takeAllEq HL.out rfl HT.out)
      clear hbr
      go_wp2
      go_ret
      exact ⟨ret_bool (decide_eq_true E.out).symm, HA.out⟩
set_option maxRecDepth 100000 in
set_option maxHeartbeats 1600000 in
theorem s_samelist (hs ks : List (List Int)) (v u : Value) (w : World) (hv : Rw w v hs) (hu : Rw w u ks) :
    Calls Try.prog 75 #[v, u] w (Quiet w (.bool (decide (hs = ks)))) := by
  have HX := Lib.hid hv
  have HY := Lib.hid hu
  obtain ⟨a, c, rfl, hm, _⟩ := hv.shape
  obtain ⟨b, d, rfl, _, _⟩ := hu.shape
  unfold maxLen at hm
  clear hv hu
  by_cases hl : hs.length = ks.length
  case neg =>
    have E := Lib.hid (show ¬ hs = ks from fun e => hl (by rw [e]))
    have hne3 : ((hs.length : Int) == (ks.length : Int)) = false := by rw [beq_eq_false_iff_ne]; omega
    have hne4 : ((hs.length : Int) != (ks.length : Int)) = true := by rw [bne_iff_ne]; omega
    have hne5 : (hs.length == ks.length) = false := by rw [beq_eq_false_iff_ne]; exact hl
    have hne6 : (hs.length != ks.length) = true := by rw [bne_iff_ne]; exact hl
    go_enter Try.func75, Try.ntmps75
    go_wp2
    go_ret
    exact ⟨ret_bool (decide_eq_false E.out).symm, Below.refl _ _⟩
  have HL := Lib.hid hl
  rw [← hl] at HY ⊢
  clear hl
  go_enter Try.func75, Try.ntmps75
  go_wp2
  go_loopw [5] (fun i wr => ∃ k : Nat, k ≤ hs.length ∧ i = .int .i64 k ∧ hs.take k = ks.take k ∧ Below w.heap.size w wr) (fun i _ => hs.length - (RowKit.intOf i).toNat)
  case atStart => exact ⟨0, Nat.zero_le _, rfl, rfl, Below.refl _ _⟩
  case round =>
    obtain ⟨k, hk, rfl, ht, hbr⟩ := hrel
    rename World => w2
    have HT := Lib.hid ht
    have HA := Lib.hid hbr
    clear ht
    by_cases hlt : k < hs.length
    · have hlt' : k < ks.length := by have := HL.out; omega
      have i1 : (0 : Int) ≤ (k : Int) := by omega
      have i2 : (k : Int) < (hs.length : Int) := by omega
      obtain ⟨b1, o1, x, rfl, hb2, hcell, hsx⟩ := HX.out.cells k hlt
      obtain ⟨b2, o2, y, rfl, hb2', hcell', hsy⟩ := HY.out.cells k hlt'
      rw [← HA.out.cell (p := ⟨b1, o1 + k, none⟩) hb2] at hcell
      rw [← HA.out.cell (p := ⟨b2, o2 + k, none⟩) hb2'] at hcell'
      have QX := Lib.hid hsx
      have QY := Lib.hid hsy
      obtain ⟨xa, xc, rfl, _⟩ := hsx.shape
      obtain ⟨ya, yc, rfl, _⟩ := hsy.shape
      have h1 : b1 < w2.heap.size := Nat.lt_of_lt_of_le hb2 hbr.size
      have h2 : b2 < w2.heap.size := Nat.lt_of_lt_of_le hb2' hbr.size
      clear hsx hsy hbr hb2 hb2'
      obtain ⟨q, hq⟩ : ∃ q : Bool, decide (hs[k] = ks[k]) = q := ⟨_, rfl⟩
      have HQ := Lib.hid hq
      have hbr : Below w2.heap.size w2 w2 := Below.refl _ _
      clear hq
      go_wp2_with fail
      go_region_held3 (fun w' => w'.cell? ⟨b1, o1 + k, none⟩ = some (.slice xa (intVals hs[k]).length xc) ∧ w'.cell? ⟨b2, o2 + k, none⟩ = some (.slice ya (intVals ks[k]).length yc) ∧ Below w2.heap.size w2 w')
        (first
          | with_reducible exact keepP2 hcell hcell' hbr
          | (go_split_ands; with_reducible exact keepQ2 h1 h2 (by assumption) (by assumption) (by assumption) (by assumption))
          | go_keep)
        (first | (go_at_call 110; refine (s_sameP hs[k] ks[k] _ _ _ (QX.out.below HA.out.drew) (QY.out.below HA.out.drew)).mono ?_; rintro e w3 ⟨rfl, hb3⟩; rw [HQ.out]))
      rename_i hH
      have HB1 := Lib.hid (HA.out.trans (hH.2.2.mono HA.out.size))
      clear hH hbr hcell hcell'
      cases q with
      | true =>
        go_wp2
        exact ⟨⟨k + 1, by omega, by go_num, takeEqStep hlt hlt' HT.out (of_decide_eq_true HQ.out), HB1.out⟩, by simp [RowKit.intOf]; omega⟩
      | false =>
        go_wp2
        go_ret
        exact ⟨ret_bool (decide_eq_false (getNe hlt hlt' (of_decide_eq_false HQ.out))).symm, HB1.out⟩
    · obtain rfl : k = hs.length := by omega
      have E := Lib.hid (takeAllEq HL.out rfl HT.out)
      clear hbr
      go_wp2
      go_ret
      exact ⟨ret_bool (decide_eq_true E.out).symm, HA.out⟩

/-- What IsPolygon answers. -/
def polyR (p : List (List Int)) : Bool := decide (hullR p = (p, true))
theorem polyR_t {p : List (List Int)} (h : polyR p = true) : hullR p = (p, true) := of_decide_eq_true h
theorem hull_shape {p : List (List Int)} (h : (hullR p).2 = true) : p.length ≤ 200 ∧ flatR p = true ∧ 3 ≤ (hullR p).1.length ∧ (hullR p).1.length ≤ 12 := by
  unfold hullR hullP at h ⊢
  simp only at h ⊢
  split at h
  · cases h
  · rename_i h1
    rw [if_neg h1]
    split at h
    · cases h
    · rename_i h2
      rw [if_neg h2]
      unfold cornR at h ⊢
      split at h
      · cases h
      · rename_i h3
        rw [if_neg h3, List.length_map]
        refine ⟨by omega, ?_, by simp only; omega, by simp only; omega⟩
        cases hf : flatR p with
        | true => rfl
        | false => exact absurd (Or.inr (by rw [hf]; simp)) h1
theorem polyR_shape {p : List (List Int)} (h : polyR p = true) : 3 ≤ p.length ∧ p.length ≤ 12 ∧ flatR p = true := by
  have e := polyR_t h
  have k := hull_shape (p := p) (by rw [e])
  rw [e] at k
  exact ⟨k.2.2.1, k.2.2.2, k.2.1⟩
theorem polyR_of {p : List (List Int)} {q : Bool} (h : (hullR p).2 = true) (e : decide (p = (hullR p).1) = q) : polyR p = q := by
  rw [← e]
  unfold polyR
  exact decide_eq_decide.2 ⟨fun k => by rw [k], fun k => Prod.ext k.symm h⟩
theorem polyR_no {p : List (List Int)} (h : (hullR p).2 = false) : polyR p = false := decide_eq_false fun k => by rw [k] at h; cases h
set_option maxRecDepth 100000 in
set_option maxHeartbeats 800000 in
theorem i_ispoly (p : List (List Int)) (v : Value) (w : World) (hv : Rw w v p) :
    Calls Try.prog 31 #[v] w (Quiet w (.bool (polyR p))) := by
  have HV := Lib.hid hv
  obtain ⟨ok, hok⟩ : ∃ ok, (hullR p).2 = ok := ⟨_, rfl⟩
  have HK := Lib.hid hok
  clear hv hok
  cases ok
  case false =>
    have HE := Lib.hid (polyR_no HK.out)
    go_enter Try.func31, Try.ntmps31
    go_wp2_with fail
    refine (i_hullof p v w HV.out).mono ?_
    rintro e w1 ⟨⟨u, rfl, ho⟩, hb⟩
    rw [HK.out]
    have HB := Lib.hid hb
    obtain ⟨ua, uc, rfl, _, _⟩ := ho.rw.shape
    clear ho hb
    go_wp2
    go_ret
    exact ⟨ret_bool HE.out.symm, HB.out⟩
  case true =>
    obtain ⟨q, hq⟩ : ∃ q : Bool, decide (p = (hullR p).1) = q := ⟨_, rfl⟩
    have HQ := Lib.hid hq
    have HE := Lib.hid (polyR_of HK.out hq)
    clear hq
    go_enter Try.func31, Try.ntmps31
    go_wp2_with fail
    refine (i_hullof p v w HV.out).mono ?_
    rintro e w1 ⟨⟨u, rfl, ho⟩, hb⟩
    rw [HK.out]
    have HB := Lib.hid hb
    have HO := Lib.hid ho.rw
    obtain ⟨ua, uc, rfl, _, _⟩ := ho.rw.shape
    clear ho hb
    go_wp2_with fail
    refine (i_eqrows p (hullR p).1 _ _ _ (HV.out.below HB.out) HO.out).mono ?_
    rintro e w2 ⟨rfl, hb2⟩
    rw [HQ.out]
    have HB2 := Lib.hid (HB.out.trans (hb2.mono HB.out.size))
    clear hb2
    go_wp2
    go_ret
    exact ⟨ret_bool HE.out.symm, HB2.out⟩
set_option maxRecDepth 100000 in
set_option maxHeartbeats 800000 in
theorem s_ispoly (p : List (List Int)) (v : Value) (w : World) (hv : Rw w v p) :
    Calls Try.prog 30 #[v] w (Quiet w (.bool (polyR p))) := by
  have HV := Lib.hid hv
  obtain ⟨a, c, rfl, hm, _⟩ := hv.shape
  unfold maxLen at hm
  clear hv
  by_cases c1 : 3 ≤ p.length ∧ p.length ≤ 12
  case neg =>
    have HI := Lib.hid (inR_f (x := (p.length : Int)) (lo := 3) (hi := 12) (fun h => c1 (by omega)))
    have HE := Lib.hid (show polyR p = false by
      cases hq : polyR p with
      | false => rfl
      | true => exact absurd ⟨(polyR_shape hq).1, (polyR_shape hq).2.1⟩ c1)
    clear c1
    go_enter Try.func30, Try.ntmps30
    go_wp2_with fail
    refine (s_in _ _ _ _).mono ?_
    rintro e w1 ⟨rfl, rfl⟩
    rw [HI.out]
    go_wp2
    go_ret
    exact ⟨ret_bool HE.out.symm, Below.refl _ _⟩
  have HI := Lib.hid (inR_mk (x := (p.length : Int)) (lo := 3) (hi := 12) (by omega) (by omega))
  clear c1
  by_cases c2 : flatR p = true
  case neg =>
    have C2 := Lib.hid (bool_f c2)
    have HE := Lib.hid (show polyR p = false by
      cases hq : polyR p with
      | false => rfl
      | true => exact absurd (polyR_shape hq).2.2 c2)
    clear c2
    go_enter Try.func30, Try.ntmps30
    go_wp2_with fail
    refine (s_in _ _ _ _).mono ?_
    rintro e w1 ⟨rfl, rfl⟩
    rw [HI.out]
    go_wp2_with fail
    refine (s_flat p _ _ HV.out).mono ?_
    rintro e w1 ⟨rfl, hb⟩
    rw [C2.out]
    have HB := Lib.hid hb
    clear hb
    go_wp2
    go_ret
    exact ⟨ret_bool HE.out.symm, HB.out⟩
  have C2 := Lib.hid c2
  clear c2
  obtain ⟨ok, hok⟩ : ∃ ok, (hullR p).2 = ok := ⟨_, rfl⟩
  have HK := Lib.hid hok
  clear hok
  cases ok
  case false =>
    have HE := Lib.hid (polyR_no HK.out)
    go_enter Try.func30, Try.ntmps30
    go_wp2_with fail
    refine (s_in _ _ _ _).mono ?_
    rintro e w1 ⟨rfl, rfl⟩
    rw [HI.out]
    go_wp2_with fail
    refine (s_flat p _ _ HV.out).mono ?_
    rintro e w1 ⟨rfl, hb⟩
    rw [C2.out]
    have HB := Lib.hid hb
    clear hb
    go_wp2_with fail
    refine (s_hullof p _ _ (HV.out.below HB.out)).mono ?_
    rintro e w2 ⟨⟨u, rfl, ho⟩, hb⟩
    rw [HK.out]
    have HB2 := Lib.hid (HB.out.trans (hb.mono HB.out.size))
    obtain ⟨ua, uc, rfl, _, _⟩ := ho.rw.shape
    clear ho hb
    go_wp2
    go_ret
    exact ⟨ret_bool HE.out.symm, HB2.out⟩
  case true =>
    obtain ⟨q, hq⟩ : ∃ q : Bool, decide (p = (hullR p).1) = q := ⟨_, rfl⟩
    have HQ := Lib.hid (show decide ((hullR p).1 = p) = q by rw [← hq]; exact decide_eq_decide.2 ⟨Eq.symm, Eq.symm⟩)
    have HE := Lib.hid (polyR_of HK.out hq)
    clear hq
    go_enter Try.func30, Try.ntmps30
    go_wp2_with fail
    refine (s_in _ _ _ _).mono ?_
    rintro e w1 ⟨rfl, rfl⟩
    rw [HI.out]
    go_wp2_with fail
    refine (s_flat p _ _ HV.out).mono ?_
    rintro e w1 ⟨rfl, hb⟩
    rw [C2.out]
    have HB := Lib.hid hb
    clear hb
    go_wp2_with fail
    refine (s_hullof p _ _ (HV.out.below HB.out)).mono ?_
    rintro e w2 ⟨⟨u, rfl, ho⟩, hb⟩
    rw [HK.out]
    have HB2 := Lib.hid (HB.out.trans (hb.mono HB.out.size))
    have HO := Lib.hid ho.rw
    obtain ⟨ua, uc, rfl, _, _⟩ := ho.rw.shape
    clear ho hb
    go_wp2_with fail
    refine (s_samelist (hullR p).1 p _ _ _ HO.out (HV.out.below HB2.out)).mono ?_
    rintro e w3 ⟨rfl, hb3⟩
    rw [HQ.out]
    have HB3 := Lib.hid (HB2.out.trans (hb3.mono HB2.out.size))
    clear hb3
    go_wp2
    go_ret
    exact ⟨ret_bool HE.out.symm, HB3.out⟩
end Go.Proofs.Ytckpifcdlmfabaa
