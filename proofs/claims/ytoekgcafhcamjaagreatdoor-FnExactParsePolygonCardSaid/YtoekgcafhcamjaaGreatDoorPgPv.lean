/- A polygon read from a text, plain. -/
import Derived.Test.YtoekgcafhcamjaaGreatDoorMat
import Derived.Test.YtoekgcafhcamjaaGreatDoorPv
namespace Go.Proofs.YtoekgcafhcamjaaGreatDoor
open Go.RowKit Go.Lib

/-- The rows that the parts name; whether each part names one. -/
def rwB (ps : List ByteArray) : List (List Int) := ps.map fun x => (parsV x.data.toList).1
def rwOk (ps : List ByteArray) : Bool := ps.all fun x => (parsV x.data.toList).2
theorem rwB_len (ps : List ByteArray) : (rwB ps).length = ps.length := by simp [rwB]
theorem rwB_take {ps : List ByteArray} {k : Nat} (h : k < ps.length) : rwB (ps.take (k + 1)) = rwB (ps.take k) ++ [(parsV ps[k].data.toList).1] := by
  unfold rwB
  rw [List.take_succ_eq_append_getElem h, List.map_append]; rfl
theorem rwOk_take {ps : List ByteArray} {k : Nat} (h : k < ps.length) (h1 : rwOk (ps.take k) = true) (h2 : (parsV ps[k].data.toList).2 = true) : rwOk (ps.take (k + 1)) = true := by
  unfold rwOk at h1 ⊢
  rw [List.take_succ_eq_append_getElem h, List.all_append, h1]
  simp only [List.all_cons, List.all_nil, Bool.and_true, Bool.true_and]
  exact h2
theorem rwOk_not {ps : List ByteArray} {k : Nat} (h : k < ps.length) (h2 : (parsV ps[k].data.toList).2 = false) : rwOk ps = false := by
  unfold rwOk
  rw [List.all_eq_false]
  exact ⟨ps[k], List.getElem_mem h, by rw [h2]; simp⟩
/-- What ParsePolygon answers. -/
def parsPL (ps : List ByteArray) : List (List Int) × Bool := if rwOk ps = true ∧ polyR (rwB ps) = true then (rwB ps, true) else ([], false)
def parsPg (l : List UInt8) : List (List Int) × Bool := parsPL (parts 32 l)
theorem parsPL_not {ps : List ByteArray} (h : rwOk ps = false) : parsPL ps = ([], false) := if_neg (by rw [h]; simp)
theorem parsPL_off {ps : List ByteArray} (h : polyR (rwB ps) = false) : parsPL ps = ([], false) := if_neg (by rw [h]; simp)
theorem parsPL_many {ps : List ByteArray} {k : Nat} (h : k < ps.length) (h2 : 12 ≤ k) : parsPL ps = ([], false) := by
  refine if_neg fun c => ?_
  have := (polyR_shape c.2).2.1
  rw [rwB_len] at this
  omega
theorem parsPL_t {ps : List ByteArray} (h : rwOk ps = true) (h2 : polyR (rwB ps) = true) : parsPL ps = (rwB ps, true) := if_pos ⟨h, h2⟩
theorem tot_two : ∀ (p : List (List Int)), (∀ v ∈ p, v.length = 2) → tot p = 2 * p.length
  | [], _ => rfl
  | x :: r, h => by
    have h1 := h x (List.mem_cons_self ..)
    have ih := tot_two r (fun v hv => h v (List.mem_cons_of_mem _ hv))
    unfold tot at ih ⊢
    rw [List.map_cons, List.sum_cons, ih, h1, List.length_cons]; omega
theorem parsPg_tot (l : List UInt8) : tot (parsPg l).1 ≤ 24 := by
  unfold parsPg parsPL
  split
  · rename_i h
    have h0 := polyR_shape h.2
    show tot (rwB (parts 32 l)) ≤ 24
    rw [tot_two _ fun v hv => (flatR_t h0.2.2 v hv).1]
    have := h0.2.1
    omega
  · simp [tot]
theorem gotR_pv {w : World} {r r' : List (List Int) × Bool} {e : Ending} {w' : World} (h : r' = r) (g : GotR w r e w') : GotR w r' e w' := by subst h; exact g

set_option maxRecDepth 100000 in
set_option maxHeartbeats 1600000 in
theorem s_parspg (s : ByteArray) (hs : s.size ≤ 1048576) (w : World) :
    Calls Tryz.prog 24 #[.string s] w (GotR w (parsPg s.data.toList)) := by
  have HS := Lib.hid (ssplit s 32 hs)
  have hps := parts_size (c := 32) s.data.toList
  have hpn : (parts 32 s.data.toList).length ≤ 1048577 := by
    rw [parts_len]
    have := sp_len_le 32 s.data.toList
    rw [list_len] at this; omega
  unfold parsPg
  rw [list_len] at hps
  generalize parts 32 s.data.toList = ps at HS hps hpn ⊢
  have HP := Lib.hid hps
  clear hps
  have B0 := Lib.hid (Below.refl w.heap.size w)
  go_enter Tryz.func24, Tryz.ntmps24
  go_wp2_with fail
  refine (HS.out _).mono ?_
  rintro e w1 ⟨⟨v1, rfl, ho1⟩, hb1⟩
  have B1 := Lib.hid ((B0.out.alloc (Nat.le_refl _) _).trans (hb1.mono (by simp)))
  have hown := (OwnV.of_owns ho1)
  have hsl := hown.sl
  obtain ⟨a, c, rfl, hm, _⟩ := hsl.shape
  rw [strVals_len] at hown ⊢
  have HOW := Lib.hid (hown.mono (lo' := w.heap.size + 1) (by simp) (Nat.le_refl _))
  have HE := Lib.hid (show OwR 30 3 w.heap.size w1.heap.size w1 (.slice (some ⟨w.heap.size, 0, none⟩) 0 0) [] from ((owr_none0 (e := 3) (owns_none (e := 30) (Nat.le_refl w.heap.size))).below hb1).mono (Nat.le_refl _) hb1.size)
  have hsz1 : w.heap.size < w1.heap.size := by have := hb1.size; simp at this; omega
  clear ho1 hb1 hsl hown hm
  go_wp2_with fail
  go_loopw [4, 6] (fun o i wr => ∃ (k g cap : Nat), k ≤ ps.length ∧ i = .int .i64 k ∧ o = .slice (some ⟨g, 0, none⟩) k cap ∧ (g = w.heap.size ∨ w1.heap.size ≤ g) ∧ OwR 30 3 w.heap.size wr.heap.size wr o (rwB (ps.take k)) ∧ rwOk (ps.take k) = true ∧ Below w.heap.size w wr ∧ w1.heap.size ≤ wr.heap.size ∧ Mid (w.heap.size + 1) w1.heap.size w1 wr) (fun _ i _ => ps.length - (RowKit.intOf i).toNat)
  case atStart => exact ⟨0, w.heap.size, 0, Nat.zero_le _, rfl, rfl, .inl rfl, HE.out, rfl, B1.out, Nat.le_refl _, Mid.refl _ _ _⟩
  case round =>
    obtain ⟨k, g, cap, hk, rfl, rfl, hg, how, hok, hbr, hsz, hmid⟩ := hrel
    have HW := Lib.hid how
    have HB := Lib.hid hbr
    have HM := Lib.hid hmid
    have HK := Lib.hid hok
    have HP2 := Lib.hid (HOW.out.mid hmid)
    have HG := Lib.hid hg
    clear how hbr hmid hok hg
    by_cases hlt : k < ps.length
    · obtain ⟨a', c', e', _, hopen⟩ := HP2.out.sl.shape
      rw [strVals_len] at hopen
      obtain ⟨b, off, rfl, hc, hlt2, hx⟩ := hopen (by omega)
      simp only [Value.slice.injEq] at e'
      obtain ⟨rfl, hee, rfl⟩ := e'
      clear hee
      have hcell := hx k _ (strVals_get ps k hlt)
      have hsz2 : ps[k].size ≤ s.size := HP.out _ (List.getElem_mem hlt)
      have FT := Lib.hid (rwB_take hlt)
      have HR := Lib.hid (s_pars ps[k] (by omega))
      have HN := Lib.hid (fun h => rwOk_not hlt h)
      have HY := Lib.hid (fun h => rwOk_take hlt HK.out h)
      have HMY := Lib.hid (fun h => parsPL_many hlt h)
      have RL := Lib.hid (show (rwB (ps.take k)).length = k by rw [rwB_len, List.length_take]; omega)
      clear hx hopen
      generalize parsV ps[k].data.toList = q at HR FT HN HY
      obtain ⟨ql, qb⟩ := q
      simp only at FT HN HY
      go_wp2_with fail
      refine (HR.out _).mono ?_
      rintro e w2 ⟨⟨v2, rfl, ho2⟩, hb2⟩
      have HB2 := Lib.hid (HB.out.trans (hb2.mono HB.out.size))
      have HW2 := Lib.hid (HW.out.below hb2)
      have HM2 := Lib.hid (HM.out.trans (Mid.of_below hb2 hsz))
      have HO2 := Lib.hid ho2
      have Z2 := Lib.hid hb2.size
      obtain ⟨a2, c2, rfl, hm2⟩ := ho2.shape1
      rw [intVals_len] at hm2 HO2 ⊢
      simp only at HO2 hm2 ⊢
      clear ho2 hb2
      cases qb
      · have HF := Lib.hid (parsPL_not (HN.out rfl))
        go_wp2
        go_ret2
        exact gotR_pv HF.out ⟨⟨_, rfl, owr_none0 (owns_none HB2.out.size)⟩, HB2.out.trans ((below1 _ _).mono HB2.out.size)⟩
      · have HY2 := Lib.hid (HY.out rfl)
        by_cases hk12 : 12 ≤ k
        · have HF := Lib.hid (HMY.out hk12)
          have i3 : (12 : Int) ≤ (k : Int) := by omega
          go_wp2
          go_ret2
          exact gotR_pv HF.out ⟨⟨_, rfl, owr_none0 (owns_none HB2.out.size)⟩, HB2.out.trans ((below1 _ _).mono HB2.out.size)⟩
        · have i3 : ¬ (12 : Int) ≤ (k : Int) := by omega
          have nb := below1 w2 (.cells #[.slice a2 ql.length c2] 30)
          have HU := Lib.hid ((HO2.out.below nb).mono (Nat.le_refl _) nb.size)
          have HW3 := Lib.hid (HW2.out.below nb)
          have HB3 := Lib.hid (HB2.out.trans (nb.mono HB2.out.size))
          have HM3 := Lib.hid (HM2.out.trans (Mid.of_below (lo := w.heap.size + 1) nb (Nat.le_trans hsz Z2.out)))
          have C3 := Lib.hid (Nat.le_trans Z2.out nb.size)
          clear nb
          go_wp2_with (at_builtin; go_must (refine list_app_row2 rfl _ _ rfl w.heap.size wr.heap.size _ (.slice a2 ql.length c2) (rwB (ps.take k)) ql rfl HW3.out HU.out w2.heap.size rfl (heap_alloc_new w2 _) (by rw [RL.out]; omega) HB.out.size C3.out ?_; intro g3 cap3 w3 hown3 hbel3 hat3 hgrow3; have HO3 := Lib.hid hown3; have HG3 := Lib.hid hgrow3; have HA3 := Lib.hid hat3; have HL3 := Lib.hid hbel3; clear hown3 hgrow3 hat3 hbel3))
          have hgr := HG3.out
          have hne : ∀ q, (Value.slice (some ⟨g, 0, none⟩) k cap).ownBlock = some q → q = g := fun q h => by simpa [Value.ownBlock] using h.symm
          have hg := HG.out
          have hz := C3.out
          rw [RL.out]
          refine ⟨⟨k + 1, g3, cap3, by omega, by go_num, rfl, ?_, ?_, HY2.out, HB3.out.trans HL3.out, ?_, ?_⟩, by simp [RowKit.intOf]; omega⟩
          · rcases HA3.out with h | h
            · have := hne g3 h; omega
            · right; omega
          · rw [FT.out]
            have h := HO3.out
            rw [RL.out] at h
            exact h
          · have := hgr.size; omega
          · exact HM3.out.trans (Mid.grown hgr (by omega) (fun q hq => by have := hne q hq; omega))
    · obtain rfl : k = ps.length := by omega
      have hk2 := HK.out
      have hw2 := HW.out
      rw [List.take_length] at hk2 hw2
      have HK2 := Lib.hid hk2
      have HW2 := Lib.hid hw2
      have RL := Lib.hid (rwB_len ps)
      have HRW := Lib.hid (show Rw wr (.slice (some ⟨g, 0, none⟩) ps.length cap) (rwB ps) from hw2.rw)
      clear hk2 hw2
      by_cases hv : polyR (rwB ps) = true
      · have E := Lib.hid hv
        have EV := Lib.hid (parsPL_t HK2.out hv)
        clear hv
        go_wp2_with fail
        refine (s_ispoly (rwB ps) _ _ HRW.out).mono ?_
        rintro e w2 ⟨rfl, hb2⟩
        rw [E.out]
        have HB2 := Lib.hid (HB.out.trans (hb2.mono HB.out.size))
        have HW3 := Lib.hid ((HW2.out.below hb2).mono (Nat.le_refl _) hb2.size)
        clear hb2
        go_wp2
        go_ret2
        exact gotR_pv EV.out ⟨⟨_, rfl, HW3.out⟩, HB2.out⟩
      · have E := Lib.hid (bool_f hv)
        have EV := Lib.hid (parsPL_off E.out)
        clear hv
        go_wp2_with fail
        refine (s_ispoly (rwB ps) _ _ HRW.out).mono ?_
        rintro e w2 ⟨rfl, hb2⟩
        rw [E.out]
        have HB2 := Lib.hid (HB.out.trans (hb2.mono HB.out.size))
        clear hb2
        go_wp2
        go_ret2
        exact gotR_pv EV.out ⟨⟨_, rfl, owr_none0 (owns_none HB2.out.size)⟩, HB2.out.trans ((below1 _ _).mono HB2.out.size)⟩

set_option maxRecDepth 100000 in
set_option maxHeartbeats 1600000 in
theorem i_parspg (s : ByteArray) (hs : s.size ≤ 1048576) (w : World) (hv : Vars w) (hx : HasMax w) :
    Calls Tryz.prog 25 #[.string s] w (GotR w (parsPg s.data.toList)) := by
  have HV := Lib.hid hv
  have HMX := Lib.hid hx
  have HS := Lib.hid (isplit s 32 hs w hx)
  have hps := parts_size (c := 32) s.data.toList
  have hpn : (parts 32 s.data.toList).length ≤ 1048577 := by
    rw [parts_len]
    have := sp_len_le 32 s.data.toList
    rw [list_len] at this; omega
  unfold parsPg
  rw [list_len] at hps
  generalize parts 32 s.data.toList = ps at HS hps hpn ⊢
  have HP := Lib.hid hps
  clear hps hv hx
  go_enter Tryz.func25, Tryz.ntmps25
  go_wp2_with fail
  refine HS.out.mono ?_
  rintro e w1 ⟨⟨v1, rfl, ho1⟩, hb1⟩
  have B1 := Lib.hid hb1
  have HSL := Lib.hid (Sl.of_owns ho1)
  clear ho1 hb1
  go_wp2_with fail
  go_loopw [4, 12] (fun o i wr => ∃ k : Nat, k ≤ ps.length ∧ i = .int .i64 k ∧ OwR 30 3 w1.heap.size wr.heap.size wr o (rwB (ps.take k)) ∧ rwOk (ps.take k) = true ∧ Below w1.heap.size w1 wr) (fun _ i _ => ps.length - (RowKit.intOf i).toNat)
  case atStart => exact ⟨0, Nat.zero_le _, rfl, OwR.nil, rfl, Below.refl _ _⟩
  case round =>
    obtain ⟨k, hk, rfl, how, hok, hbr⟩ := hrel
    have RL := Lib.hid (show (rwB (ps.take k)).length = k by rw [rwB_len, List.length_take]; omega)
    obtain ⟨oa, oc, rfl, _⟩ := how.rw.shape
    have HW := Lib.hid how
    have HB := Lib.hid hbr
    have HA := Lib.hid (B1.out.trans (hbr.mono B1.out.size))
    have HK := Lib.hid hok
    rw [RL.out] at HW ⊢
    clear how hbr hok
    by_cases hlt : k < ps.length
    · obtain ⟨a', c', e', _, hopen⟩ := (HSL.out.below HB.out).shape
      rw [strVals_len] at hopen e'
      obtain ⟨b, off, rfl, hc, hlt2, hx⟩ := hopen (by omega)
      simp only [Value.slice.injEq, Option.some.injEq, Addr.mk.injEq] at e'
      obtain ⟨⟨rfl, rfl, -⟩, -, -⟩ := e'
      have hcell := hx k _ (strVals_get ps k hlt)
      rw [Nat.zero_add] at hcell
      have hsz2 : ps[k].size ≤ s.size := HP.out _ (List.getElem_mem hlt)
      have i1 : (0 : Int) ≤ (k : Int) := by omega
      have i2 : (k : Int) < (ps.length : Int) := by omega
      have FT := Lib.hid (rwB_take hlt)
      have HR := Lib.hid (i_pars ps[k] (by omega))
      have HN := Lib.hid (fun h => rwOk_not hlt h)
      have HY := Lib.hid (fun h => rwOk_take hlt HK.out h)
      clear hx hopen hc
      generalize parsV ps[k].data.toList = q at HR FT HN HY
      obtain ⟨ql, qb⟩ := q
      simp only at FT HN HY
      go_wp2_with fail
      refine (HR.out _ (HV.out.below HA.out) (HMX.out.below HA.out)).mono ?_
      rintro e w2 ⟨⟨v2, rfl, ho2⟩, hb2⟩
      have HB2 := Lib.hid (HB.out.trans (hb2.mono HB.out.size))
      have HA2 := Lib.hid (HA.out.trans (hb2.mono HA.out.size))
      have HW2 := Lib.hid (HW.out.below hb2)
      have HO2 := Lib.hid ho2
      have Z2 := Lib.hid hb2.size
      obtain ⟨a2, c2, rfl, hm2⟩ := ho2.shape1
      rw [intVals_len] at hm2 HO2 ⊢
      simp only at HO2 hm2 ⊢
      clear ho2 hb2 hcell
      cases qb
      · have HF := Lib.hid (parsPL_not (HN.out rfl))
        go_wp2
        go_ret2
        exact gotR_pv HF.out ⟨⟨_, rfl, OwR.nil⟩, HA2.out⟩
      · have HY2 := Lib.hid (HY.out rfl)
        have nb := below1 w2 (.cells #[.slice a2 ql.length c2] 30)
        have HU := Lib.hid ((HO2.out.below nb).mono (Nat.le_refl _) nb.size)
        have HW3 := Lib.hid (HW2.out.below nb)
        have HB3 := Lib.hid (HB2.out.trans (nb.mono HB2.out.size))
        have C3 := Lib.hid (Nat.le_trans Z2.out nb.size)
        clear nb
        go_wp2_with (at_builtin; go_must (refine list_app_row rfl _ _ rfl w1.heap.size wr.heap.size _ (.slice a2 ql.length c2) (rwB (ps.take k)) ql rfl HW3.out HU.out w2.heap.size rfl (heap_alloc_new w2 _) (by rw [RL.out]; omega) HB.out.size C3.out ?_; intro g3 cap3 w3 hown3 hbel3; have HO3 := Lib.hid hown3; have HL3 := Lib.hid hbel3; clear hown3 hbel3))
        refine ⟨⟨k + 1, by omega, by go_num, ?_, HY2.out, HB3.out.trans HL3.out⟩, by simp [RowKit.intOf]; omega⟩
        rw [FT.out]
        exact HO3.out
    · obtain rfl : k = ps.length := by omega
      have hk2 := HK.out
      have hw2 := HW.out
      rw [List.take_length] at hk2 hw2
      have HK2 := Lib.hid hk2
      have HW2 := Lib.hid (hw2.mono (lo' := w.heap.size) B1.out.size (Nat.le_refl _))
      have HRW := Lib.hid (show Rw wr (.slice oa ps.length oc) (rwB ps) from hw2.rw)
      clear hk2 hw2
      by_cases hv : polyR (rwB ps) = true
      · have E := Lib.hid hv
        have EV := Lib.hid (parsPL_t HK2.out hv)
        clear hv
        go_wp2_with fail
        refine (i_ispoly (rwB ps) _ _ HRW.out).mono ?_
        rintro e w2 ⟨rfl, hb2⟩
        rw [E.out]
        have HA2 := Lib.hid (HA.out.trans (hb2.mono HA.out.size))
        have HW3 := Lib.hid ((HW2.out.below hb2).mono (Nat.le_refl _) hb2.size)
        clear hb2
        go_wp2
        go_ret2
        exact gotR_pv EV.out ⟨⟨_, rfl, HW3.out⟩, HA2.out⟩
      · have E := Lib.hid (bool_f hv)
        have EV := Lib.hid (parsPL_off E.out)
        clear hv
        go_wp2_with fail
        refine (i_ispoly (rwB ps) _ _ HRW.out).mono ?_
        rintro e w2 ⟨rfl, hb2⟩
        rw [E.out]
        have HA2 := Lib.hid (HA.out.trans (hb2.mono HA.out.size))
        clear hb2
        go_wp2
        go_ret2
        exact gotR_pv EV.out ⟨⟨_, rfl, OwR.nil⟩, HA2.out⟩
end Go.Proofs.YtoekgcafhcamjaaGreatDoor
