/- The program's halves and regions: what is one. -/
import Derived.Test.YtckpifcdlmfabaaVecK
import Derived.Test.YtckpifcdlmfabaaMaw
import Derived.Shelf.Abstract
namespace Go.Proofs.Ytckpifcdlmfabaa
open Go.RowKit Go.Lib

theorem inR_hi {x lo hi : Int} (h : ¬ x < lo) : inR x lo hi = decide (x ≤ hi) := by
  unfold inR
  exact decide_eq_decide.2 (by omega)

set_option maxRecDepth 100000 in
theorem i_nonormal (x : Int) (w : World) : Calls Try.prog 133 #[.int .i64 x] w fun e w' => e = .returned (.bool (!inR x (-20) 20)) ∧ w = w' := by
  by_cases h1 : x < -20
  · have h := Lib.hid (inR_f (x := x) (lo := -20) (hi := 20) (fun h => by omega))
    go_enter Try.func133, Try.ntmps133
    go_wp2
    go_ret
    exact ⟨ret_bool (by rw [h.out]; rfl), rfl⟩
  · by_cases h2 : 20 < x
    · have h := Lib.hid (inR_f (x := x) (lo := -20) (hi := 20) (fun h => by omega))
      go_enter Try.func133, Try.ntmps133
      go_wp2
      go_ret
      exact ⟨ret_bool (by rw [h.out]; rfl), rfl⟩
    · have h := Lib.hid (inR_mk (x := x) (lo := -20) (hi := 20) (by omega) (by omega))
      go_enter Try.func133, Try.ntmps133
      go_wp2
      go_ret
      exact ⟨ret_bool (by rw [h.out]; rfl), rfl⟩

/-- Where the first number lies that is no entry, or -1. -/
def IdxN (v : List Int) (w : World) (e : Ending) (w' : World) : Prop :=
  ((small v 20 = true ∧ e = .returned (.int .i64 (-1))) ∨ (small v 20 = false ∧ ∃ k : Nat, e = .returned (.int .i64 k))) ∧ Below w.heap.size w w'

set_option maxRecDepth 100000 in
set_option maxHeartbeats 400000 in
theorem i_indexn (v : List Int) (a : Value) (w : World) (hv : Sl w a (intVals v)) :
    Calls Try.prog 147 #[a, .func (.func 133) #[] #[]] w (IdxN v w) := by
  obtain ⟨a, c, rfl, hm, hopen⟩ := hv.shape
  rw [intVals_len] at hm hopen ⊢
  unfold maxLen at hm
  have HO := Lib.hid hopen
  clear hopen hv
  go_enter Try.func147, Try.ntmps147
  go_wp2
  go_loopw [5, 8] (fun _ i wr => ∃ k : Nat, k ≤ v.length ∧ i = .int .i64 k ∧ small (v.take k) 20 = true ∧ Below w.heap.size w wr) (fun _ i _ => v.length - (RowKit.intOf i).toNat)
  case atStart => exact ⟨0, Nat.zero_le _, rfl, rfl, Below.refl _ _⟩
  case round =>
    obtain ⟨k, hk, rfl, ht, hbr⟩ := hrel
    have HB := Lib.hid hbr
    have HT := Lib.hid ht
    clear ht
    by_cases hlt : k < v.length
    · obtain ⟨b, off, rfl, hc, hlt2, hx⟩ := HO.out (by omega)
      have hcell := hx k _ (intVals_get v k hlt)
      rw [← hbr.cell (p := ⟨b, off + k, none⟩) hlt2] at hcell
      clear hx hbr
      by_cases hin : inR v[k] (-20) 20 = true
      · have HI := Lib.hid hin
        clear hin
        go_wp2_with fail
        refine (i_nonormal _ _).mono ?_
        rintro e w1 ⟨rfl, rfl⟩
        rw [HI.out]
        go_wp2_with fail
        exact ⟨⟨k + 1, by omega, by go_num, small_take hlt HT.out HI.out, HB.out⟩, by simp [RowKit.intOf]; omega⟩
      · have HI := Lib.hid (Bool.not_eq_true _ ▸ hin)
        clear hin
        go_wp2_with fail
        refine (i_nonormal _ _).mono ?_
        rintro e w1 ⟨rfl, rfl⟩
        rw [HI.out]
        go_wp2_with fail
        go_ret
        exact ⟨.inr ⟨small_not hlt HI.out, k, rfl⟩, HB.out⟩
    · obtain rfl : k = v.length := by omega
      clear hbr
      go_wp2
      go_ret
      refine ⟨.inl ⟨?_, rfl⟩, HB.out⟩
      have h := HT.out
      rw [List.take_length] at h
      exact h

set_option maxRecDepth 100000 in
theorem i_containsn (v : List Int) (a : Value) (w : World) (hv : Sl w a (intVals v)) :
    Calls Try.prog 113 #[a, .func (.func 133) #[] #[]] w (Quiet w (.bool (!small v 20))) := by
  have HV := Lib.hid hv
  clear hv
  go_enter Try.func113, Try.ntmps113
  go_wp2_with fail
  refine (i_indexn v a _ HV.out).mono ?_
  rintro e w1 ⟨⟨hs, rfl⟩ | ⟨hs, k, rfl⟩, hb⟩
  · have HS := Lib.hid hs
    clear hs
    go_wp2_with fail
    go_ret
    exact ⟨ret_bool (by rw [HS.out]; rfl), hb⟩
  · have HS := Lib.hid hs
    clear hs
    have h0 : (0 : Int) ≤ (k : Int) := by omega
    go_wp2_with fail
    go_ret
    exact ⟨ret_bool (by rw [HS.out]; rfl), hb⟩


set_option maxRecDepth 100000 in
set_option maxHeartbeats 800000 in
theorem i_ishalf (n : Int) (h : Hf) (v : Value) (w : World) (hv : Hv w v h) :
    Calls Try.prog 96 #[.int .i64 n, v] w (Quiet w (.bool (halfOk n h))) := by
  obtain ⟨u, rfl, hs⟩ := hv
  have HS := Lib.hid hs
  obtain ⟨a, c, rfl, hm, _⟩ := hs.shape
  rw [intVals_len] at hm HS ⊢
  unfold maxLen at hm
  have K := Lib.hid (Bk.new w #[.slice a h.1.length c, .int .i64 h.2] 99)
  have B0 := Lib.hid (below1 w (.cells #[.slice a h.1.length c, .int .i64 h.2] 99))
  clear hs
  by_cases l1 : n < 1
  · have E := Lib.hid (halfOk_f1 (n := n) (h := h) (inR_f (by omega)))
    go_enter Try.func96, Try.ntmps96
    go_wp2_with fail
    go_ret
    exact ⟨ret_bool E.out.symm, B0.out⟩
  by_cases l3 : 3 < n
  · have E := Lib.hid (halfOk_f1 (n := n) (h := h) (inR_f (by omega)))
    go_enter Try.func96, Try.ntmps96
    go_wp2_with fail
    go_ret
    exact ⟨ret_bool E.out.symm, B0.out⟩
  by_cases c2 : (h.1.length : Int) = n
  case neg =>
    have E := Lib.hid (halfOk_f2 (h := h) c2)
    have hne : ((h.1.length : Int) == n) = false := by rw [beq_eq_false_iff_ne]; exact c2
    have hne2 : ((h.1.length : Int) != n) = true := by rw [bne_iff_ne]; exact c2
    clear c2
    go_enter Try.func96, Try.ntmps96
    go_wp2_with fail
    go_ret
    exact ⟨ret_bool E.out.symm, B0.out⟩
  subst c2
  have C1 := Lib.hid (show inR (h.1.length : Int) 1 3 = true from inR_mk (by omega) (by omega))
  by_cases c3 : small h.1 20 = true
  case neg =>
    have C3 := Lib.hid (bool_f c3)
    have E := Lib.hid (halfOk_f3 (n := h.1.length) (h := h) (bool_f c3))
    clear c3
    go_enter Try.func96, Try.ntmps96
    go_wp2_with fail
    refine (i_containsn h.1 _ _ (HS.out.below B0.out)).mono ?_
    rintro e w1 ⟨rfl, hb⟩
    rw [C3.out]
    have B1 := Lib.hid (B0.out.trans (hb.mono B0.out.size))
    clear hb
    go_wp2_with fail
    go_ret
    exact ⟨ret_bool E.out.symm, B1.out⟩
  have C3 := Lib.hid c3
  obtain ⟨x, y, z, p1, p2, p4, p5, p3⟩ := pad3 h.1 (by omega) (by omega)
  have P1 := Lib.hid p1
  by_cases hz : x = 0 ∧ y = 0 ∧ z = 0
  · have E := Lib.hid (halfOk_f4 (n := h.1.length) (h := h) (by rw [p2, allG_zero _ hz]; omega))
    obtain ⟨rfl, rfl, rfl⟩ := hz
    have hq := eq_arr_t (x := 0) (y := 0) (z := 0) (x' := 0) (y' := 0) (z' := 0) ⟨rfl, rfl, rfl⟩
    clear c3 p1 p2 p4 p5 p3
    go_enter Try.func96, Try.ntmps96
    go_wp2_with fail
    refine (i_containsn h.1 _ _ (HS.out.below B0.out)).mono ?_
    rintro e w1 ⟨rfl, hb⟩
    rw [C3.out]
    have K1 := Lib.hid (K.out.below hb)
    have B1 := Lib.hid (B0.out.trans (hb.mono B0.out.size))
    clear hb
    obtain ⟨⟨l0, -⟩, -⟩ := K1.out.two
    go_wp2_with fail
    refine (i_num h.1 _ _ _ P1.out (by omega) (by omega) _ _ (HS.out.below B1.out)).mono ?_
    rintro e w2 ⟨rfl, hb⟩
    have B2 := Lib.hid (B1.out.trans (hb.mono B1.out.size))
    clear hb l0
    go_wp2_with fail
    go_ret
    exact ⟨ret_bool E.out.symm, B2.out⟩
  · have hq := eq_arr_f (x := x) (y := y) (z := z) (x' := 0) (y' := 0) (z' := 0) hz
    have E := Lib.hid (halfOk_e (n := h.1.length) (h := h) C1.out rfl c3 (allG_pos (fun hh => hz (pad_zero p2 p4 p5 (by omega) hh))))
    clear c3 p1 p2 p4 p5 p3
    by_cases e1 : h.2 < -200
    · have E2 := Lib.hid (E.out.trans (inR_f (by omega)))
      go_enter Try.func96, Try.ntmps96
      go_wp2_with fail
      refine (i_containsn h.1 _ _ (HS.out.below B0.out)).mono ?_
      rintro e w1 ⟨rfl, hb⟩
      rw [C3.out]
      have K1 := Lib.hid (K.out.below hb)
      have B1 := Lib.hid (B0.out.trans (hb.mono B0.out.size))
      clear hb
      obtain ⟨⟨l0, -⟩, -⟩ := K1.out.two
      go_wp2_with fail
      refine (i_num h.1 _ _ _ P1.out (by omega) (by omega) _ _ (HS.out.below B1.out)).mono ?_
      rintro e w2 ⟨rfl, hb⟩
      have B2 := Lib.hid (B1.out.trans (hb.mono B1.out.size))
      obtain ⟨⟨-, l1⟩, -⟩ := (K1.out.below hb).two
      clear hb l0
      go_wp2_with fail
      go_ret
      exact ⟨ret_bool E2.out.symm, B2.out⟩
    · have E2 := Lib.hid (E.out.trans (inR_hi (by omega)))
      go_enter Try.func96, Try.ntmps96
      go_wp2_with fail
      refine (i_containsn h.1 _ _ (HS.out.below B0.out)).mono ?_
      rintro e w1 ⟨rfl, hb⟩
      rw [C3.out]
      have K1 := Lib.hid (K.out.below hb)
      have B1 := Lib.hid (B0.out.trans (hb.mono B0.out.size))
      clear hb
      obtain ⟨⟨l0, -⟩, -⟩ := K1.out.two
      go_wp2_with fail
      refine (i_num h.1 _ _ _ P1.out (by omega) (by omega) _ _ (HS.out.below B1.out)).mono ?_
      rintro e w2 ⟨rfl, hb⟩
      have B2 := Lib.hid (B1.out.trans (hb.mono B1.out.size))
      obtain ⟨⟨-, l1⟩, -⟩ := (K1.out.below hb).two
      clear hb l0
      go_wp2_with fail
      go_ret
      exact ⟨ret_bool E2.out.symm, B2.out⟩

set_option maxRecDepth 100000 in
set_option maxHeartbeats 800000 in
theorem i_isreg (r : Rgn) (v : Value) (w : World) (hv : Rg w v r) :
    Calls Try.prog 48 #[v] w (Quiet w (.bool (regOk r.1 r.2))) := by
  obtain ⟨n, hs'⟩ := r
  obtain ⟨u, rfl, hss⟩ := hv
  simp only at hss ⊢
  have HV := Lib.hid hss
  obtain ⟨a, c, rfl, hm⟩ := hss.shape
  unfold maxLen at hm
  have K := Lib.hid (Bk.new w #[.int .i64 n, .slice a hs'.length c] 30)
  have B0 := Lib.hid (below1 w (.cells #[.int .i64 n, .slice a hs'.length c] 30))
  clear hss
  by_cases l1 : n < 1
  · have E := Lib.hid (regOk_in (n := n) (hs := hs') (inR_f (by omega)))
    go_enter Try.func48, Try.ntmps48
    go_wp2_with fail
    go_ret
    exact ⟨ret_bool E.out.symm, B0.out⟩
  by_cases l3 : 3 < n
  · have E := Lib.hid (regOk_in (n := n) (hs := hs') (inR_f (by omega)))
    go_enter Try.func48, Try.ntmps48
    go_wp2_with fail
    go_ret
    exact ⟨ret_bool E.out.symm, B0.out⟩
  by_cases l8 : 8 < hs'.length
  · have E := Lib.hid (regOk_long (n := n) (hs := hs') (by omega))
    go_enter Try.func48, Try.ntmps48
    go_wp2_with fail
    go_ret
    exact ⟨ret_bool E.out.symm, B0.out⟩
  have C1 := Lib.hid (show inR n 1 3 = true from inR_mk (by omega) (by omega))
  go_enter Try.func48, Try.ntmps48
  go_wp2
  go_loopw [22] (fun i wr => ∃ k : Nat, k ≤ hs'.length ∧ i = .int .i64 k ∧ (hs'.take k).all (halfOk n) = true ∧ Below (w.alloc (.cells #[.int .i64 n, .slice a hs'.length c] 30)).heap.size (w.alloc (.cells #[.int .i64 n, .slice a hs'.length c] 30)) wr) (fun i _ => hs'.length - (RowKit.intOf i).toNat)
  case atStart => exact ⟨0, Nat.zero_le _, rfl, rfl, Below.refl _ _⟩
  case round =>
    obtain ⟨k, hk, rfl, ht, hbr⟩ := hrel
    have HB := Lib.hid hbr
    have HT := Lib.hid ht
    have HA := Lib.hid (B0.out.trans (hbr.mono B0.out.size))
    obtain ⟨⟨l0, -⟩, -⟩ := (K.out.below hbr).two
    clear ht
    by_cases hlt : k < hs'.length
    · obtain ⟨b, off, x, rfl, _, hb2, hcell, hcell1, hsx⟩ := HV.out.half k hlt rfl
      rw [← HA.out.cell (p := ⟨b, off + k * 2, none⟩) hb2] at hcell
      rw [← HA.out.cell (p := ⟨b, off + k * 2 + 1, none⟩) hb2] at hcell1
      have HX := Lib.hid hsx
      obtain ⟨xa, xc, rfl, _, _⟩ := hsx.shape
      have hsz := (K.out.below hbr).lt
      have hnb := below1 wr (.cells #[.slice xa (intVals hs'[k].1).length xc, .int .i64 hs'[k].2] 99)
      have HN := Lib.hid (HB.out.trans (hnb.mono HB.out.size))
      have HAN := Lib.hid (HA.out.trans (hnb.mono HA.out.size))
      clear hsx hbr hnb
      obtain ⟨q, hq⟩ : ∃ q : Bool, halfOk n hs'[k] = q := ⟨_, rfl⟩
      have HQ := Lib.hid hq
      clear hq
      go_wp2_with fail
      refine (i_ishalf n hs'[k] _ _ ⟨_, rfl, HX.out.below HAN.out⟩).mono ?_
      rintro e w1 ⟨rfl, hb1⟩
      rw [HQ.out]
      have HB1 := Lib.hid (HN.out.trans (hb1.mono HN.out.size))
      have HA1 := Lib.hid (B0.out.trans (HB1.out.mono B0.out.size))
      clear hb1 l0 hcell hcell1
      cases q with
      | true =>
        go_wp2
        exact ⟨⟨k + 1, by omega, by go_num, all_take' hlt HT.out HQ.out, HB1.out⟩, by simp [RowKit.intOf]; omega⟩
      | false =>
        go_wp2
        go_ret
        exact ⟨ret_bool (regOk_half hlt HQ.out).symm, HA1.out⟩
    · obtain rfl : k = hs'.length := by omega
      have E := Lib.hid (regOk_e (by have h := HT.out; rw [List.take_length] at h; exact h) C1.out (by omega))
      clear hbr
      go_wp2
      go_ret
      exact ⟨ret_bool E.out.symm, HA.out⟩
end Go.Proofs.Ytckpifcdlmfabaa
/- The program's regions: which points one has. -/
namespace Go.Proofs.Ytckpifcdlmfabaa
open Go.RowKit Go.Lib

theorem dotR_half {r : Rgn} {x : List Int} (h : ptR r x = true) (k : Nat) (hk : k < r.2.length) : dotR r.2[k].1 x = dotL r.2[k].1 x := by
  obtain ⟨h1, h2, h3⟩ := ptR_t h
  obtain ⟨a1, a2, a3, a4, _⟩ := halfOk_t ((regOk_t h1).2.2.2 k hk)
  refine if_pos ⟨?_, h2, by omega⟩
  rw [isV_mk (by omega) (by omega)]
  exact small_mk fun i hi => ⟨by have := (a4 i hi).1; omega, by have := (a4 i hi).2; omega⟩

end Go.Proofs.Ytckpifcdlmfabaa
/- Equality of lists, halves and regions: the model's and the program's. -/
namespace Go.Proofs.Ytckpifcdlmfabaa
open Go.RowKit Go.Lib

theorem take_all_eq {α : Type} {u v : List α} {k : Nat} (hl : u.length = v.length) (hk : k = u.length) (h : u.take k = v.take k) : u = v := by
  subst hk
  rw [List.take_length, hl, List.take_length] at h
  exact h
theorem take_eq_step {α : Type} {u v : List α} {k : Nat} (h1 : k < u.length) (h2 : k < v.length) (h : u.take k = v.take k) (he : u[k] = v[k]) : u.take (k + 1) = v.take (k + 1) := by
  rw [List.take_succ_eq_append_getElem h1, List.take_succ_eq_append_getElem h2, h, he]
theorem get_ne {α : Type} {u v : List α} {k : Nat} (h1 : k < u.length) (h2 : k < v.length) (he : ¬ u[k] = v[k]) : ¬ u = v := by
  intro e; subst e; exact he rfl

set_option maxRecDepth 100000 in
set_option maxHeartbeats 800000 in
theorem s_same (u v : List Int) (a b : Value) (w : World) (ha : Sl w a (intVals u)) (hb : Sl w b (intVals v)) :
    Calls Try.prog 110 #[a, b] w (Quiet w (.bool (decide (u = v)))) := by
  obtain ⟨a, c, rfl, hm, ha⟩ := ha.shape
  obtain ⟨b, d, rfl, _, hb⟩ := hb.shape
  rw [intVals_len] at ha hb hm
  rw [intVals_len, intVals_len]
  unfold maxLen at hm
  have HA := Lib.hid ha
  have HB0 := Lib.hid hb
  clear ha hb
  by_cases hl : u.length = v.length
  · have HL := Lib.hid hl
    rw [← hl] at HB0 ⊢
    clear hl
    go_enter Try.func110, Try.ntmps110
    go_wp2
    go_loopw [5] (fun i wr => ∃ k : Nat, k ≤ u.length ∧ i = .int .i64 k ∧ u.take k = v.take k ∧ Below w.heap.size w wr) (fun i _ => u.length - (RowKit.intOf i).toNat)
    case atStart => exact ⟨0, Nat.zero_le _, rfl, rfl, Below.refl _ _⟩
    case round =>
      obtain ⟨k, hk, rfl, ht, hbr⟩ := hrel
      have HB := Lib.hid hbr
      have HT := Lib.hid ht
      clear ht
      by_cases hlt : k < u.length
      · have hlt' : k < v.length := by have := HL.out; omega
        obtain ⟨b1, o1, rfl, hc1, hlt1, hx1⟩ := HA.out (by omega)
        obtain ⟨b2, o2, rfl, hc2, hlt2, hx2⟩ := HB0.out (by omega)
        have hcell1 := hx1 k _ (intVals_get u k hlt)
        have hcell2 := hx2 k _ (intVals_get v k hlt')
        rw [← hbr.cell (p := ⟨b1, o1 + k, none⟩) hlt1] at hcell1
        rw [← hbr.cell (p := ⟨b2, o2 + k, none⟩) hlt2] at hcell2
        clear hx1 hx2 hbr
        have i1 : (0 : Int) ≤ (k : Int) := by omega
        have i2 : (k : Int) < (u.length : Int) := by omega
        by_cases he : u[k] = v[k]
        · have HE := Lib.hid (take_eq_step hlt hlt' HT.out he)
          rw [← he] at hcell2
          clear he
          go_wp2
          go_quiet (fail)
          go_wp2
          exact ⟨⟨k + 1, by omega, by go_num, HE.out, below_drewN' HB.out _⟩, by simp [RowKit.intOf]; omega⟩
        · have HE := Lib.hid (get_ne hlt hlt' he)
          have hne : (u[k] == v[k]) = false := by rw [beq_eq_false_iff_ne]; exact he
          have hne2 : (u[k] != v[k]) = true := by rw [bne_iff_ne]; exact he
          go_wp2
          go_quiet (fail)
          go_wp2
          go_ret
          exact ⟨ret_bool (decide_eq_false HE.out).symm, below_drewN' HB.out _⟩
      · obtain rfl : k = u.length := by omega
        have HE := Lib.hid (take_all_eq HL.out rfl HT.out)
        clear hbr
        go_wp2
        go_ret
        exact ⟨ret_bool (decide_eq_true HE.out).symm, HB.out⟩
  · have HE := Lib.hid (show ¬ u = v from fun e => hl (by rw [e]))
    have hne : ((u.length : Int) == (v.length : Int)) = false := by rw [beq_eq_false_iff_ne]; omega
    have hne2 : ((u.length : Int) != (v.length : Int)) = true := by rw [bne_iff_ne]; omega
    have hne3 : (u.length == v.length) = false := by rw [beq_eq_false_iff_ne]; exact hl
    have hne4 : (u.length != v.length) = true := by rw [bne_iff_ne]; exact hl
    go_enter Try.func110, Try.ntmps110
    go_wp2
    go_ret
    exact ⟨ret_bool (decide_eq_false HE.out).symm, Below.refl _ _⟩

set_option maxRecDepth 100000 in
set_option maxHeartbeats 800000 in
theorem i_same (u v : List Int) (a b : Value) (w : World) (ha : Sl w a (intVals u)) (hb : Sl w b (intVals v)) :
    Calls Try.prog 77 #[a, b] w (Quiet w (.bool (decide (u = v)))) := by
  obtain ⟨a, c, rfl, hm, ha⟩ := ha.shape
  obtain ⟨b, d, rfl, _, hb⟩ := hb.shape
  rw [intVals_len] at ha hb hm
  rw [intVals_len, intVals_len]
  unfold maxLen at hm
  have HA := Lib.hid ha
  have HB0 := Lib.hid hb
  clear ha hb
  by_cases hl : u.length = v.length
  · have HL := Lib.hid hl
    rw [← hl] at HB0 ⊢
    clear hl
    go_enter Try.func77, Try.ntmps77
    go_wp2
    go_loopw [5, 13] (fun _ i wr => ∃ k : Nat, k ≤ u.length ∧ i = .int .i64 k ∧ u.take k = v.take k ∧ Below w.heap.size w wr) (fun _ i _ => u.length - (RowKit.intOf i).toNat)
    case atStart => exact ⟨0, Nat.zero_le _, rfl, rfl, Below.refl _ _⟩
    case round =>
      obtain ⟨k, hk, rfl, ht, hbr⟩ := hrel
      have HB := Lib.hid hbr
      have HT := Lib.hid ht
      clear ht
      by_cases hlt : k < u.length
      · have hlt' : k < v.length := by have := HL.out; omega
        obtain ⟨b1, o1, rfl, hc1, hlt1, hx1⟩ := HA.out (by omega)
        obtain ⟨b2, o2, rfl, hc2, hlt2, hx2⟩ := HB0.out (by omega)
        have hcell1 := hx1 k _ (intVals_get u k hlt)
        have hcell2 := hx2 k _ (intVals_get v k hlt')
        rw [← hbr.cell (p := ⟨b1, o1 + k, none⟩) hlt1] at hcell1
        rw [← hbr.cell (p := ⟨b2, o2 + k, none⟩) hlt2] at hcell2
        clear hx1 hx2 hbr
        have i1 : (0 : Int) ≤ (k : Int) := by omega
        have i2 : (k : Int) < (u.length : Int) := by omega
        by_cases he : u[k] = v[k]
        · have HE := Lib.hid (take_eq_step hlt hlt' HT.out he)
          rw [← he] at hcell2
          clear he
          go_wp2
          go_quiet (fail)
          go_wp2
          exact ⟨⟨k + 1, by omega, by go_num, HE.out, below_drewN' HB.out _⟩, by simp [RowKit.intOf]; omega⟩
        · have HE := Lib.hid (get_ne hlt hlt' he)
          have hne : (u[k] == v[k]) = false := by rw [beq_eq_false_iff_ne]; exact he
          have hne2 : (u[k] != v[k]) = true := by rw [bne_iff_ne]; exact he
          go_wp2
          go_quiet (fail)
          go_wp2
          go_ret
          exact ⟨ret_bool (decide_eq_false HE.out).symm, below_drewN' HB.out _⟩
      · obtain rfl : k = u.length := by omega
        have HE := Lib.hid (take_all_eq HL.out rfl HT.out)
        clear hbr
        go_wp2
        go_ret
        exact ⟨ret_bool (decide_eq_true HE.out).symm, HB.out⟩
  · have HE := Lib.hid (show ¬ u = v from fun e => hl (by rw [e]))
    have hne : ((u.length : Int) == (v.length : Int)) = false := by rw [beq_eq_false_iff_ne]; omega
    have hne2 : ((u.length : Int) != (v.length : Int)) = true := by rw [bne_iff_ne]; omega
    have hne3 : (u.length == v.length) = false := by rw [beq_eq_false_iff_ne]; exact hl
    have hne4 : (u.length != v.length) = true := by rw [bne_iff_ne]; exact hl
    go_enter Try.func77, Try.ntmps77
    go_wp2
    go_ret
    exact ⟨ret_bool (decide_eq_false HE.out).symm, Below.refl _ _⟩

theorem hf_f1 {h k : Hf} (c : ¬ h.1 = k.1) : decide (h = k) = false := decide_eq_false fun e => c (by rw [e])
theorem hf_e {h k : Hf} (c : h.1 = k.1) : decide (h = k) = (h.2 == k.2) := by
  obtain ⟨a, x⟩ := h
  obtain ⟨b, y⟩ := k
  simp only at c
  subst c
  by_cases he : x = y
  · subst he; simp
  · simp [he]

theorem eqR_f1 {r s : Rgn} (h : ¬ r.1 = s.1) : eqR r.1 r.2 s.1 s.2 = false := decide_eq_false fun e => h e.1
theorem eqR_f2 {r s : Rgn} (h : ¬ r.2 = s.2) : eqR r.1 r.2 s.1 s.2 = false := decide_eq_false fun e => h e.2
theorem eqR_t {r s : Rgn} (h : r.1 = s.1) (k : r.2 = s.2) : eqR r.1 r.2 s.1 s.2 = true := decide_eq_true ⟨h, k⟩

theorem keepF6 {w W : World} {p q r s p' q' : Addr} {x y z t x' y' : Value} (h1 : W.cell? p = some x) (h2 : W.cell? q = some y) (h4 : W.cell? r = some z) (h5 : W.cell? s = some t) (h6 : W.cell? p' = some x') (h7 : W.cell? q' = some y') (h3 : Below w.heap.size w W) :
    W.drew.cell? p = some x ∧ W.drew.cell? q = some y ∧ W.drew.cell? r = some z ∧ W.drew.cell? s = some t ∧ W.drew.cell? p' = some x' ∧ W.drew.cell? q' = some y' ∧ Below w.heap.size w W.drew := ⟨h1, h2, h4, h5, h6, h7, h3.drew⟩
theorem keepE6 {w W w1 : World} {p q r s p' q' : Addr} {x y z t x' y' : Value} (hp : p.block < w.heap.size) (hq : q.block < w.heap.size) (hr : r.block < w.heap.size) (hs : s.block < w.heap.size) (hp' : p'.block < w.heap.size) (hq' : q'.block < w.heap.size)
    (h1 : W.cell? p = some x) (h2 : W.cell? q = some y) (h4 : W.cell? r = some z) (h5 : W.cell? s = some t) (h6 : W.cell? p' = some x') (h7 : W.cell? q' = some y') (h3 : Below w.heap.size w W) (hb : Below W.heap.size W w1) :
    w1.cell? p = some x ∧ w1.cell? q = some y ∧ w1.cell? r = some z ∧ w1.cell? s = some t ∧ w1.cell? p' = some x' ∧ w1.cell? q' = some y' ∧ Below w.heap.size w w1 :=
  ⟨(hb.cell (Nat.lt_of_lt_of_le hp h3.size)).trans h1, (hb.cell (Nat.lt_of_lt_of_le hq h3.size)).trans h2, (hb.cell (Nat.lt_of_lt_of_le hr h3.size)).trans h4, (hb.cell (Nat.lt_of_lt_of_le hs h3.size)).trans h5, (hb.cell (Nat.lt_of_lt_of_le hp' h3.size)).trans h6, (hb.cell (Nat.lt_of_lt_of_le hq' h3.size)).trans h7, h3.trans (hb.mono h3.size)⟩

end Go.Proofs.Ytckpifcdlmfabaa
/- The program's rational points: what is within the limits, and which one is less. -/
namespace Go.Proofs.Ytckpifcdlmfabaa
open Go.RowKit Go.Lib

set_option maxRecDepth 100000 in
theorem i_nonum (x : Int) (w : World) : Calls Try.prog 134 #[.int .i64 x] w fun e w' => e = .returned (.bool (!inR x (-10000000) 10000000)) ∧ w = w' := by
  by_cases h1 : x < -10000000
  · have h := Lib.hid (inR_f (x := x) (lo := -10000000) (hi := 10000000) (fun h => by omega))
    go_enter Try.func134, Try.ntmps134
    go_wp2
    go_ret
    exact ⟨ret_bool (by rw [h.out]; rfl), rfl⟩
  · by_cases h2 : 10000000 < x
    · have h := Lib.hid (inR_f (x := x) (lo := -10000000) (hi := 10000000) (fun h => by omega))
      go_enter Try.func134, Try.ntmps134
      go_wp2
      go_ret
      exact ⟨ret_bool (by rw [h.out]; rfl), rfl⟩
    · have h := Lib.hid (inR_mk (x := x) (lo := -10000000) (hi := 10000000) (by omega) (by omega))
      go_enter Try.func134, Try.ntmps134
      go_wp2
      go_ret
      exact ⟨ret_bool (by rw [h.out]; rfl), rfl⟩

/-- Where the first number lies that is no entry, or -1. -/
def IdxQ (v : List Int) (w : World) (e : Ending) (w' : World) : Prop :=
  ((small v 10000000 = true ∧ e = .returned (.int .i64 (-1))) ∨ (small v 10000000 = false ∧ ∃ k : Nat, e = .returned (.int .i64 k))) ∧ Below w.heap.size w w'

set_option maxRecDepth 100000 in
set_option maxHeartbeats 400000 in
theorem i_indexq (v : List Int) (a : Value) (w : World) (hv : Sl w a (intVals v)) :
    Calls Try.prog 147 #[a, .func (.func 134) #[] #[]] w (IdxQ v w) := by
  obtain ⟨a, c, rfl, hm, hopen⟩ := hv.shape
  rw [intVals_len] at hm hopen ⊢
  unfold maxLen at hm
  have HO := Lib.hid hopen
  clear hopen hv
  go_enter Try.func147, Try.ntmps147
  go_wp2
  go_loopw [5, 8] (fun _ i wr => ∃ k : Nat, k ≤ v.length ∧ i = .int .i64 k ∧ small (v.take k) 10000000 = true ∧ Below w.heap.size w wr) (fun _ i _ => v.length - (RowKit.intOf i).toNat)
  case atStart => exact ⟨0, Nat.zero_le _, rfl, rfl, Below.refl _ _⟩
  case round =>
    obtain ⟨k, hk, rfl, ht, hbr⟩ := hrel
    have HB := Lib.hid hbr
    have HT := Lib.hid ht
    clear ht
    by_cases hlt : k < v.length
    · obtain ⟨b, off, rfl, hc, hlt2, hx⟩ := HO.out (by omega)
      have hcell := hx k _ (intVals_get v k hlt)
      rw [← hbr.cell (p := ⟨b, off + k, none⟩) hlt2] at hcell
      clear hx hbr
      by_cases hin : inR v[k] (-10000000) 10000000 = true
      · have HI := Lib.hid hin
        clear hin
        go_wp2_with fail
        refine (i_nonum _ _).mono ?_
        rintro e w1 ⟨rfl, rfl⟩
        rw [HI.out]
        go_wp2_with fail
        exact ⟨⟨k + 1, by omega, by go_num, small_take hlt HT.out HI.out, HB.out⟩, by simp [RowKit.intOf]; omega⟩
      · have HI := Lib.hid (Bool.not_eq_true _ ▸ hin)
        clear hin
        go_wp2_with fail
        refine (i_nonum _ _).mono ?_
        rintro e w1 ⟨rfl, rfl⟩
        rw [HI.out]
        go_wp2_with fail
        go_ret
        exact ⟨.inr ⟨small_not hlt HI.out, k, rfl⟩, HB.out⟩
    · obtain rfl : k = v.length := by omega
      clear hbr
      go_wp2
      go_ret
      refine ⟨.inl ⟨?_, rfl⟩, HB.out⟩
      have h := HT.out
      rw [List.take_length] at h
      exact h

set_option maxRecDepth 100000 in
theorem i_containsq (v : List Int) (a : Value) (w : World) (hv : Sl w a (intVals v)) :
    Calls Try.prog 113 #[a, .func (.func 134) #[] #[]] w (Quiet w (.bool (!small v 10000000))) := by
  have HV := Lib.hid hv
  clear hv
  go_enter Try.func113, Try.ntmps113
  go_wp2_with fail
  refine (i_indexq v a _ HV.out).mono ?_
  rintro e w1 ⟨⟨hs, rfl⟩ | ⟨hs, k, rfl⟩, hb⟩
  · have HS := Lib.hid hs
    clear hs
    go_wp2_with fail
    go_ret
    exact ⟨ret_bool (by rw [HS.out]; rfl), hb⟩
  · have HS := Lib.hid hs
    clear hs
    have h0 : (0 : Int) ≤ (k : Int) := by omega
    go_wp2_with fail
    go_ret
    exact ⟨ret_bool (by rw [HS.out]; rfl), hb⟩



set_option maxRecDepth 100000 in
set_option maxHeartbeats 400000 in
theorem i_within (p : Hf) (v : Value) (w : World) (hv : Hv w v p) :
    Calls Try.prog 101 #[v] w (Quiet w (.bool (fineQ p))) := by
  obtain ⟨u, rfl, hs⟩ := hv
  have HS := Lib.hid hs
  have K := Lib.hid (Bk.new w #[u, .int .i64 p.2] 63)
  have B0 := Lib.hid (below1 w (.cells #[u, .int .i64 p.2] 63))
  clear hs
  by_cases l1 : p.2 < 1
  · have E := Lib.hid (fineQ_f1 (p := p) (inR_f (by omega)))
    have l2 : ¬ 1 ≤ p.2 := by omega
    go_enter Try.func101, Try.ntmps101
    go_wp2_with fail
    go_ret
    exact ⟨ret_bool E.out.symm, B0.out⟩
  by_cases l3 : 100000 < p.2
  · have E := Lib.hid (fineQ_f1 (p := p) (inR_f (by omega)))
    have l2 : 1 ≤ p.2 := by omega
    have l4 : ¬ p.2 ≤ 100000 := by omega
    go_enter Try.func101, Try.ntmps101
    go_wp2_with fail
    go_ret
    exact ⟨ret_bool E.out.symm, B0.out⟩
  have E := Lib.hid (fineQ_e (p := p) (inR_mk (by omega) (by omega)))
  have l2 : 1 ≤ p.2 := by omega
  have l4 : p.2 ≤ 100000 := by omega
  obtain ⟨q, hq⟩ : ∃ q : Bool, small p.1 10000000 = q := ⟨_, rfl⟩
  have HQ := Lib.hid hq
  clear hq
  go_enter Try.func101, Try.ntmps101
  go_wp2_with fail
  refine (i_containsq p.1 _ _ (HS.out.below B0.out)).mono ?_
  rintro e w1 ⟨rfl, hb⟩
  rw [HQ.out]
  have B1 := Lib.hid (B0.out.trans (hb.mono B0.out.size))
  clear hb
  cases q with
  | true =>
    go_wp2_with fail
    go_ret
    exact ⟨ret_bool (E.out.trans HQ.out).symm, B1.out⟩
  | false =>
    go_wp2_with fail
    go_ret
    exact ⟨ret_bool (E.out.trans HQ.out).symm, B1.out⟩

def cmpI (x y : Int) : Int := if x = y then 0 else if x < y then -1 else 1
theorem cmpI_eq {x y : Int} (h : x = y) : cmpI x y = 0 := if_pos h
theorem cmpI_lt {x y : Int} (h : x < y) : cmpI x y = -1 := by unfold cmpI; rw [if_neg (by omega), if_pos h]
theorem cmpI_gt {x y : Int} (h : y < x) : cmpI x y = 1 := by unfold cmpI; rw [if_neg (by omega), if_neg (by omega)]
set_option maxRecDepth 100000 in
theorem i_ccmp (x y : Int) (w : World) : Calls Try.prog 105 #[.int .i64 x, .int .i64 y] w fun e w' => e = .returned (.int .i64 (cmpI x y)) ∧ w = w' := by
  by_cases h1 : x < y
  · have E := Lib.hid (cmpI_lt h1)
    go_enter Try.func105, Try.ntmps105
    go_wp2
    go_ret
    exact ⟨ret_int E.out.symm, rfl⟩
  · by_cases h2 : y < x
    · have E := Lib.hid (cmpI_gt h2)
      go_enter Try.func105, Try.ntmps105
      go_wp2
      go_ret
      exact ⟨ret_int E.out.symm, rfl⟩
    · have E := Lib.hid (cmpI_eq (x := x) (y := y) (by omega))
      go_enter Try.func105, Try.ntmps105
      go_wp2
      go_ret
      exact ⟨ret_int E.out.symm, rfl⟩
end Go.Proofs.Ytckpifcdlmfabaa
/- The program's CompareRationals. -/
namespace Go.Proofs.Ytckpifcdlmfabaa
open Go.RowKit Go.Lib

set_option maxRecDepth 100000 in
set_option maxHeartbeats 1600000 in
theorem i_cmp (p q : Hf) (v u : Value) (w : World) (hv : Hv w v p) (hu : Hv w u q) :
    Calls Try.prog 54 #[v, u] w (Quiet w (.int .i64 (cmpQ p q))) := by
  have HP := Lib.hid hv
  have HQ := Lib.hid hu
  obtain ⟨x, rfl, hx⟩ := hv
  obtain ⟨y, rfl, hy⟩ := hu
  have HX := Lib.hid hx
  have HY := Lib.hid hy
  obtain ⟨xa, xc, rfl, xm, _⟩ := hx.shape
  obtain ⟨ya, yc, rfl, ym, _⟩ := hy.shape
  rw [intVals_len] at xm HX HP ym HY HQ ⊢
  rw [intVals_len]
  unfold maxLen at xm ym
  have B0 := Lib.hid (below2 w (.cells #[.slice xa p.1.length xc, .int .i64 p.2] 63) (.cells #[.slice ya q.1.length yc, .int .i64 q.2] 63))
  have K := Lib.hid (Bk.pair w #[.slice xa p.1.length xc, .int .i64 p.2] #[.slice ya q.1.length yc, .int .i64 q.2] 63 63)
  clear hx hy
  by_cases c3 : p.1.length = q.1.length
  case neg =>
    have E := Lib.hid (cmpQ_f3 c3)
    have hne : ((p.1.length : Int) != (q.1.length : Int)) = true := by rw [bne_iff_ne]; omega
    clear c3
    go_enter Try.func54, Try.ntmps54
    go_wp2_with fail
    go_ret
    exact ⟨ret_int E.out.symm, B0.out⟩
  have C3 := Lib.hid c3
  have hne : ((p.1.length : Int) != (q.1.length : Int)) = false := by rw [bne_eq_false_iff_eq]; omega
  by_cases c1 : fineQ p = true
  case neg =>
    have C1 := Lib.hid (bool_f c1)
    have E := Lib.hid (cmpQ_f1 (q := q) (bool_f c1))
    clear c1 c3
    go_enter Try.func54, Try.ntmps54
    go_wp2_with fail
    refine (i_within p _ _ (HP.out.below B0.out)).mono ?_
    rintro e w1 ⟨rfl, hb⟩
    rw [C1.out]
    have B1 := Lib.hid (B0.out.trans (hb.mono B0.out.size))
    clear hb
    go_wp2_with fail
    go_ret
    exact ⟨ret_int E.out.symm, B1.out⟩
  have C1 := Lib.hid c1
  by_cases c2 : fineQ q = true
  case neg =>
    have C2 := Lib.hid (bool_f c2)
    have E := Lib.hid (cmpQ_f2 (p := p) (bool_f c2))
    clear c1 c2 c3
    go_enter Try.func54, Try.ntmps54
    go_wp2_with fail
    refine (i_within p _ _ (HP.out.below B0.out)).mono ?_
    rintro e w1 ⟨rfl, hb⟩
    rw [C1.out]
    have B1 := Lib.hid (B0.out.trans (hb.mono B0.out.size))
    obtain ⟨⟨n0, n1⟩, -⟩ := (K.out.2.below hb).two
    clear hb
    go_wp2_with fail
    refine (i_within q _ _ (HQ.out.below B1.out)).mono ?_
    rintro e w2 ⟨rfl, hb⟩
    rw [C2.out]
    have B2 := Lib.hid (B1.out.trans (hb.mono B1.out.size))
    clear hb n0 n1
    go_wp2_with fail
    go_ret
    exact ⟨ret_int E.out.symm, B2.out⟩
  have C2 := Lib.hid c2
  have E := Lib.hid (cmpQ_t c1 c2 c3)
  have PP := Lib.hid (fun k hk => cmp_prod c1 c2 k hk)
  have PQ := Lib.hid (fun k hk => cmp_prod c2 c1 k hk)
  clear c1 c2 c3
  go_enter Try.func54, Try.ntmps54
  go_wp2_with fail
  refine (i_within p _ _ (HP.out.below B0.out)).mono ?_
  rintro e w1 ⟨rfl, hb⟩
  rw [C1.out]
  have B1 := Lib.hid (B0.out.trans (hb.mono B0.out.size))
  have K1 := Lib.hid (And.intro (K.out.1.below hb) (K.out.2.below hb))
  obtain ⟨⟨n0, n1⟩, -⟩ := K1.out.2.two
  clear hb
  go_wp2_with fail
  refine (i_within q _ _ (HQ.out.below B1.out)).mono ?_
  rintro e w2 ⟨rfl, hb⟩
  rw [C2.out]
  have B2 := Lib.hid (B1.out.trans (hb.mono B1.out.size))
  have K2 := Lib.hid (And.intro (K1.out.1.below hb) (K1.out.2.below hb))
  clear n0 n1 hb
  obtain ⟨⟨m0, m1⟩, -⟩ := K2.out.1.two
  obtain ⟨⟨n0, n1⟩, -⟩ := K2.out.2.two
  go_wp2
  clear m0 m1 n0 n1
  go_loopw [28] (fun i wr => ∃ k : Nat, k ≤ p.1.length ∧ i = .int .i64 k ∧ cmpN (p.1.drop k) p.2 (q.1.drop k) q.2 = cmpQ p q ∧ Below w2.heap.size w2 wr) (fun i _ => p.1.length - (RowKit.intOf i).toNat)
  case atStart => exact ⟨0, Nat.zero_le _, rfl, by rw [E.out]; rfl, Below.refl _ _⟩
  case round =>
    obtain ⟨k, hk, rfl, ht, hbr⟩ := hrel
    have HB := Lib.hid hbr
    have HT := Lib.hid ht
    have HA := Lib.hid (B2.out.trans (hbr.mono B2.out.size))
    have hb4 := K2.out.1.lt
    have hb5 := K2.out.2.lt
    obtain ⟨⟨m0, m1⟩, -⟩ := (K2.out.1.below hbr).two
    obtain ⟨⟨n0, n1⟩, -⟩ := (K2.out.2.below hbr).two
    clear ht
    by_cases hlt : k < p.1.length
    · have hlt' : k < q.1.length := by have := C3.out; omega
      obtain ⟨b, off, rfl, hb2, hcell⟩ := HX.out.get k hlt
      obtain ⟨b', off', rfl, hb2', hcell'⟩ := HY.out.get k hlt'
      rw [← HA.out.cell (p := ⟨b, off + k, none⟩) hb2] at hcell
      rw [← HA.out.cell (p := ⟨b', off' + k, none⟩) hb2'] at hcell'
      have hb3 : b' < w2.heap.size := Nat.lt_of_lt_of_le hb2' B2.out.size
      have i1 : (0 : Int) ≤ (k : Int) := by omega
      have i2 : (k : Int) < (p.1.length : Int) := by omega
      have i3 : (k : Int) < (q.1.length : Int) := by omega
      obtain ⟨p1, p2⟩ := PP.out k hlt
      obtain ⟨q1, q2⟩ := PQ.out k hlt'
      have EQ := Lib.hid (cmpN_eq (d := p.2) (e := q.2) hlt hlt')
      have LT := Lib.hid (cmpN_lt (d := p.2) (e := q.2) hlt hlt')
      have GT := Lib.hid (cmpN_gt (d := p.2) (e := q.2) hlt hlt')
      generalize p.1[k] = s at *
      generalize q.1[k] = t at *
      have hw1 : IntKind.i64.wrap (s * q.2) = s * q.2 := IntWalk.i64_in _ (by omega)
      have hw2 : IntKind.i64.wrap (t * p.2) = t * p.2 := IntWalk.i64_in _ (by omega)
      have HK := Lib.hid hb4
      go_wp2_with fail
      go_region_held3 (fun w' => w'.cell? ⟨w.heap.size + 1, 1, none⟩ = some (.int .i64 q.2) ∧ w'.cell? ⟨w.heap.size + 1, 0, none⟩ = some (.slice (some ⟨b', off', none⟩) q.1.length yc) ∧ w'.cell? ⟨b', off' + k, none⟩ = some (.int .i64 t) ∧ w'.cell? ⟨w.heap.size, 1, none⟩ = some (.int .i64 p.2) ∧ Below w2.heap.size w2 w')
        (first
          | with_reducible exact keepF4 n1 n0 hcell' m1 hbr
          | (go_split_ands; with_reducible exact keepE4 hb5 hb5 hb3 hb4 (by assumption) (by assumption) (by assumption) (by assumption) (by assumption) (by assumption))
          | go_keep)
        (first | (go_at_call 105; refine (i_ccmp (s * q.2) (t * p.2) _).mono ?_; rintro e w1 ⟨rfl, rfl⟩))
      rename_i hH
      have HB1 := Lib.hid hH.2.2.2.2
      have HA1 := Lib.hid (B2.out.trans (HB1.out.mono B2.out.size))
      clear hH hbr m0 m1 n0 n1 hcell hcell'
      obtain ⟨c, hc⟩ : ∃ c : Int, cmpI (s * q.2) (t * p.2) = c := ⟨_, rfl⟩
      have CC := Lib.hid hc
      rw [hc]
      clear hc
      by_cases e1 : s * q.2 = t * p.2
      · have E2 := Lib.hid ((EQ.out e1).symm.trans HT.out)
        have hc0 : c = 0 := CC.out.symm.trans (cmpI_eq e1)
        subst hc0
        go_wp2
        exact ⟨⟨k + 1, by omega, by go_num, E2.out, HB1.out⟩, by simp [RowKit.intOf]; omega⟩
      · by_cases e2 : s * q.2 < t * p.2
        · have E2 := Lib.hid ((LT.out e2).symm.trans HT.out)
          have hc0 : c = -1 := CC.out.symm.trans (cmpI_lt e2)
          subst hc0
          go_wp2
          go_ret
          exact ⟨ret_int E2.out, HA1.out⟩
        · have e3 : t * p.2 < s * q.2 := by omega
          have E2 := Lib.hid ((GT.out e3).symm.trans HT.out)
          have hc0 : c = 1 := CC.out.symm.trans (cmpI_gt e3)
          subst hc0
          go_wp2
          go_ret
          exact ⟨ret_int E2.out, HA1.out⟩
    · obtain rfl : k = p.1.length := by omega
      have E2 := Lib.hid (HT.out.symm.trans (cmpN_end C3.out))
      clear hbr
      go_wp2
      go_ret
      exact ⟨ret_int E2.out.symm, HA.out⟩
end Go.Proofs.Ytckpifcdlmfabaa
