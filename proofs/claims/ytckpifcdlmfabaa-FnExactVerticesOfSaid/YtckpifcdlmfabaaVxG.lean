/- The program's CompareRationals, in worlds that draw and grow. -/
import Derived.Test.YtckpifcdlmfabaaMax
import Derived.Test.YtckpifcdlmfabaaPgS
namespace Go.Proofs.Ytckpifcdlmfabaa
open Go.RowKit Go.Lib

def GQuiet (w : World) (v : Value) (e : Ending) (w' : World) : Prop := e = .returned v ∧ Gr w w'
theorem keepGd {w W : World} {p q r s : Addr} {x y z t : Value} (h1 : W.cell? p = some x) (h2 : W.cell? q = some y) (h4 : W.cell? r = some z) (h5 : W.cell? s = some t) (h3 : Gr w W) : W.drew.cell? p = some x ∧ W.drew.cell? q = some y ∧ W.drew.cell? r = some z ∧ W.drew.cell? s = some t ∧ Gr w W.drew := ⟨h1, h2, h4, h5, h3.trans (Gr.drew _)⟩
/-- Where the first number lies that is no entry, or -1. -/
def IdxG (v : List Int) (w : World) (e : Ending) (w' : World) : Prop :=
  ((small v 10000000 = true ∧ e = .returned (.int .i64 (-1))) ∨ (small v 10000000 = false ∧ ∃ k : Nat, e = .returned (.int .i64 k))) ∧ Gr w w'

set_option maxRecDepth 100000 in
set_option maxHeartbeats 400000 in
theorem g_indexq (v : List Int) (a : Value) (w : World) (hv : Sl w a (intVals v)) :
    Calls Try.prog 147 #[a, .func (.func 134) #[] #[]] w (IdxG v w) := by
  obtain ⟨a, c, rfl, hm, hopen⟩ := hv.shape
  rw [intVals_len] at hm hopen ⊢
  unfold maxLen at hm
  have HO := Lib.hid hopen
  clear hopen hv
  go_enter Try.func147, Try.ntmps147
  go_wp2
  go_loopw [5, 8] (fun _ i wr => ∃ k : Nat, k ≤ v.length ∧ i = .int .i64 k ∧ small (v.take k) 10000000 = true ∧ Gr w wr) (fun _ i _ => v.length - (RowKit.intOf i).toNat)
  case atStart => exact ⟨0, Nat.zero_le _, rfl, rfl, Gr.refl _⟩
  case round =>
    obtain ⟨k, hk, rfl, ht, hbr⟩ := hrel
    have HB := Lib.hid hbr
    have HT := Lib.hid ht
    clear ht
    by_cases hlt : k < v.length
    · obtain ⟨b, off, rfl, hc, hlt2, hx⟩ := HO.out (by omega)
      have hcell := hx k _ (intVals_get v k hlt)
      rw [← hbr.below.cell (p := ⟨b, off + k, none⟩) hlt2] at hcell
      clear hx hbr
      by_cases hin : inR v[k] (-10000000) 10000000 = true
      · have HI := Lib.hid hin
        clear hin
        go_wp2_with fail
        refine (i_nonum _ _).mono ?_
        rintro e w1 ⟨rfl, rfl⟩
        rw [HI.out]
        go_wp2_with fail
        exact ⟨⟨k + 1, by omega, by go_num, small_take hlt HT.out HI.out, HB.out⟩, by simp [RowKit.intOf]; omega⟩
      · have HI := Lib.hid (Bool.not_eq_true _ ▸ hin)
        clear hin
        go_wp2_with fail
        refine (i_nonum _ _).mono ?_
        rintro e w1 ⟨rfl, rfl⟩
        rw [HI.out]
        go_wp2_with fail
        go_ret
        exact ⟨.inr ⟨small_not hlt HI.out, k, rfl⟩, HB.out⟩
    · obtain rfl : k = v.length := by omega
      clear hbr
      go_wp2
      go_ret
      refine ⟨.inl ⟨?_, rfl⟩, HB.out⟩
      have h := HT.out
      rw [List.take_length] at h
      exact h

set_option maxRecDepth 100000 in
theorem g_containsq (v : List Int) (a : Value) (w : World) (hv : Sl w a (intVals v)) :
    Calls Try.prog 113 #[a, .func (.func 134) #[] #[]] w (GQuiet w (.bool (!small v 10000000))) := by
  have HV := Lib.hid hv
  clear hv
  go_enter Try.func113, Try.ntmps113
  go_wp2_with fail
  refine (g_indexq v a _ HV.out).mono ?_
  rintro e w1 ⟨⟨hs, rfl⟩ | ⟨hs, k, rfl⟩, hb⟩
  · have HS := Lib.hid hs
    clear hs
    go_wp2_with fail
    go_ret
    exact ⟨ret_bool (by rw [HS.out]; rfl), hb⟩
  · have HS := Lib.hid hs
    clear hs
    have h0 : (0 : Int) ≤ (k : Int) := by omega
    go_wp2_with fail
    go_ret
    exact ⟨ret_bool (by rw [HS.out]; rfl), hb⟩



set_option maxRecDepth 100000 in
set_option maxHeartbeats 400000 in
theorem g_within (p : Hf) (v : Value) (w : World) (hv : Hv w v p) :
    Calls Try.prog 101 #[v] w (GQuiet w (.bool (fineQ p))) := by
  obtain ⟨u, rfl, hs⟩ := hv
  have HS := Lib.hid hs
  have K := Lib.hid (Bk.new w #[u, .int .i64 p.2] 63)
  have B0 := Lib.hid (Gr.alloc w (.cells #[u, .int .i64 p.2] 63))
  clear hs
  by_cases l1 : p.2 < 1
  · have E := Lib.hid (fineQ_f1 (p := p) (inR_f (by omega)))
    have l2 : ¬ 1 ≤ p.2 := by omega
    go_enter Try.func101, Try.ntmps101
    go_wp2_with fail
    go_ret
    exact ⟨ret_bool E.out.symm, B0.out⟩
  by_cases l3 : 100000 < p.2
  · have E := Lib.hid (fineQ_f1 (p := p) (inR_f (by omega)))
    have l2 : 1 ≤ p.2 := by omega
    have l4 : ¬ p.2 ≤ 100000 := by omega
    go_enter Try.func101, Try.ntmps101
    go_wp2_with fail
    go_ret
    exact ⟨ret_bool E.out.symm, B0.out⟩
  have E := Lib.hid (fineQ_e (p := p) (inR_mk (by omega) (by omega)))
  have l2 : 1 ≤ p.2 := by omega
  have l4 : p.2 ≤ 100000 := by omega
  obtain ⟨q, hq⟩ : ∃ q : Bool, small p.1 10000000 = q := ⟨_, rfl⟩
  have HQ := Lib.hid hq
  clear hq
  go_enter Try.func101, Try.ntmps101
  go_wp2_with fail
  refine (g_containsq p.1 _ _ (HS.out.below B0.out.below)).mono ?_
  rintro e w1 ⟨rfl, hb⟩
  rw [HQ.out]
  have B1 := Lib.hid (B0.out.trans hb)
  clear hb
  cases q with
  | true =>
    go_wp2_with fail
    go_ret
    exact ⟨ret_bool (E.out.trans HQ.out).symm, B1.out⟩
  | false =>
    go_wp2_with fail
    go_ret
    exact ⟨ret_bool (E.out.trans HQ.out).symm, B1.out⟩

set_option maxRecDepth 100000 in
set_option maxHeartbeats 1600000 in
theorem g_cmp (p q : Hf) (v u : Value) (w : World) (hv : Hv w v p) (hu : Hv w u q) :
    Calls Try.prog 54 #[v, u] w (GQuiet w (.int .i64 (cmpQ p q))) := by
  have HP := Lib.hid hv
  have HQ := Lib.hid hu
  obtain ⟨x, rfl, hx⟩ := hv
  obtain ⟨y, rfl, hy⟩ := hu
  have HX := Lib.hid hx
  have HY := Lib.hid hy
  obtain ⟨xa, xc, rfl, xm, _⟩ := hx.shape
  obtain ⟨ya, yc, rfl, ym, _⟩ := hy.shape
  rw [intVals_len] at xm HX HP ym HY HQ ⊢
  rw [intVals_len]
  unfold maxLen at xm ym
  have B0 := Lib.hid ((Gr.alloc w (.cells #[.slice xa p.1.length xc, .int .i64 p.2] 63)).trans (Gr.alloc _ (.cells #[.slice ya q.1.length yc, .int .i64 q.2] 63)))
  have K := Lib.hid (Bk.pair w #[.slice xa p.1.length xc, .int .i64 p.2] #[.slice ya q.1.length yc, .int .i64 q.2] 63 63)
  clear hx hy
  by_cases c3 : p.1.length = q.1.length
  case neg =>
    have E := Lib.hid (cmpQ_f3 c3)
    have hne : ((p.1.length : Int) != (q.1.length : Int)) = true := by rw [bne_iff_ne]; omega
    clear c3
    go_enter Try.func54, Try.ntmps54
    go_wp2_with fail
    go_ret
    exact ⟨ret_int E.out.symm, B0.out⟩
  have C3 := Lib.hid c3
  have hne : ((p.1.length : Int) != (q.1.length : Int)) = false := by rw [bne_eq_false_iff_eq]; omega
  by_cases c1 : fineQ p = true
  case neg =>
    have C1 := Lib.hid (bool_f c1)
    have E := Lib.hid (cmpQ_f1 (q := q) (bool_f c1))
    clear c1 c3
    go_enter Try.func54, Try.ntmps54
    go_wp2_with fail
    refine (g_within p _ _ (HP.out.below B0.out.below)).mono ?_
    rintro e w1 ⟨rfl, hb⟩
    rw [C1.out]
    have B1 := Lib.hid (B0.out.trans hb)
    clear hb
    go_wp2_with fail
    go_ret
    exact ⟨ret_int E.out.symm, B1.out⟩
  have C1 := Lib.hid c1
  by_cases c2 : fineQ q = true
  case neg =>
    have C2 := Lib.hid (bool_f c2)
    have E := Lib.hid (cmpQ_f2 (p := p) (bool_f c2))
    clear c1 c2 c3
    go_enter Try.func54, Try.ntmps54
    go_wp2_with fail
    refine (g_within p _ _ (HP.out.below B0.out.below)).mono ?_
    rintro e w1 ⟨rfl, hb⟩
    rw [C1.out]
    have B1 := Lib.hid (B0.out.trans hb)
    obtain ⟨⟨n0, n1⟩, -⟩ := (K.out.2.below hb.below).two
    clear hb
    go_wp2_with fail
    refine (g_within q _ _ (HQ.out.below B1.out.below)).mono ?_
    rintro e w2 ⟨rfl, hb⟩
    rw [C2.out]
    have B2 := Lib.hid (B1.out.trans hb)
    clear hb n0 n1
    go_wp2_with fail
    go_ret
    exact ⟨ret_int E.out.symm, B2.out⟩
  have C2 := Lib.hid c2
  have E := Lib.hid (cmpQ_t c1 c2 c3)
  have PP := Lib.hid (fun k hk => cmp_prod c1 c2 k hk)
  have PQ := Lib.hid (fun k hk => cmp_prod c2 c1 k hk)
  clear c1 c2 c3
  go_enter Try.func54, Try.ntmps54
  go_wp2_with fail
  refine (g_within p _ _ (HP.out.below B0.out.below)).mono ?_
  rintro e w1 ⟨rfl, hb⟩
  rw [C1.out]
  have B1 := Lib.hid (B0.out.trans hb)
  have K1 := Lib.hid (And.intro (K.out.1.below hb.below) (K.out.2.below hb.below))
  obtain ⟨⟨n0, n1⟩, -⟩ := K1.out.2.two
  clear hb
  go_wp2_with fail
  refine (g_within q _ _ (HQ.out.below B1.out.below)).mono ?_
  rintro e w2 ⟨rfl, hb⟩
  rw [C2.out]
  have B2 := Lib.hid (B1.out.trans hb)
  have K2 := Lib.hid (And.intro (K1.out.1.below hb.below) (K1.out.2.below hb.below))
  clear n0 n1 hb
  obtain ⟨⟨m0, m1⟩, -⟩ := K2.out.1.two
  obtain ⟨⟨n0, n1⟩, -⟩ := K2.out.2.two
  go_wp2
  clear m0 m1 n0 n1
  go_loopw [28] (fun i wr => ∃ k : Nat, k ≤ p.1.length ∧ i = .int .i64 k ∧ cmpN (p.1.drop k) p.2 (q.1.drop k) q.2 = cmpQ p q ∧ Gr w2 wr) (fun i _ => p.1.length - (RowKit.intOf i).toNat)
  case atStart => exact ⟨0, Nat.zero_le _, rfl, by rw [E.out]; rfl, Gr.refl _⟩
  case round =>
    obtain ⟨k, hk, rfl, ht, hbr⟩ := hrel
    have HB := Lib.hid hbr
    have HT := Lib.hid ht
    have HA := Lib.hid (B2.out.trans hbr)
    have hb4 := K2.out.1.lt
    have hb5 := K2.out.2.lt
    obtain ⟨⟨m0, m1⟩, -⟩ := (K2.out.1.below hbr.below).two
    obtain ⟨⟨n0, n1⟩, -⟩ := (K2.out.2.below hbr.below).two
    clear ht
    by_cases hlt : k < p.1.length
    · have hlt' : k < q.1.length := by have := C3.out; omega
      obtain ⟨b, off, rfl, hb2, hcell⟩ := HX.out.get k hlt
      obtain ⟨b', off', rfl, hb2', hcell'⟩ := HY.out.get k hlt'
      rw [← HA.out.below.cell (p := ⟨b, off + k, none⟩) hb2] at hcell
      rw [← HA.out.below.cell (p := ⟨b', off' + k, none⟩) hb2'] at hcell'
      have hb3 : b' < w2.heap.size := Nat.lt_of_lt_of_le hb2' B2.out.below.size
      have i1 : (0 : Int) ≤ (k : Int) := by omega
      have i2 : (k : Int) < (p.1.length : Int) := by omega
      have i3 : (k : Int) < (q.1.length : Int) := by omega
      obtain ⟨p1, p2⟩ := PP.out k hlt
      obtain ⟨q1, q2⟩ := PQ.out k hlt'
      have EQ := Lib.hid (cmpN_eq (d := p.2) (e := q.2) hlt hlt')
      have LT := Lib.hid (cmpN_lt (d := p.2) (e := q.2) hlt hlt')
      have GT := Lib.hid (cmpN_gt (d := p.2) (e := q.2) hlt hlt')
      generalize p.1[k] = s at *
      generalize q.1[k] = t at *
      have hw1 : IntKind.i64.wrap (s * q.2) = s * q.2 := IntWalk.i64_in _ (by omega)
      have hw2 : IntKind.i64.wrap (t * p.2) = t * p.2 := IntWalk.i64_in _ (by omega)
      have HK := Lib.hid hb4
      go_wp2_with fail
      go_region_held3 (fun w' => w'.cell? ⟨w.heap.size + 1, 1, none⟩ = some (.int .i64 q.2) ∧ w'.cell? ⟨w.heap.size + 1, 0, none⟩ = some (.slice (some ⟨b', off', none⟩) q.1.length yc) ∧ w'.cell? ⟨b', off' + k, none⟩ = some (.int .i64 t) ∧ w'.cell? ⟨w.heap.size, 1, none⟩ = some (.int .i64 p.2) ∧ Gr w2 w')
        (first
          | with_reducible exact keepGd n1 n0 hcell' m1 hbr
          | (go_split_ands; with_reducible exact keepGe hb5 hb5 hb3 hb4 (by assumption) (by assumption) (by assumption) (by assumption) (by assumption) (by assumption))
          | go_keep)
        (first | (go_at_call 105; refine (i_ccmp (s * q.2) (t * p.2) _).mono ?_; rintro e w1 ⟨rfl, rfl⟩))
      rename_i hH
      have HB1 := Lib.hid hH.2.2.2.2
      have HA1 := Lib.hid (B2.out.trans HB1.out)
      clear hH hbr m0 m1 n0 n1 hcell hcell'
      obtain ⟨c, hc⟩ : ∃ c : Int, cmpI (s * q.2) (t * p.2) = c := ⟨_, rfl⟩
      have CC := Lib.hid hc
      rw [hc]
      clear hc
      by_cases e1 : s * q.2 = t * p.2
      · have E2 := Lib.hid ((EQ.out e1).symm.trans HT.out)
        have hc0 : c = 0 := CC.out.symm.trans (cmpI_eq e1)
        subst hc0
        go_wp2
        exact ⟨⟨k + 1, by omega, by go_num, E2.out, HB1.out⟩, by simp [RowKit.intOf]; omega⟩
      · by_cases e2 : s * q.2 < t * p.2
        · have E2 := Lib.hid ((LT.out e2).symm.trans HT.out)
          have hc0 : c = -1 := CC.out.symm.trans (cmpI_lt e2)
          subst hc0
          go_wp2
          go_ret
          exact ⟨ret_int E2.out, HA1.out⟩
        · have e3 : t * p.2 < s * q.2 := by omega
          have E2 := Lib.hid ((GT.out e3).symm.trans HT.out)
          have hc0 : c = 1 := CC.out.symm.trans (cmpI_gt e3)
          subst hc0
          go_wp2
          go_ret
          exact ⟨ret_int E2.out, HA1.out⟩
    · obtain rfl : k = p.1.length := by omega
      have E2 := Lib.hid (HT.out.symm.trans (cmpN_end C3.out))
      clear hbr
      go_wp2
      go_ret
      exact ⟨ret_int E2.out.symm, HA.out⟩
end Go.Proofs.Ytckpifcdlmfabaa
