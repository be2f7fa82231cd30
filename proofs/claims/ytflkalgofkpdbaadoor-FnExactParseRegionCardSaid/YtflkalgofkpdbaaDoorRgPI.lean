/- The program's ParseRegion. -/
import Derived.Test.YtflkalgofkpdbaaDoorRgPS
import Derived.Test.YtflkalgofkpdbaaDoorRgTI
namespace Go.Proofs.YtflkalgofkpdbaaDoor
open Go.RowKit Go.Lib

/-- What a function that answers a half and whether it is there leaves. -/
def GotHv (w : World) (r : Hf × Bool) (e : Ending) (w' : World) : Prop := (∃ v, e = .returned (.tuple #[v, .bool r.2]) ∧ OwHv w.heap.size w'.heap.size w' v r.1) ∧ Below w.heap.size w w'
theorem OwHv.zero {lo hi : Nat} {w : World} : OwHv lo hi w (.agg #[.slice none 0 0, .int .i64 0]) ([], 0) := ⟨_, rfl, OwnV.nil⟩

set_option maxRecDepth 100000 in
set_option maxHeartbeats 1600000 in
theorem i_parsehalf (s : ByteArray) (hs : s.size ≤ 1048576) (w : World) (hv : Vars w) (hx : HasMax w) :
    Calls Tryd.prog 29 #[.string s] w (GotHv w (parsH s)) := by
  have HV := Lib.hid hv
  have HM := Lib.hid hx
  have HS := Lib.hid (isplit s 60 hs)
  have hsz := parts_size (c := 60) s.data.toList
  rw [show parsH s = parsH2 (parts 60 s.data.toList) from rfl]
  rw [list_len] at hsz
  generalize parts 60 s.data.toList = xs at HS hsz ⊢
  clear hv hx
  have K0 := Lib.hid (Bk.new w #[.slice none 0 0, .int .i64 0] 43)
  have B0 := Lib.hid (below1 w (.cells #[.slice none 0 0, .int .i64 0] 43))
  by_cases h2 : xs.length = 2
  · obtain ⟨a, b, rfl⟩ := two_of h2
    have HA := Lib.hid (i_pars a (by have := hsz a (by simp); omega))
    have HB := Lib.hid (i_readI b (by have := hsz b (by simp); omega))
    have HX := Lib.hid (parsH2_f1 (a := a) (b := b))
    have HX2 := Lib.hid (parsH2_f2 (a := a) (b := b))
    have HX3 := Lib.hid (parsH2_t (a := a) (b := b))
    unfold rdS at HX2 HX3
    generalize hv1 : parsV a.data.toList = V1 at HA HX HX3
    generalize hv2 : rdI b.data.toList = V2 at HB HX2 HX3
    clear hv1 hv2 hsz h2
    obtain ⟨l1, o1⟩ := V1
    obtain ⟨n2, o2⟩ := V2
    simp only [Bool.false_eq_true] at HX HX2 HX3
    go_enter Tryd.func29, Tryd.ntmps29
    go_wp2_with fail
    refine (HS.out _ (HM.out.below B0.out)).mono ?_
    rintro e w4 ⟨⟨g4, rfl, ho4⟩, hb4⟩
    have B4 := Lib.hid (B0.out.trans (hb4.mono B0.out.size))
    have K4 := Lib.hid (K0.out.below hb4)
    have HSL := Lib.hid (Sl.of_owns ho4)
    have Z4 := Lib.hid hb4.size
    clear ho4 hb4
    obtain ⟨q, off2, c2, he2, hc2, hq2, ca, cb⟩ := two_cells HSL.out
    obtain ⟨rfl, rfl⟩ : g4 = q ∧ off2 = 0 := by simp at he2; exact ⟨he2.1.1, he2.1.2.symm⟩
    clear hc2 he2
    go_wp2_with fail
    refine (HA.out _ (HV.out.below B4.out) (HM.out.below B4.out)).mono ?_
    rintro e w5 ⟨⟨v5, rfl, ho5⟩, hb5⟩
    have cb5 := (hb5.cell (p := ⟨g4, 0 + 1, none⟩) hq2).trans cb
    have hq5 := Nat.lt_of_lt_of_le hq2 hb5.size
    have B5 := Lib.hid (B4.out.trans (hb5.mono B4.out.size))
    have K5 := Lib.hid (K4.out.below hb5)
    have HO5 := Lib.hid ho5
    have Z5 := Lib.hid hb5.size
    obtain ⟨a5, c5, rfl, hm5⟩ := ho5.shape1
    rw [intVals_len] at hm5 HO5 ⊢
    clear ho5 hb5 ca cb
    go_wp2_with fail
    refine (HB.out _ (HV.out.below B5.out)).mono ?_
    rintro e w6 ⟨rfl, hb6⟩
    have B6 := Lib.hid (B5.out.trans (hb6.mono B5.out.size))
    have K6 := Lib.hid (K5.out.below hb6)
    have HO6 := Lib.hid ((HO5.out.below hb6).mono (Nat.le_refl _) hb6.size)
    have Z6 := Lib.hid hb6.size
    clear hb6 cb5
    obtain ⟨⟨p0, p1⟩, pf0, pf1⟩ := K6.out.two
    cases o1 with
    | false =>
      go_wp2
      rw [HX.out trivial]
      refine bodyPost_ret (v := .tuple #[.agg #[.slice none 0 0, .int .i64 0], .bool false]) ?_ rfl ⟨⟨_, rfl, OwHv.zero⟩, (B6.out.setCell (by simp) _).setCell (by simp) _⟩
      simp [results, Tryd.results29, go_sem, p0, p1]
    | true =>
      cases o2 with
      | false =>
        go_wp2
        rw [HX2.out trivial]
        refine bodyPost_ret (v := .tuple #[.agg #[.slice none 0 0, .int .i64 0], .bool false]) ?_ rfl ⟨⟨_, rfl, OwHv.zero⟩, (B6.out.setCell (by simp) _).setCell (by simp) _⟩
        simp [results, Tryd.results29, go_sem, p0, p1]
      | true =>
        go_wp2
        rw [HX3.out trivial trivial]
        refine bodyPost_ret (v := .tuple #[.agg #[.slice a5 l1.length c5, .int .i64 n2], .bool true]) ?_ rfl ⟨⟨_, rfl, _, rfl, ?_⟩, (B6.out.setCell (by simp) _).setCell (by simp) _⟩
        · simp [results, Tryd.results29, go_sem, p0, p1]
        · have h1 := alloc_lt w (.cells #[.slice none 0 0, .int .i64 0] 43)
          exact (HO6.out.kept (((Kept.refl w.heap.size (w.heap.size + 1) w6).setCell (p := ⟨w.heap.size, 0, none⟩) (Nat.le_refl _) (Nat.lt_succ_self _) _).setCell (p := ⟨w.heap.size, 1, none⟩) (Nat.le_refl _) (Nat.lt_succ_self _) _) (.inr (Nat.le_trans h1 Z4.out))).mono B4.out.size (by simp [World.setCell])
  · have HX := Lib.hid (parsH2_not h2)
    go_enter Tryd.func29, Tryd.ntmps29
    go_wp2_with fail
    refine (HS.out _ (HM.out.below B0.out)).mono ?_
    rintro e w4 ⟨⟨g4, rfl, ho4⟩, hb4⟩
    have B4 := Lib.hid (B0.out.trans (hb4.mono B0.out.size))
    obtain ⟨⟨p0, p1⟩, pf0, pf1⟩ := (K0.out.below hb4).two
    have hm4 := (Sl.of_owns ho4).shape
    have h3 : ¬ (xs.length : Int) = 2 := by omega
    clear ho4 hb4 hm4
    go_wp2
    rw [HX.out]
    refine bodyPost_ret (v := .tuple #[.agg #[.slice none 0 0, .int .i64 0], .bool false]) ?_ rfl ⟨⟨_, rfl, OwHv.zero⟩, (B4.out.setCell (by simp) _).setCell (by simp) _⟩
    simp [results, Tryd.results29, go_sem, p0, p1]

set_option maxRecDepth 100000 in
set_option maxHeartbeats 3200000 in
theorem i_parsreg (s : ByteArray) (hs : s.size ≤ 1048576) (w : World) (hv : Vars w) (hx : HasMax w) :
    Calls Tryd.prog 11 #[.string s] w (GotG w (parsR s.data.toList)) := by
  have HV := Lib.hid hv
  have HM := Lib.hid hx
  have HS := Lib.hid (isplit s 59 hs)
  have hps := parts_size (c := 59) s.data.toList
  have hp1 := parts_some 59 s.data.toList
  have hpn : (parts 59 s.data.toList).length ≤ 1048577 := by
    rw [parts_len]
    have := sp_len_le 59 s.data.toList
    rw [list_len] at this; omega
  unfold parsR
  rw [list_len] at hps
  generalize parts 59 s.data.toList = ps at HS hps hp1 hpn ⊢
  obtain ⟨p, qs, rfl⟩ := cons_parts hp1
  clear hp1 hv hx
  have HP := Lib.hid (show p.size ≤ s.size ∧ ∀ j (h : j < qs.length), qs[j].size ≤ s.size from ⟨hps p (List.mem_cons_self ..), fun j h => hps _ (List.mem_cons_of_mem _ (List.getElem_mem h))⟩)
  have hqn : qs.length ≤ 1048576 := by simpa using hpn
  clear hps hpn
  have K0 := Lib.hid (Bk.new w #[.int .i64 0, .slice none 0 0] 29)
  have B0 := Lib.hid (below1 w (.cells #[.int .i64 0, .slice none 0 0] 29))
  have HR0 := Lib.hid (pn_any p (by have := HP.out.1; omega))
  go_enter Tryd.func11, Tryd.ntmps11
  go_wp2_with fail
  refine (HS.out _ (HM.out.below B0.out)).mono ?_
  rintro e w1 ⟨⟨g1, rfl, ho1⟩, hb1⟩
  have B1 := Lib.hid (B0.out.trans (hb1.mono B0.out.size))
  have K1 := Lib.hid (K0.out.below hb1)
  have hsl := Sl.of_owns ho1
  rw [List.length_cons] at hsl ⊢
  have HS1 := Lib.hid hsl
  obtain ⟨a, c, e1, hm, hopen⟩ := hsl.shape
  rw [strVals_len, List.length_cons] at hm hopen e1
  obtain ⟨bb, off, rfl, hc, hlt1, hx⟩ := hopen (by omega)
  obtain ⟨rfl, rfl⟩ : g1 = bb ∧ off = 0 := by simp at e1; exact ⟨e1.1.1, e1.1.2.symm⟩
  have c0 := hx 0 _ (strVals_get (p :: qs) 0 (by simp))
  rw [Nat.add_zero, List.getElem_cons_zero] at c0
  clear ho1 hb1 hsl hopen hx hm hc e1
  go_wp2_with fail
  refine (HR0.out _ (HV.out.below B1.out)).mono ?_
  rintro e w2 ⟨he2, hb2⟩
  have B2 := Lib.hid (B1.out.trans (hb2.mono B1.out.size))
  have K2 := Lib.hid (K1.out.below hb2)
  have HS2 := Lib.hid (HS1.out.below hb2)
  clear hb2 c0 hlt1 HS1 B1 K1 HS K0 B0 HR0
  rcases he2 with ⟨n, hn, rfl⟩ | ⟨hn, rfl⟩
  case inr =>
    have F := Lib.hid (pn_none (qs := qs) hn)
    obtain ⟨⟨p0, p1⟩, pf0, pf1⟩ := K2.out.two
    clear hn
    go_wp2
    rw [F.out]
    refine bodyPost_ret (v := .tuple #[.agg #[.int .i64 0, .slice none 0 0], .bool false]) ?_ rfl ⟨⟨_, rfl, OwG.zero⟩, (B2.out.setCell (by simp) _).setCell (by simp) _⟩
    simp [results, Tryd.results11, go_sem, p0, p1]
  have HQ := Lib.hid (show rdS p = (n, true) from pn_reg hn.1)
  have HQ1 := Lib.hid (congrArg Prod.fst HQ.out)
  have HQ2 := Lib.hid (congrArg Prod.snd HQ.out)
  simp only at HQ1 HQ2
  clear hn HQ
  have HW3 := Lib.hid (show ∀ W, W = w2.alloc (.cells #[.int .i64 n, .slice none 0 0] 29) → PaI w2 n [] (.slice none 0 0) W by
    intro W hW
    subst hW
    exact ⟨Bk.new w2 _ _, OwH.nil, below1 w2 _, by simp⟩)
  by_cases hq : qs = []
  case pos =>
    subst hq
    go_wp2_with fail
    refine wgen ?_
    intro W0 hW0
    have HA := Lib.hid (HW3.out W0 hW0)
    have HK2 := Lib.hid (show hsOk [] = true from rfl)
    have BR := Lib.hid (B2.out.trans (HA.out.2.2.1.mono B2.out.size))
    have KR := Lib.hid (K2.out.below HA.out.2.2.1)
    have ZR := Lib.hid K2.out.lt
    clear hW0 HW3 HS2 HP
    obtain ⟨⟨l0, l1⟩, -⟩ := HA.out.1.two
    go_loopw [29] (fun i w' => i = .int .i64 0 ∧ w' = W0) (fun i _ => 0)
    case atStart => exact ⟨rfl, rfl⟩
    case round =>
      obtain ⟨rfl, rfl⟩ := hrel
      have HG := Lib.hid (show Rg wr (.agg #[.int .i64 n, .slice none 0 0]) (n, hsL ([] : List ByteArray)) from ⟨_, rfl, HA.out.2.1.hs⟩)
      by_cases cr : regOk n (hsL ([] : List ByteArray)) = true
      · have CR := Lib.hid cr
        have F := Lib.hid (show parsRL (p :: ([] : List ByteArray)) = ((n, hsL ([] : List ByteArray)), true) by
          rw [parsRL_t HQ2.out HK2.out (by rw [HQ1.out]; exact CR.out), HQ1.out])
        clear cr
        go_wp2_with fail
        refine (i_isreg (n, hsL ([] : List ByteArray)) _ _ HG.out).mono ?_
        rintro e w4 ⟨rfl, hb4⟩
        rw [show regOk (n, hsL ([] : List ByteArray)).1 (n, hsL ([] : List ByteArray)).2 = true from CR.out]
        have B4 := Lib.hid (BR.out.trans (hb4.mono BR.out.size))
        have A4 := Lib.hid (And.intro (HA.out.1.below hb4) (HA.out.2.1.below hb4))
        have Z4 := Lib.hid hb4.size
        obtain ⟨⟨p0, p1⟩, pf0, pf1⟩ := (KR.out.below hb4).two
        clear hb4 l0 l1
        obtain ⟨⟨l0, l1⟩, -⟩ := A4.out.1.two
        go_wp2
        rw [F.out]
        refine bodyPost_ret (v := .tuple #[.agg #[.int .i64 n, .slice none 0 0], .bool true]) ?_ rfl ⟨⟨_, rfl, _, rfl, ?_⟩, (B4.out.setCell (by simp) _).setCell (by simp) _⟩
        · simp [results, Tryd.results11, go_sem, p0, p1]
        · have h1 := ZR.out
          have h2 := B2.out.size
          exact (A4.out.2.kept (((Kept.refl w.heap.size (w.heap.size + 1) w4).setCell (p := ⟨w.heap.size, 0, none⟩) (Nat.le_refl _) (Nat.lt_succ_self _) _).setCell (p := ⟨w.heap.size, 1, none⟩) (Nat.le_refl _) (Nat.lt_succ_self _) _) (.inr (by omega))).mono (by omega) (by have h3 := Z4.out; simp only [World.setCell, Array.size_modify]; omega)
      · have CR := Lib.hid (bool_f cr)
        have F := Lib.hid (parsRL_f3 (p := p) (qs := ([] : List ByteArray)) (by rw [HQ1.out]; exact cr))
        clear cr
        go_wp2_with fail
        refine (i_isreg (n, hsL ([] : List ByteArray)) _ _ HG.out).mono ?_
        rintro e w4 ⟨rfl, hb4⟩
        rw [show regOk (n, hsL ([] : List ByteArray)).1 (n, hsL ([] : List ByteArray)).2 = false from CR.out]
        have B4 := Lib.hid (BR.out.trans (hb4.mono BR.out.size))
        obtain ⟨⟨p0, p1⟩, pf0, pf1⟩ := (KR.out.below hb4).two
        clear hb4
        go_wp2
        rw [F.out]
        refine bodyPost_ret (v := .tuple #[.agg #[.int .i64 0, .slice none 0 0], .bool false]) ?_ rfl ⟨⟨_, rfl, OwG.zero⟩, (B4.out.setCell (by simp) _).setCell (by simp) _⟩
        simp [results, Tryd.results11, go_sem, p0, p1]
  case neg =>
    have hq1 : 0 < qs.length := List.length_pos_iff.2 hq
    go_wp2_with fail
    refine wgen ?_
    intro W3 hW3
    have P3 := Lib.hid (HW3.out W3 hW3)
    clear hW3 HW3 hq
    go_loopw [29] (fun i wr => ∃ (k : Nat) (u : Value), k ≤ qs.length ∧ i = .int .i64 k ∧ hsOk (qs.take k) = true ∧ PaI w2 n (hsL (qs.take k)) u wr) (fun i _ => qs.length - (RowKit.intOf i).toNat)
    case atStart => exact ⟨0, _, Nat.zero_le _, rfl, rfl, P3.out⟩
    case round =>
      obtain ⟨k, u, hk, rfl, hok, hpa⟩ := hrel
      have HK := Lib.hid hok
      have HP3 := Lib.hid hpa
      obtain ⟨ua, uc, rfl, hum⟩ := hpa.2.1.hs.shape
      rw [hsL_len, show (qs.take k).length = k by rw [List.length_take]; omega] at HP3
      clear hok hpa hum
      by_cases hlt : k < qs.length
      · obtain ⟨d', c', e', hm', hopen⟩ := (HS2.out.below HP3.out.2.2.1).shape
        rw [strVals_len, List.length_cons] at e' hopen
        obtain ⟨b', off', rfl, hc', hlt1, hx⟩ := hopen (by omega)
        simp only [Value.slice.injEq, Option.some.injEq, Addr.mk.injEq] at e'
        obtain ⟨⟨rfl, rfl, -⟩, -, -⟩ := e'
        have hcell := hx (k + 1) _ (cons_get rfl hlt)
        rw [show 0 + (k + 1) = 1 + k by omega] at hcell
        have i1 : (0 : Int) ≤ (k : Int) := by omega
        have i2 : (k : Int) < (qs.length : Int) := by omega
        have hz := HP.out.2 k hlt
        have HH := Lib.hid (i_parsehalf qs[k] (by omega))
        have HTK := Lib.hid (hsL_take hlt)
        have HN := Lib.hid (fun h => hsOk_not hlt h)
        have HY := Lib.hid (fun h => hsOk_take hlt HK.out h)
        generalize hph : parsH qs[k] = R at HH HTK HN HY
        obtain ⟨⟨l1, n2⟩, o⟩ := R
        simp only at HTK HN HY
        have BR := Lib.hid (B2.out.trans (HP3.out.2.2.1.mono B2.out.size))
        clear hx hopen hm' hc' hph hz
        go_wp2_with fail
        refine (HH.out _ (HV.out.below BR.out) (HM.out.below BR.out)).mono ?_
        rintro e w4 ⟨⟨v4, rfl, v5, rfl, ho4⟩, hb4⟩
        have B4 := Lib.hid (HP3.out.2.2.1.trans (hb4.mono HP3.out.2.2.1.size))
        have PB4 := Lib.hid (And.intro (HP3.out.1.below hb4) (HP3.out.2.1.below hb4))
        have HO4 := Lib.hid ho4
        have HZ4 := Lib.hid hb4.size
        have HZW := Lib.hid HP3.out.2.2.2
        obtain ⟨a5, c5, rfl, hm5⟩ := ho4.shape1
        rw [intVals_len] at hm5 HO4 ⊢
        simp only at HO4 hm5 ⊢
        clear ho4 hb4
        have K4 := Lib.hid (K2.out.below B4.out)
        cases o with
        | false =>
          have F := Lib.hid (parsRL_f2 (p := p) (HN.out rfl))
          have nb := below1 w4 (.cells #[.slice a5 l1.length c5, .int .i64 n2] 43)
          have B5 := Lib.hid (B2.out.trans ((B4.out.trans (nb.mono B4.out.size)).mono B2.out.size))
          obtain ⟨⟨p0, p1⟩, pf0, pf1⟩ := (K4.out.below nb).two
          clear nb
          go_wp2
          rw [F.out]
          refine bodyPost_ret (v := .tuple #[.agg #[.int .i64 0, .slice none 0 0], .bool false]) ?_ rfl ⟨⟨_, rfl, OwG.zero⟩, (B5.out.setCell (by simp) _).setCell (by simp) _⟩
          simp [results, Tryd.results11, go_sem, p0, p1]
        | true =>
          have HY2 := Lib.hid (HY.out rfl)
          have HLN := Lib.hid (show (hsL (qs.take k)).length = k by rw [hsL_len, List.length_take]; omega)
          have nb1 := below1 w4 (.cells #[.slice a5 l1.length c5, .int .i64 n2] 43)
          have nb2 := below2 w4 (.cells #[.slice a5 l1.length c5, .int .i64 n2] 43) (.cells #[.slice a5 l1.length c5, .int .i64 n2] 43)
          have KH := Lib.hid (Bk.new w4 #[.slice a5 l1.length c5, .int .i64 n2] 43)
          have PK7 := Lib.hid (PB4.out.1.below nb2)
          have PK6 := Lib.hid (PB4.out.1.below nb1)
          have PO7 := Lib.hid (PB4.out.2.below nb2)
          have PU7 := Lib.hid ((HO4.out.below nb2).mono (Nat.le_refl _) nb2.size)
          have HB7 := Lib.hid (B4.out.trans (nb2.mono B4.out.size))
          have HW7 := Lib.hid (Nat.le_trans HZ4.out nb2.size)
          clear nb1 nb2
          obtain ⟨⟨-, q1⟩, -, qf1⟩ := PK6.out.two
          obtain ⟨⟨m0, m1⟩, -⟩ := KH.out.two
          go_wp2_with (at_builtin; refine list_app_half rfl _ _ rfl (w2.heap.size + 1) wr.heap.size _ _ (hsL (qs.take k)) (l1, n2) rfl PO7.out PU7.out (w4.heap.size + 1) rfl (Bk.pair w4 _ _ _ _).2 (by rw [HLN.out]; omega) HZW.out HW7.out ?_; intro g7 cap7 w7 ho7 hb7 hd7 hg7; have PK8 := Lib.hid (PK7.out.since hb7 (Nat.lt_succ_self _)); have HO8 := Lib.hid ho7; have HB8 := Lib.hid (HB7.out.trans (hb7.mono (Nat.le_succ _))); have HZ8 := Lib.hid hg7.size; clear ho7 hb7 hd7 hg7; obtain ⟨⟨-, r1⟩, -, rf1⟩ := PK8.out.two)
          have HT9 := Lib.hid (show hsL (qs.take k) ++ [(l1, n2)] = hsL (qs.take (k + 1)) from HTK.out.symm)
          rw [HT9.out] at HO8
          rw [HLN.out] at HO8 ⊢
          exact ⟨⟨k + 1, _, by omega, by go_num, HY2.out, PK8.out.set1 _, (HO8.out.kept ((Kept.refl w2.heap.size (w2.heap.size + 1) w7).setCell (p := ⟨w2.heap.size, 1, none⟩) (Nat.le_refl _) (Nat.lt_succ_self _) _) (.inr (Nat.le_refl _))).mono (Nat.le_refl _) (by simp [World.setCell]), HB8.out.setCell (Nat.le_refl _) _, by have h1 := HW7.out; have h2 := HZ8.out; have h3 := HZW.out; simp only [World.setCell, Array.size_modify]; omega⟩, by simp [RowKit.intOf]; omega⟩
      · obtain rfl : k = qs.length := by omega
        have hk2 := HK.out
        have ha := HP3.out
        rw [List.take_length] at hk2 ha
        have HK2 := Lib.hid hk2
        have HA := Lib.hid ha
        have BR := Lib.hid (B2.out.trans (ha.2.2.1.mono B2.out.size))
        have KR := Lib.hid (K2.out.below ha.2.2.1)
        have ZR := Lib.hid K2.out.lt
        obtain ⟨⟨l0, l1⟩, -⟩ := ha.1.two
        clear hk2 ha hlt
        have HG := Lib.hid (show Rg wr (.agg #[.int .i64 n, .slice ua qs.length uc]) (n, hsL qs) from ⟨_, rfl, HA.out.2.1.hs⟩)
        by_cases cr : regOk n (hsL qs) = true
        · have CR := Lib.hid cr
          have F := Lib.hid (show parsRL (p :: qs) = ((n, hsL qs), true) by
            rw [parsRL_t HQ2.out HK2.out (by rw [HQ1.out]; exact CR.out), HQ1.out])
          clear cr
          go_wp2_with fail
          refine (i_isreg (n, hsL qs) _ _ HG.out).mono ?_
          rintro e w4 ⟨rfl, hb4⟩
          rw [show regOk (n, hsL qs).1 (n, hsL qs).2 = true from CR.out]
          have B4 := Lib.hid (BR.out.trans (hb4.mono BR.out.size))
          have A4 := Lib.hid (And.intro (HA.out.1.below hb4) (HA.out.2.1.below hb4))
          have Z4 := Lib.hid hb4.size
          obtain ⟨⟨p0, p1⟩, pf0, pf1⟩ := (KR.out.below hb4).two
          clear hb4 l0 l1
          obtain ⟨⟨l0, l1⟩, -⟩ := A4.out.1.two
          go_wp2
          rw [F.out]
          refine bodyPost_ret (v := .tuple #[.agg #[.int .i64 n, .slice ua qs.length uc], .bool true]) ?_ rfl ⟨⟨_, rfl, _, rfl, ?_⟩, (B4.out.setCell (by simp) _).setCell (by simp) _⟩
          · simp [results, Tryd.results11, go_sem, p0, p1]
          · have h1 := ZR.out
            have h2 := B2.out.size
            exact (A4.out.2.kept (((Kept.refl w.heap.size (w.heap.size + 1) w4).setCell (p := ⟨w.heap.size, 0, none⟩) (Nat.le_refl _) (Nat.lt_succ_self _) _).setCell (p := ⟨w.heap.size, 1, none⟩) (Nat.le_refl _) (Nat.lt_succ_self _) _) (.inr (by omega))).mono (by omega) (by have h3 := Z4.out; simp only [World.setCell, Array.size_modify]; omega)
        · have CR := Lib.hid (bool_f cr)
          have F := Lib.hid (parsRL_f3 (p := p) (qs := qs) (by rw [HQ1.out]; exact cr))
          clear cr
          go_wp2_with fail
          refine (i_isreg (n, hsL qs) _ _ HG.out).mono ?_
          rintro e w4 ⟨rfl, hb4⟩
          rw [show regOk (n, hsL qs).1 (n, hsL qs).2 = false from CR.out]
          have B4 := Lib.hid (BR.out.trans (hb4.mono BR.out.size))
          obtain ⟨⟨p0, p1⟩, pf0, pf1⟩ := (KR.out.below hb4).two
          clear hb4
          go_wp2
          rw [F.out]
          refine bodyPost_ret (v := .tuple #[.agg #[.int .i64 0, .slice none 0 0], .bool false]) ?_ rfl ⟨⟨_, rfl, OwG.zero⟩, (B4.out.setCell (by simp) _).setCell (by simp) _⟩
          simp [results, Tryd.results11, go_sem, p0, p1]
end Go.Proofs.YtflkalgofkpdbaaDoor
