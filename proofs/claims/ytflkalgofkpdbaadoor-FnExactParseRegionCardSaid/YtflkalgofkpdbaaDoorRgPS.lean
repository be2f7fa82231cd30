/- The model's ParseRegion. -/
import Derived.Test.YtflkalgofkpdbaaDoorRgP
import Derived.Test.YtflkalgofkpdbaaDoorRgTS
import Derived.Test.YtflkalgofkpdbaaDoorHfB
import Derived.Test.YtflkalgofkpdbaaDoorMac
import Derived.Test.YtflkalgofkpdbaaDoorMeet
namespace Go.Proofs.YtflkalgofkpdbaaDoor
open Go.RowKit Go.Lib

theorem got_mk3 {w : World} {r r' : Rgn × Bool} {e : Ending} {w' : World} (h : r' = r) (g : GotG w r e w') : GotG w r' e w' := by subst h; exact g
/-- What ParseRegion's loop keeps: the region's box, its halves. -/
def PaI (w2 : World) (n : Int) (hs : List Hf) (u : Value) (wr : World) : Prop :=
  Bk wr w2.heap.size #[.int .i64 n, u] 29 ∧ OwH 43 3 (w2.heap.size + 1) wr.heap.size wr u hs ∧ Below w2.heap.size w2 wr ∧ w2.heap.size + 1 ≤ wr.heap.size
theorem cons_parts {l : List ByteArray} (h : 1 ≤ l.length) : ∃ p qs, l = p :: qs := by
  cases l with
  | nil => simp at h
  | cons p qs => exact ⟨p, qs, rfl⟩
theorem cons_get {p : ByteArray} {qs : List ByteArray} {j k : Nat} (hk : k = j + 1) (hj : j < qs.length) : (strVals (p :: qs))[k]? = some (.string qs[j]) := by
  subst hk
  have := strVals_get (p :: qs) (j + 1) (by simp; omega)
  simpa using this
/-- The cells of two strings. -/
theorem two_cells {w : World} {v : Value} {a b : ByteArray} (h : Sl w v (strVals [a, b])) : ∃ q off c, v = .slice (some ⟨q, off, none⟩) 2 c ∧ 2 ≤ c ∧ q < w.heap.size ∧ w.cell? ⟨q, off, none⟩ = some (.string a) ∧ w.cell? ⟨q, off + 1, none⟩ = some (.string b) := by
  obtain ⟨d, c, rfl, _, ho⟩ := h.shape
  obtain ⟨q, off, rfl, h1, h2, h3⟩ := ho (by simp [strVals])
  exact ⟨q, off, c, by simp [strVals], by simpa [strVals] using h1, h2, by simpa using h3 0 _ rfl, h3 1 _ rfl⟩
set_option maxRecDepth 100000 in
set_option maxHeartbeats 3200000 in
theorem s_parsreg (s : ByteArray) (hs : s.size ≤ 1048576) (w : World) :
    Calls Tryd.prog 10 #[.string s] w (GotG w (parsR s.data.toList)) := by
  have HS := Lib.hid (ssplit s 59 hs)
  have hps := parts_size (c := 59) s.data.toList
  have hp1 := parts_some 59 s.data.toList
  have hpn : (parts 59 s.data.toList).length ≤ 1048577 := by
    rw [parts_len]
    have := sp_len_le 59 s.data.toList
    rw [list_len] at this; omega
  have HBK := Lib.hid (fun p qs (e : parts 59 s.data.toList = p :: qs) h1 h2 h3 => parsR_back e h1 h2 h3)
  unfold parsR
  rw [list_len] at hps
  generalize parts 59 s.data.toList = ps at HS hps hp1 hpn HBK ⊢
  obtain ⟨p, qs, rfl⟩ := cons_parts hp1
  have HB0 := Lib.hid (HBK.out p qs rfl)
  clear HBK hp1
  have HP := Lib.hid (show p.size ≤ s.size ∧ ∀ j (h : j < qs.length), qs[j].size ≤ s.size from ⟨hps p (List.mem_cons_self ..), fun j h => hps _ (List.mem_cons_of_mem _ (List.getElem_mem h))⟩)
  have hqn : qs.length ≤ 1048576 := by simpa using hpn
  clear hps hpn
  have K0 := Lib.hid (Bk.new w #[.int .i64 0, .slice none 0 0] 29)
  have B0 := Lib.hid (below1 w (.cells #[.int .i64 0, .slice none 0 0] 29))
  have HR0 := Lib.hid (s_readI p (by have := HP.out.1; unfold maxLen; omega))
  generalize hq : rdI p.data.toList = q at HR0
  have HQ0 := Lib.hid (show rdS p = q from hq)
  clear hq
  obtain ⟨n, okb⟩ := q
  go_enter Tryd.func10, Tryd.ntmps10
  go_wp2_with fail
  refine (HS.out _).mono ?_
  rintro e w1 ⟨⟨v1, rfl, ho1⟩, hb1⟩
  have B1 := Lib.hid (B0.out.trans (hb1.mono B0.out.size))
  have K1 := Lib.hid (K0.out.below hb1)
  have hsl := Sl.of_owns ho1
  obtain ⟨a, c, rfl, hm, hopen⟩ := hsl.shape
  rw [strVals_len, List.length_cons] at hm hopen hsl
  rw [strVals_len, List.length_cons]
  obtain ⟨bb, off, rfl, hc, hlt1, hx⟩ := hopen (by omega)
  have c0 := hx 0 _ (strVals_get (p :: qs) 0 (by simp))
  rw [Nat.add_zero, List.getElem_cons_zero] at c0
  have HS1 := Lib.hid hsl
  have HC := Lib.hid (And.intro hc hm)
  clear ho1 hb1 hsl hopen hx hm
  go_wp2_with fail
  refine (HR0.out _).mono ?_
  rintro e w2 ⟨rfl, hb2⟩
  have B2 := Lib.hid (B1.out.trans (hb2.mono B1.out.size))
  have K2 := Lib.hid (K1.out.below hb2)
  have HS2 := Lib.hid (HS1.out.below hb2)
  clear hb2 c0 hlt1
  have HW3 := Lib.hid (show ∀ W, W = w2.alloc (.cells #[.int .i64 n, .slice none 0 0] 29) → PaI w2 n [] (.slice none 0 0) W by
    intro W hW
    subst hW
    exact ⟨Bk.new w2 _ _, OwH.nil, below1 w2 _, by simp⟩)
  go_wp2_with fail
  refine wgen ?_
  intro W3 hW3
  have P3 := Lib.hid (HW3.out W3 hW3)
  clear hW3 HW3
  go_loopw [8] (fun i wr => ∃ (k : Nat) (u : Value), k ≤ qs.length ∧ i = .int .i64 ((k + 1 : Nat) : Int) ∧ hsOk (qs.take k) = true ∧ PaI w2 n (hsL (qs.take k)) u wr) (fun i _ => qs.length + 1 - (RowKit.intOf i).toNat)
  case atStart => exact ⟨0, _, Nat.zero_le _, rfl, rfl, P3.out⟩
  case round =>
    obtain ⟨k, u, hk, rfl, hok, hpa⟩ := hrel
    have HK := Lib.hid hok
    have HP3 := Lib.hid hpa
    obtain ⟨ua, uc, rfl, hum⟩ := hpa.2.1.hs.shape
    rw [hsL_len, show (qs.take k).length = k by rw [List.length_take]; omega] at HP3
    clear hok hpa hum
    by_cases hlt : k < qs.length
    · obtain ⟨d', c', e', hm', hopen⟩ := (HS2.out.below HP3.out.2.2.1).shape
      rw [strVals_len, List.length_cons] at e' hopen
      obtain ⟨b', off', rfl, hc', hlt1, hx⟩ := hopen (by omega)
      simp only [Value.slice.injEq, Option.some.injEq, Addr.mk.injEq] at e'
      obtain ⟨⟨rfl, rfl, -⟩, -, rfl⟩ := e'
      have hcell := hx (k + 1) _ (cons_get rfl hlt)
      have i1 : (0 : Int) ≤ ((k + 1 : Nat) : Int) := by omega
      have i2 : ((k + 1 : Nat) : Int) < ((qs.length + 1 : Nat) : Int) := by omega
      have hz := HP.out.2 k hlt
      have HS3 := Lib.hid (ssplit qs[k] 60 (by omega))
      have hsz := parts_size (c := 60) qs[k].data.toList
      have HTK := Lib.hid (hsL_take hlt)
      have HE := Lib.hid (show parsH qs[k] = parsH2 (parts 60 qs[k].data.toList) from rfl)
      have HN := Lib.hid (fun h => hsOk_not hlt h)
      have HY := Lib.hid (fun h => hsOk_take hlt HK.out h)
      rw [HE.out] at HTK HN HY
      clear HE hx hopen hm' hc'
      generalize parts 60 qs[k].data.toList = xs at HS3 hsz HTK HN HY
      by_cases h2 : xs.length = 2
      · obtain ⟨a, b, rfl⟩ := two_of h2
        have hza := hsz a (by simp)
        have hzb := hsz b (by simp)
        rw [list_len] at hza hzb
        have HA := Lib.hid (s_pars a (by omega))
        have HB := Lib.hid (s_readI b (by unfold maxLen; omega))
        have HX := Lib.hid (parsH2_f1 (a := a) (b := b))
        have HX2 := Lib.hid (parsH2_f2 (a := a) (b := b))
        have HX3 := Lib.hid (parsH2_t (a := a) (b := b))
        unfold rdS at HX2 HX3
        generalize hv1 : parsV a.data.toList = V1 at HA HX HX3
        generalize hv2 : rdI b.data.toList = V2 at HB HX2 HX3
        clear hv1 hv2 hsz hza hzb h2
        obtain ⟨l1, o1⟩ := V1
        obtain ⟨n2, o2⟩ := V2
        simp only [Bool.false_eq_true] at HX HX2 HX3
        go_wp2_with fail
        refine (HS3.out _).mono ?_
        rintro e w4 ⟨⟨v4, rfl, ho4⟩, hb4⟩
        have B4 := Lib.hid (HP3.out.2.2.1.trans (hb4.mono HP3.out.2.2.1.size))
        have HZ4 := Lib.hid hb4.size
        have PB4 := Lib.hid (And.intro (HP3.out.1.below hb4) (HP3.out.2.1.below hb4))
        have HSL := Lib.hid (Sl.of_owns ho4)
        clear ho4 hb4
        obtain ⟨q, off2, c2, rfl, hc2, hq2, ca, cb⟩ := two_cells HSL.out
        clear hc2
        go_wp2_with fail
        refine (HA.out _).mono ?_
        rintro e w5 ⟨⟨v5, rfl, ho5⟩, hb5⟩
        have cb5 := (hb5.cell (p := ⟨q, off2 + 1, none⟩) hq2).trans cb
        have hq5 := Nat.lt_of_lt_of_le hq2 hb5.size
        have B5 := Lib.hid (B4.out.trans (hb5.mono B4.out.size))
        have PB5 := Lib.hid (And.intro (PB4.out.1.below hb5) (PB4.out.2.below hb5))
        have HO5 := Lib.hid ho5
        have HZ45 := Lib.hid hb5.size
        obtain ⟨a5, c5, rfl, hm5⟩ := ho5.shape1
        rw [intVals_len] at hm5 HO5 ⊢
        clear ho5 hb5 ca cb
        go_wp2_with fail
        refine (HB.out _).mono ?_
        rintro e w6 ⟨rfl, hb6⟩
        have B6 := Lib.hid (B5.out.trans (hb6.mono B5.out.size))
        have HZ6 := Lib.hid hb6.size
        have HZ5 := Lib.hid B5.out.size
        have PB6 := Lib.hid (And.intro (PB5.out.1.below hb6) (PB5.out.2.below hb6))
        have HO6 := Lib.hid ((HO5.out.below hb6).mono (Nat.le_refl _) hb6.size)
        have K6 := Lib.hid (K2.out.below B6.out)
        clear hb6 cb5
        by_cases hoo : o1 = true ∧ o2 = true
        · obtain ⟨rfl, rfl⟩ := hoo
          have HX4 := Lib.hid (HX3.out rfl rfl)
          rw [HX4.out] at HTK HY
          have HLN := Lib.hid (show (hsL (qs.take k)).length = k by rw [hsL_len, List.length_take]; omega)
          have hnb := below1 w6 (.cells #[.slice a5 l1.length c5, .int .i64 n2] 43)
          have PK7 := Lib.hid (PB6.out.1.below hnb)
          have PO7 := Lib.hid (PB6.out.2.below hnb)
          have PU7 := Lib.hid (((HO6.out.mono (lo' := wr.heap.size) HZ4.out (Nat.le_refl _)).below hnb).mono (Nat.le_refl _) hnb.size)
          have HB7 := Lib.hid (B6.out.trans (hnb.mono B6.out.size))
          have HW7 := Lib.hid (show wr.heap.size ≤ (w6.alloc (.cells #[.slice a5 l1.length c5, .int .i64 n2] 43)).heap.size from Nat.le_trans HZ4.out (Nat.le_trans HZ45.out (Nat.le_trans HZ6.out hnb.size)))
          have HZW := Lib.hid HP3.out.2.2.2
          clear hnb
          obtain ⟨⟨-, q1⟩, -, qf1⟩ := PB6.out.1.two
          clear B4 HB0 HS3 HA HB HX HX2 HX3 HN
          go_wp2_with (at_builtin; refine list_app_half rfl _ _ rfl (w2.heap.size + 1) wr.heap.size _ _ (hsL (qs.take k)) (l1, n2) rfl PO7.out PU7.out w6.heap.size rfl (heap_alloc_new w6 _) (by rw [HLN.out]; omega) HZW.out HW7.out ?_; intro g7 cap7 w7 ho7 hb7 hd7 hg7; have PK8 := Lib.hid (PK7.out.since hb7 (Nat.lt_succ_self _)); have HO8 := Lib.hid ho7; have HB8 := Lib.hid (HB7.out.trans (hb7.mono (Nat.le_succ _))); have HZ8 := Lib.hid hg7.size; clear ho7 hb7 hd7 hg7; obtain ⟨⟨-, r1⟩, -, rf1⟩ := PK8.out.two)
          have HT9 := Lib.hid (show hsL (qs.take k) ++ [(l1, n2)] = hsL (qs.take (k + 1)) from HTK.out.symm)
          rw [HT9.out] at HO8
          rw [HLN.out] at HO8 ⊢
          exact ⟨⟨k + 1, _, by omega, by go_num, HY.out trivial, PK8.out.set1 _, (HO8.out.kept ((Kept.refl w2.heap.size (w2.heap.size + 1) w7).setCell (p := ⟨w2.heap.size, 1, none⟩) (Nat.le_refl _) (Nat.lt_succ_self _) _) (.inr (Nat.le_refl _))).mono (Nat.le_refl _) (by simp [World.setCell]), HB8.out.setCell (Nat.le_refl _) _, by have h1 := HW7.out; have h2 := HZ8.out; have h3 := HZW.out; simp only [World.setCell, Array.size_modify]; omega⟩, by simp [RowKit.intOf]; omega⟩
        · have F := Lib.hid (parsRL_f2 (p := p) (HN.out (by
            cases o1 with
            | false => rw [HX.out rfl]
            | true =>
              cases o2 with
              | false => rw [HX2.out rfl]
              | true => exact absurd ⟨rfl, rfl⟩ hoo)))
          obtain ⟨⟨p0, p1⟩, pf0, pf1⟩ := K6.out.two
          have hor : (!o1 || !o2) = true := by cases o1 <;> cases o2 <;> simp_all
          have hret : (if (!o1) = true then true else !o2) = true := by cases o1 <;> cases o2 <;> simp_all
          clear HX HX2 HX3 hor hret
          cases o1 with
          | false =>
            go_wp2
            rw [F.out]
            refine bodyPost_ret (v := .tuple #[.agg #[.int .i64 0, .slice none 0 0], .bool false]) ?_ rfl ⟨⟨_, rfl, OwG.zero⟩, ((B2.out.trans (B6.out.mono B2.out.size)).setCell (by simp) _).setCell (by simp) _⟩
            simp [results, Tryd.results10, go_sem, p0, p1]
          | true =>
            cases o2 with
            | true => exact absurd ⟨rfl, rfl⟩ hoo
            | false =>
              go_wp2
              rw [F.out]
              refine bodyPost_ret (v := .tuple #[.agg #[.int .i64 0, .slice none 0 0], .bool false]) ?_ rfl ⟨⟨_, rfl, OwG.zero⟩, ((B2.out.trans (B6.out.mono B2.out.size)).setCell (by simp) _).setCell (by simp) _⟩
              simp [results, Tryd.results10, go_sem, p0, p1]
      · have F := Lib.hid (parsRL_f2 (p := p) (HN.out (by rw [parsH2_not h2])))
        go_wp2_with fail
        refine (HS3.out _).mono ?_
        rintro e w4 ⟨⟨v4, rfl, ho4⟩, hb4⟩
        have hsl := Sl.of_owns ho4
        obtain ⟨a4, c4, rfl, hm4, _⟩ := hsl.shape
        have B4 := Lib.hid (HP3.out.2.2.1.trans (hb4.mono HP3.out.2.2.1.size))
        have K4 := Lib.hid (K2.out.below B4.out)
        obtain ⟨⟨p0, p1⟩, pf0, pf1⟩ := K4.out.two
        rw [strVals_len] at hm4 ⊢
        have h3 : ¬ (xs.length : Int) = 2 := by omega
        clear ho4 hb4 hsl
        go_wp2
        rw [F.out]
        refine bodyPost_ret (v := .tuple #[.agg #[.int .i64 0, .slice none 0 0], .bool false]) ?_ rfl ⟨⟨_, rfl, OwG.zero⟩, ((B2.out.trans (B4.out.mono B2.out.size)).setCell (by simp) _).setCell (by simp) _⟩
        simp [results, Tryd.results10, go_sem, p0, p1]
    · obtain rfl : k = qs.length := by omega
      have hk2 := HK.out
      have ha := HP3.out
      rw [List.take_length] at hk2 ha
      have HK2 := Lib.hid hk2
      have HA := Lib.hid ha
      have BR := Lib.hid (B2.out.trans (ha.2.2.1.mono B2.out.size))
      have KR := Lib.hid (K2.out.below ha.2.2.1)
      have ZR := Lib.hid K2.out.lt
      obtain ⟨⟨l0, l1⟩, -⟩ := ha.1.two
      have HQ1 := Lib.hid (congrArg Prod.fst HQ0.out)
      have HQ2 := Lib.hid (congrArg Prod.snd HQ0.out)
      have hnu : ¬ ((qs.length : Nat) + 1 : Int) < (qs.length + 1 : Nat) := by omega
      simp only at HQ1 HQ2
      clear hk2 ha
      cases okb with
      | false =>
        have F := Lib.hid (parsRL_f1 (qs := qs) HQ2.out)
        obtain ⟨⟨p0, p1⟩, pf0, pf1⟩ := KR.out.two
        clear HS HB0
        go_wp2
        rw [F.out]
        refine bodyPost_ret (v := .tuple #[.agg #[.int .i64 0, .slice none 0 0], .bool false]) ?_ rfl ⟨⟨_, rfl, OwG.zero⟩, (BR.out.setCell (by simp) _).setCell (by simp) _⟩
        simp [results, Tryd.results10, go_sem, p0, p1]
      | true =>
        have HG := Lib.hid (show Rg wr (.agg #[.int .i64 n, .slice ua qs.length uc]) (n, hsL qs) from ⟨_, rfl, HA.out.2.1.hs⟩)
        by_cases cr : regOk n (hsL qs) = true
        · have CR := Lib.hid cr
          have F := Lib.hid (show parsRL (p :: qs) = ((n, hsL qs), true) by
            rw [parsRL_t HQ2.out HK2.out (by rw [HQ1.out]; exact CR.out), HQ1.out])
          have E := Lib.hid (show (⟨(regT n (hsL qs)).toArray⟩ : ByteArray) = s by
            have h := HB0.out HQ2.out HK2.out (by rw [HQ1.out]; exact CR.out)
            rw [HQ1.out] at h; exact h)
          clear cr HB0
          go_wp2_with fail
          refine (s_isreg (n, hsL qs) _ _ HG.out).mono ?_
          rintro e w4 ⟨rfl, hb4⟩
          rw [show regOk (n, hsL qs).1 (n, hsL qs).2 = true from CR.out]
          have B4 := Lib.hid (BR.out.trans (hb4.mono BR.out.size))
          have G4 := Lib.hid (HG.out.below hb4)
          have A4 := Lib.hid (And.intro (HA.out.1.below hb4) (HA.out.2.1.below hb4))
          have K4 := Lib.hid (KR.out.below hb4)
          have Z4 := Lib.hid hb4.size
          clear hb4 l0 l1
          obtain ⟨⟨l0, l1⟩, -⟩ := A4.out.1.two
          go_wp2_with fail
          refine (s_regtext (n, hsL qs) _ _ G4.out).mono ?_
          rintro e w5 ⟨rfl, hb5⟩
          rw [show (⟨(regT (n, hsL qs).1 (n, hsL qs).2).toArray⟩ : ByteArray) = s from E.out]
          have B5 := Lib.hid (B4.out.trans (hb5.mono B4.out.size))
          have A5 := Lib.hid (And.intro (A4.out.1.below hb5) (A4.out.2.below hb5))
          have Z5 := Lib.hid hb5.size
          obtain ⟨⟨p0, p1⟩, pf0, pf1⟩ := (K4.out.below hb5).two
          clear hb5 l0 l1
          obtain ⟨⟨l0, l1⟩, -⟩ := A5.out.1.two
          go_wp2
          rw [F.out]
          refine bodyPost_ret (v := .tuple #[.agg #[.int .i64 n, .slice ua qs.length uc], .bool true]) ?_ rfl ⟨⟨_, rfl, _, rfl, ?_⟩, (B5.out.setCell (by simp) _).setCell (by simp) _⟩
          · simp [results, Tryd.results10, go_sem, p0, p1]
          · have h1 := ZR.out
            have h2 := B2.out.size
            exact (A5.out.2.kept (((Kept.refl w.heap.size (w.heap.size + 1) w5).setCell (p := ⟨w.heap.size, 0, none⟩) (Nat.le_refl _) (Nat.lt_succ_self _) _).setCell (p := ⟨w.heap.size, 1, none⟩) (Nat.le_refl _) (Nat.lt_succ_self _) _) (.inr (by omega))).mono (by omega) (by have h3 := Z4.out; have h4 := Z5.out; simp only [World.setCell, Array.size_modify]; omega)
        · have CR := Lib.hid (bool_f cr)
          have F := Lib.hid (parsRL_f3 (p := p) (qs := qs) (by rw [HQ1.out]; exact cr))
          clear cr HB0
          go_wp2_with fail
          refine (s_isreg (n, hsL qs) _ _ HG.out).mono ?_
          rintro e w4 ⟨rfl, hb4⟩
          rw [show regOk (n, hsL qs).1 (n, hsL qs).2 = false from CR.out]
          have B4 := Lib.hid (BR.out.trans (hb4.mono BR.out.size))
          obtain ⟨⟨p0, p1⟩, pf0, pf1⟩ := (KR.out.below hb4).two
          clear hb4
          go_wp2
          rw [F.out]
          refine bodyPost_ret (v := .tuple #[.agg #[.int .i64 0, .slice none 0 0], .bool false]) ?_ rfl ⟨⟨_, rfl, OwG.zero⟩, (B4.out.setCell (by simp) _).setCell (by simp) _⟩
          simp [results, Tryd.results10, go_sem, p0, p1]
end Go.Proofs.YtflkalgofkpdbaaDoor
