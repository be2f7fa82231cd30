/- The model's Hermite form: the walk. -/
import Derived.Test.YtjijgagdaolkcaaGreatMam
import Derived.Test.YtjijgagdaolkcaaGreatMac
import Derived.Deep.RegionHeld3
import Derived.Test.YtjijgagdaolkcaaGreatMeet
import Derived.Test.YtjijgagdaolkcaaGreatOrd
namespace Go.Proofs.YtjijgagdaolkcaaGreat
open Go.RowKit Go.Lib

/-- How great the number in row r, column c of a slice of slices is (Euclid's measure: read out of the world). -/
def rdA (w : World) (o : Value) (r c : Nat) : Nat :=
  match o with
  | .slice (some p) _ _ =>
    match w.cell? ⟨p.block, r, none⟩ with
    | some (.slice (some q) _ _) =>
      match w.cell? ⟨q.block, c, none⟩ with
      | some x => (RowKit.intOf x).natAbs
      | none => 0
    | _ => 0
  | _ => 0
theorem rdA_of {T e : TypeId} {lo hi : Nat} {w : World} {o : Value} {zss : List (List Int)} (h : OwR T e lo hi w o zss) {r c : Nat} (hr : r < zss.length) (hc : c < zss[r].length) : rdA w o r c = (zss[r][c]).natAbs := by
  obtain ⟨a, cp, rfl, _, _⟩ := h.rw.shape
  obtain ⟨b, u, rfl, _, _, _, hcell, _, hu, _⟩ := h.at r hr rfl
  obtain ⟨g, cap, rfl, _, _⟩ := hu.form (by rw [intVals_len]; omega)
  obtain ⟨_, hx⟩ := hu.sl.addr
  have h2 := hx c _ (intVals_get _ c hc)
  have hadd : (⟨g, 0, none⟩ : Addr).add c = ⟨g, c, none⟩ := by unfold Addr.add; split <;> simp_all
  rw [hadd] at h2
  simp only [rdA, hcell, h2]
  rfl

theorem rdA_of2 {T e : TypeId} {lo hi : Nat} {w : World} {o : Value} {zss : List (List Int)} (h : OwR T e lo hi w o zss) {r c : Nat} {ys : List Int} (hr : zss[r]? = some ys) (hc : c < ys.length) : rdA w o r c = (colA c ys).natAbs := by
  have hl := lt_of_get hr
  have e0 : zss[r] = ys := by rw [List.getElem?_eq_getElem hl] at hr; exact Option.some.inj hr
  subst e0
  rw [rdA_of h hl hc, colA_get hc]
theorem tdiv_bd2 {x g M : Int} (h1 : -M ≤ x) (h2 : x ≤ M) : -M ≤ x.tdiv g ∧ x.tdiv g ≤ M := by
  have h := Int.natAbs_tdiv_le_natAbs x g
  generalize x.tdiv g = q at *
  omega
theorem OwR.row2 {T e : TypeId} {lo hi : Nat} {w : World} {b n cap L : Nat} {zss : List (List Int)} (h : OwR T e lo hi w (.slice (some ⟨b, 0, none⟩) n cap) zss) (j : Nat) (ys : List Int) (hj : zss[j]? = some ys) (hL : ys.length = L) (hp : 0 < L) :
    ∃ g rc : Nat, w.cell? ⟨b, j, none⟩ = some (.slice (some ⟨g, 0, none⟩) L rc) ∧ w.frozen? ⟨b, j, none⟩ = false ∧ b < w.heap.size ∧ g < w.heap.size ∧ Sl w (.slice (some ⟨g, 0, none⟩) L rc) (intVals ys) ∧ (∀ k (hk : k < ys.length), w.cell? ⟨g, k, none⟩ = some (.int .i64 ys[k])) := by
  subst hL
  have hjl := lt_of_get hj
  have e0 : zss[j] = ys := by rw [List.getElem?_eq_getElem hjl] at hj; exact Option.some.inj hj
  obtain ⟨b', u, e1, _, _, hbs, hc, hf, hu, _, _⟩ := h.at j hjl rfl
  rw [e0] at hu
  simp only [Option.some.injEq, Addr.mk.injEq, and_true] at e1
  subst e1
  obtain ⟨g, rc, rfl, _, _⟩ := hu.form (by rw [intVals_len]; exact hp)
  have hg : g < w.heap.size := (hu.place (b := g) rfl).2.2
  rw [intVals_len] at *
  refine ⟨g, rc, hc, hf, hbs, hg, hu.sl, fun k hk => ?_⟩
  have h2 := (hu.sl.addr).2 k _ (intVals_get ys k hk)
  have hadd : (⟨g, 0, none⟩ : Addr).add k = ⟨g, k, none⟩ := by unfold Addr.add; split <;> simp_all
  rw [hadd] at h2
  exact h2
/-- Euclid under way: rows c and r are u and v, the rest as in z. -/
def EuP (T e : TypeId) (lo b n oc : Nat) (z : List (List Int)) (c r : Nat) (A : Int) (wr : World) : Prop :=
  ∃ u v, Eu c n 80400000000 A u v ∧ eucl c u v = eucl c (z.getD c []) (z.getD r []) ∧ OwR T e lo wr.heap.size wr (.slice (some ⟨b, 0, none⟩) n oc) ((z.set c u).set r v)
theorem set_get (z : List (List Int)) (c r : Nat) (u v : List Int) (hc : c < z.length) (hr : r < z.length) (hne : c ≠ r) : ((z.set c u).set r v)[c]? = some u ∧ ((z.set c u).set r v)[r]? = some v := by
  constructor
  · rw [List.getElem?_set_ne (fun e => hne e.symm), List.getElem?_set_self hc]
  · rw [List.getElem?_set_self (by rw [List.length_set]; exact hr)]
theorem set_same (z : List (List Int)) (c r : Nat) (hc : c < z.length) (hr : r < z.length) : (z.set c (z.getD c [])).set r (z.getD r []) = z := by
  have e : ∀ (l : List (List Int)) (k : Nat), k < l.length → l.set k (l.getD k []) = l := fun l k hk => by
    rw [List.getD_eq_getElem?_getD, List.getElem?_eq_getElem hk]
    exact List.set_getElem_self hk
  rw [e z c hc, e z r hr]
theorem set_swap (z : List (List Int)) (c r : Nat) (u v x : List Int) (hc : c < z.length) (hr : r < z.length) (hne : c ≠ r) (h : r < ((z.set c u).set r v).length) : (((z.set c u).set r v).set c (((z.set c u).set r v)[r]'h)).set r x = (z.set c v).set r x := by
  have e : ((z.set c u).set r v)[r]'h = v := by simp
  rw [e]
  apply List.ext_getElem?
  intro i
  by_cases hir : i = r
  · subst hir; simp [hr]
  · rw [List.getElem?_set_ne (fun e => hir e.symm), List.getElem?_set_ne (l := z.set c v) (fun e => hir e.symm)]
    by_cases hic : i = c
    · subst hic
      rw [List.getElem?_set_self (by simpa using hc), List.getElem?_set_self hc]
    · rw [List.getElem?_set_ne (fun e => hic e.symm), List.getElem?_set_ne (fun e => hir e.symm), List.getElem?_set_ne (fun e => hic e.symm), List.getElem?_set_ne (fun e => hic e.symm)]
theorem pairs_step (c r : Nat) (z : List (List Int)) (h : c + 1 ≤ r) : pairsH c z (r + 1 - (c + 1)) = pairH c r (pairsH c z (r - (c + 1))) := by
  have e : r + 1 - (c + 1) = (r - (c + 1)) + 1 := by omega
  rw [e]
  show pairH c (c + 1 + (r - (c + 1))) _ = _
  rw [show c + 1 + (r - (c + 1)) = r by omega]
theorem pairH_len (c r : Nat) (z : List (List Int)) : (pairH c r z).length = z.length := by simp [pairH]
theorem pairsH_len (c : Nat) (z : List (List Int)) : ∀ j, (pairsH c z j).length = z.length
  | 0 => rfl
  | j + 1 => by show (pairH _ _ _).length = _; rw [pairH_len, pairsH_len c z j]
theorem negH_len (c : Nat) (z : List (List Int)) : (negH c z).length = z.length := by unfold negH; split <;> simp
theorem redsH_len (c : Nat) (z : List (List Int)) : ∀ j, (redsH c z j).length = z.length
  | 0 => rfl
  | j + 1 => by show (redH _ _ _).length = _; unfold redH; rw [List.length_set, redsH_len c z j]
theorem hermS_len (m : List (List Int)) : ∀ c, (hermS m c).length = m.length
  | 0 => rfl
  | c + 1 => by show (redsH _ _ _).length = _; rw [redsH_len, negH_len, pairsH_len, hermS_len m c]

set_option maxRecDepth 100000 in
set_option maxHeartbeats 1600000 in
theorem s_herm (m : List (List Int)) (h1 : 1 ≤ m.length) (h3 : m.length ≤ 3) (hsq : Sq m.length 100 m) (hd : detL m ≠ 0) (v : Value) (w : World) (hv : Rw w v m) :
    Calls Tryz.prog 45 #[v] w (MadeR w (hermL m)) := by
  have HV := Lib.hid hv
  have HM := Lib.hid hsq
  have HD := Lib.hid hd
  obtain ⟨p, cp, rfl, _, _⟩ := hv.shape
  clear hv hsq hd
  go_enter Tryz.func45, Tryz.ntmps45
  go_wp2
  go_loopw [3, 4] (fun o i wr => ∃ k : Nat, k ≤ m.length ∧ i = .int .i64 k ∧ OwR 27 3 w.heap.size wr.heap.size wr o (m.take k) ∧ Below w.heap.size w wr) (fun _ i _ => m.length - (RowKit.intOf i).toNat)
  case atStart => exact ⟨0, Nat.zero_le _, rfl, owr_empty (Nat.le_refl _), (Below.refl _ _).alloc (Nat.le_refl _) _⟩
  case round =>
    obtain ⟨k, hk, rfl, how, hbr⟩ := hrel
    rename World => w1
    have HW := Lib.hid how
    have HB := Lib.hid hbr
    clear how hbr
    by_cases hlt : k < m.length
    · obtain ⟨b1, o1, r, rfl, hlt1, hcell, hsl⟩ := HV.out.row k hlt rfl
      rw [← HB.out.cell (p := ⟨b1, o1 + k, none⟩) hlt1] at hcell
      have hsl2 := hsl.below HB.out
      have hkl : m[k].length = m.length := (HM.out.2 k hlt).1
      obtain ⟨ra, rc, rfl, _, hsh⟩ := hsl2.shape
      obtain ⟨b2, o2, rfl, _, hlt2, hx2⟩ := hsh (by rw [intVals_len, hkl]; omega)
      rw [intVals_len, hkl] at hcell
      have HX := Lib.hid hx2
      have TK := Lib.hid (List.take_succ_eq_append_getElem hlt)
      have HN := Lib.hid (show (m.take k).length ≤ 1099511627776 by rw [List.length_take]; omega)
      have hcl : (intVals m[k]).length = m.length := by rw [intVals_len, hkl]
      have hlt3 : b1 < w1.heap.size := Nat.lt_of_lt_of_le hlt1 HB.out.size
      have hcell2 : (w1.alloc (.cells #[] 3)).cell? ⟨b1, o1 + k, none⟩ = some (.slice (some ⟨b2, o2, none⟩) m.length rc) := (((Below.refl w1.heap.size w1).alloc (Nat.le_refl _) _).cell (p := ⟨b1, o1 + k, none⟩) hlt3).trans hcell
      clear hsl hsl2 hsh hx2
      have C3 := Lib.hid (show w1.heap.size ≤ (w1.alloc (.cells #[] 3)).heap.size by rw [World.size_alloc]; omega)
      go_wp2_with (at_builtin; first
        | (refine list_app_sl rfl _ _ rfl w1.heap.size _ 0 [] m[k] rfl (owns_none (Nat.le_refl _)) ⟨b2, o2, none⟩ m.length rc rfl hkl (cells_below ((Below.refl _ _).alloc (Nat.le_refl _) _) hlt2 HX.out) (by omega) C3.out ?_; intro v1 w2 hown1 hbel1
           have ho : OwnV 3 w1.heap.size w2.heap.size w2 v1 (intVals m[k]) := OwnV.of_owns (by rw [List.nil_append] at hown1; exact hown1)
           have HR2 := Lib.hid ho
           obtain ⟨gr, gc, e0, _, _⟩ := ho.form (by rw [hcl]; omega)
           rw [hcl] at e0
           subst e0
           have hb2 : Below w1.heap.size w1 w2 := ((Below.refl _ _).alloc (Nat.le_refl _) _).trans hbel1
           have HW2 := Lib.hid (HW.out.below hb2)
           have HB4 := Lib.hid (HB.out.trans (hb2.mono HB.out.size))
           have hs2 : w1.heap.size ≤ w2.heap.size := hb2.size
           clear ho hb2 hown1 hbel1)
        | (refine list_app_row rfl _ _ rfl w.heap.size w1.heap.size _ _ (m.take k) m[k] rfl (HW2.out.below ((Below.refl _ _).alloc (Nat.le_refl _) _)) ((HR2.out.below ((Below.refl _ _).alloc (Nat.le_refl _) _)).mono (Nat.le_refl _) (by rw [World.size_alloc]; omega)) w2.heap.size rfl (heap_alloc_new w2 _) HN.out HB.out.size (by rw [World.size_alloc]; omega) ?_; intro g cap w' hown hbel; have HO4 := Lib.hid hown; have HB5 := Lib.hid ((HB4.out.alloc HB4.out.size _).trans hbel); clear hown hbel))
      refine ⟨⟨k + 1, by omega, by go_num, ?_, HB5.out⟩, by simp [RowKit.intOf]; omega⟩
      rw [TK.out]
      have h := HO4.out
      rw [List.length_take, Nat.min_eq_left hk] at h
      exact h
    · obtain rfl : k = m.length := by omega
      have h2 := HW.out
      rw [List.take_length] at h2
      have HO := Lib.hid h2
      clear h2 HW
      obtain ⟨oa, oc, rfl, _, _⟩ := HO.out.rw.shape
      obtain ⟨b, _, rfl, hb1, hb2, hb3, _⟩ := HO.out.at 0 (by omega) rfl
      go_wp2
      go_loopw [5] (fun i wr => ∃ c : Nat, c ≤ m.length ∧ i = .int .i64 c ∧ OwR 27 3 w.heap.size wr.heap.size wr (.slice (some ⟨b, 0, none⟩) m.length oc) (hermS m c) ∧ Below w.heap.size w wr) (fun i _ => m.length - (RowKit.intOf i).toNat)
      case atStart => exact ⟨0, Nat.zero_le _, rfl, HO.out, HB.out⟩
      case round =>
        obtain ⟨c, hc, rfl, how, hbr⟩ := hrel
        rename World => w2
        have HW := Lib.hid how
        have HB2 := Lib.hid hbr
        clear how hbr
        by_cases hlc : c < m.length
        · go_wp2
          go_loopw [6] (fun i ws => ∃ r : Nat, c + 1 ≤ r ∧ r ≤ m.length ∧ i = .int .i64 r ∧ OwR 27 3 w.heap.size ws.heap.size ws (.slice (some ⟨b, 0, none⟩) m.length oc) (pairsH c (hermS m c) (r - (c + 1))) ∧ Below w.heap.size w ws) (fun i _ => m.length - (RowKit.intOf i).toNat)
          case atStart => exact ⟨c + 1, by omega, by omega, by go_num, by rw [Nat.sub_self]; exact HW.out, HB2.out⟩
          case round =>
            obtain ⟨r, hr0, hr, rfl, how, hbr⟩ := hrel
            rename World => w3
            have HW3 := Lib.hid how
            have HB3 := Lib.hid hbr
            clear how hbr
            by_cases hlr : r < m.length
            · have HZ := Lib.hid (show (pairsH c (hermS m c) (r - (c + 1))).length = m.length by rw [pairsH_len, hermS_len])
              obtain ⟨A, hP⟩ := herm_pair h3 HM.out HD.out (c := c) (j := r - (c + 1)) (by omega)
              rw [show c + 1 + (r - (c + 1)) = r by omega] at hP
              have HP := Lib.hid hP
              have HST := Lib.hid (pairs_step c r (hermS m c) hr0)
              clear hP
              generalize pairsH c (hermS m c) (r - (c + 1)) = z at HW3 HZ HP HST
              go_wp2
              go_loopw [7, 8] (fun _ _ wr => EuP 27 3 w.heap.size b m.length oc z c r A wr ∧ Below w.heap.size w wr) (fun _ _ wr => rdA wr (.slice (some ⟨b, 0, none⟩) m.length oc) r c)
              case atStart =>
                refine ⟨⟨_, _, HP.out, rfl, ?_⟩, HB3.out⟩
                rw [set_same z c r (by have := HZ.out; omega) (by have := HZ.out; omega)]
                exact HW3.out
              case round =>
                obtain ⟨⟨u, v, hE, hq, how⟩, hbr⟩ := hrel
                rename World => w4
                have HW4 := Lib.hid how
                have HB4 := Lib.hid hbr
                have HE := Lib.hid hE
                have HQ := Lib.hid hq
                clear how hbr hE hq
                have hcr : c ≠ r := by omega
                have HG := Lib.hid (set_get z c r u v (by have := HZ.out; omega) (by have := HZ.out; omega) hcr)
                have HU := Lib.hid HE.out.1
                have HV2 := Lib.hid HE.out.2.1
                obtain ⟨gu, cu, cell1, fr1, hb4, hgu, hsu, hxu⟩ := HW4.out.row2 c u HG.out.1 HU.out (by omega)
                obtain ⟨gv, cv, cell2, fr2, _, hgv, hsv, hxv⟩ := HW4.out.row2 r v HG.out.2 HV2.out (by omega)
                have cell3 := hxu c (by rw [HU.out]; omega)
                have cell4 := hxv c (by rw [HV2.out]; omega)
                have HSU := Lib.hid hsu
                have HSV := Lib.hid hsv
                clear hsu hsv hxu hxv
                have i0 : (0 : Int) ≤ (c : Int) := by omega
                have i1 : (c : Int) < (m.length : Int) := by omega
                have i2 : (0 : Int) ≤ (r : Int) := by omega
                have i3 : (r : Int) < (m.length : Int) := by omega
                have HCU := Lib.hid (colA_get (c := c) (u := u) (by rw [HU.out]; omega))
                have HCV := Lib.hid (colA_get (c := c) (u := v) (by rw [HV2.out]; omega))
                generalize hx : u[c]'(by rw [HU.out]; omega) = x at cell3 HCU
                generalize hy : v[c]'(by rw [HV2.out]; omega) = y at cell4 HCV
                clear hx hy
                by_cases hy0 : y = 0
                · subst hy0
                  go_wp2
                  refine ⟨⟨r + 1, by omega, by omega, by go_num, ?_, HB4.out⟩, by simp [RowKit.intOf]; omega⟩
                  have e2 := HQ.out
                  rw [eucl_end (HCV.out)] at e2
                  rw [HST.out]
                  unfold pairH
                  rw [← e2]
                  exact HW4.out
                · have hne : (y != 0) = true := by rw [bne_iff_ne]; exact hy0
                  have hne2 : (y == 0) = false := by rw [beq_eq_false_iff_ne]; exact hy0
                  have HSt := Lib.hid (HE.out.step (by rw [HCV.out]; exact hy0))
                  have hxb := HSt.out.2.2.1 c (by rw [HU.out]; omega)
                  rw [← colA_get (c := c) (u := u) (by rw [HU.out]; omega), HCU.out] at hxb
                  have hqb := tdiv_bd2 (g := y) hxb.1 hxb.2
                  have hqw : IntKind.i64.wrap (x.tdiv y) = x.tdiv y := IntWalk.i64_in _ (by omega)
                  have HQB := Lib.hid hqb
                  clear hqb hxb
                  go_wp2
                  go_quiet (fail)
                  go_wp2
                  refine wgen ?_
                  intro W5 hW
                  have B5 := Lib.hid (show Below w4.heap.size w4 W5 by rw [hW]; exact below_drewN' (Below.refl _ _) _)
                  clear hW
                  have HW5 := Lib.hid ((HW4.out.below B5.out).mono (Nat.le_refl _) B5.out.size)
                  have HB5 := Lib.hid (HB4.out.trans (B5.out.mono HB4.out.size))
                  have HSU5 := Lib.hid (HSU.out.below B5.out)
                  have HSV5 := Lib.hid (HSV.out.below B5.out)
                  obtain ⟨bc, bf⟩ := bcell B5.out
                  have c1 := (bc b c hb4).trans cell1
                  have c2 := (bc b r hb4).trans cell2
                  have e1 := (bf b c hb4).trans fr1
                  have e2 := (bf b r hb4).trans fr2
                  have hb5 : b < W5.heap.size := Nat.lt_of_lt_of_le hb4 B5.out.size
                  clear bc bf cell1 cell2 cell3 cell4 fr1 fr2 hne hne2 hqw HSU HSV
                  rw [HCU.out, HCV.out] at HSt
                  have CS := Lib.hid (fun W h => s_scale2 v (by rw [HV2.out]; omega) (x.tdiv y) (bd_up HSt.out.2.1 (by omega)) (.slice (some ⟨gv, 0, none⟩) m.length cv) W h)
                  have CL := Lib.hid (fun W a h h' => s_less u (scaleL v (x.tdiv y)) (by simp [scaleL, HU.out, HV2.out]) (by rw [HU.out]; omega) 80400000000 (by omega) HSt.out.2.2.1 HSt.out.2.1 (.slice (some ⟨gu, 0, none⟩) m.length cu) a W h h')
                  have D5 := Lib.hid ((Below.refl W5.heap.size W5).drew)
                  have KD := (And.intro c1 c2 : W5.drew.cell? ⟨b, c, none⟩ = some (.slice (some ⟨gu, 0, none⟩) m.length cu) ∧ W5.drew.cell? ⟨b, r, none⟩ = some (.slice (some ⟨gv, 0, none⟩) m.length cv))
                  have HKD := Lib.hid KD
                  clear KD
                  go_region_held3 (fun w' => w'.cell? ⟨b, c, none⟩ = some (.slice (some ⟨gu, 0, none⟩) m.length cu) ∧ w'.cell? ⟨b, r, none⟩ = some (.slice (some ⟨gv, 0, none⟩) m.length cv))
                    (first | (with_reducible exact HKD.out) | (with_reducible exact K1.out) | (with_reducible exact K2.out))
                    (first | (go_at_call 75; refine (CS.out _ (HSV5.out.below D5.out)).mono ?_; rintro e V1 ⟨⟨x1, rfl, ho1⟩, hb1⟩; have F1 := Lib.hid (D5.out.trans hb1); have O1 := Lib.hid ho1; have K1 := Lib.hid (And.intro ((F1.out.cell (p := ⟨b, c, none⟩) hb5).trans c1) ((F1.out.cell (p := ⟨b, r, none⟩) hb5).trans c2)); clear hb1 ho1) | (go_at_call 74; refine (CL.out _ _ (HSU5.out.below F1.out) O1.out.sl).mono ?_; rintro e V2 ⟨⟨x2, rfl, ho2⟩, hb2⟩; have F2 := Lib.hid (F1.out.trans (hb2.mono F1.out.size)); have O2 := Lib.hid ho2; have L2 := Lib.hid (And.intro hb2.size F1.out.size); have K2 := Lib.hid (And.intro ((F2.out.cell (p := ⟨b, c, none⟩) hb5).trans c1) ((F2.out.cell (p := ⟨b, r, none⟩) hb5).trans c2)); clear hb2 ho2))
                  have HLX := Lib.hid (show (intVals (lessL u (scaleL v (x.tdiv y)))).length = m.length by rw [intVals_len, lessL_len (by simp [scaleL, HU.out, HV2.out]), HU.out])
                  obtain ⟨gx, cx, e0, _, _⟩ := O2.out.form (by rw [HLX.out]; omega)
                  rw [HLX.out] at e0
                  subst e0
                  obtain ⟨c3, c4⟩ := K2.out
                  have f3 := ((bcell F2.out).2 b c hb5).trans e1
                  have f4 := ((bcell F2.out).2 b r hb5).trans e2
                  have hrc : r ≠ c := by omega
                  clear c1 c2 e1 e2
                  have HOO := Lib.hid (HW5.out.swap_new F2.out HB5.out.size c r (by simp only [List.length_set]; have := HZ.out; omega) (by simp only [List.length_set]; have := HZ.out; omega) hcr c4 O2.out L2.out.2)
                  go_wp2
                  have hO := HOO.out
                  rw [set_swap z c r u v _ (by have := HZ.out; omega) (by have := HZ.out; omega) hcr] at hO
                  have hNX : lessL u (scaleL v (x.tdiv y)) = nextR c u v := by unfold nextR; rw [HCU.out, HCV.out]
                  rw [hNX] at hO
                  have hl2 : u.length = v.length := by rw [HU.out, HV2.out]
                  have hr1 := rdA_of2 HW4.out HG.out.2 (by rw [HV2.out]; omega) (c := c)
                  have hr2 := rdA_of2 hO (set_get z c r v (nextR c u v) (by have := HZ.out; omega) (by have := HZ.out; omega) hcr).2 (by rw [nextR_len hl2, HU.out]; omega) (c := c)
                  refine ⟨⟨⟨v, nextR c u v, HSt.out.1, ?_, hO⟩, ?_⟩, ?_⟩
                  · rw [← HQ.out, eucl_step hl2 (by rw [HCV.out]; exact hy0)]
                  · exact ((HB5.out.trans (F2.out.mono HB5.out.size)).setCell (p := ⟨b, c, none⟩) hb1 _).setCell (p := ⟨b, r, none⟩) hb1 _
                  · rw [hr1, hr2, nextR_col hl2, Int.natAbs_tmod]
                    have hne0 : colA c v ≠ 0 := by rw [HCV.out]; exact hy0
                    exact Nat.mod_lt _ (by omega)
            · obtain rfl : r = m.length := by omega
              have HA := Lib.hid (herm_all h1 h3 HM.out HD.out hlc)
              have HLZ := Lib.hid (show (pairsH c (hermS m c) (m.length - 1 - c)).length = m.length by rw [pairsH_len, hermS_len])
              have HS1 := Lib.hid (show hermS m (c + 1) = redsH c (negH c (pairsH c (hermS m c) (m.length - 1 - c))) c from rfl)
              have hw3 := HW3.out
              rw [show m.length - (c + 1) = m.length - 1 - c by omega] at hw3
              have HW5 := Lib.hid hw3
              clear hw3 HW3
              generalize pairsH c (hermS m c) (m.length - 1 - c) = z at HW5 HA HLZ HS1
              obtain ⟨u, hu1, hu2, hu3, hu4⟩ := HA.out.1
              have HU1 := Lib.hid hu1
              have HU2 := Lib.hid hu2
              have HU4 := Lib.hid hu4
              have HZC := Lib.hid (show z.getD c [] = u by rw [List.getD_eq_getElem?_getD, hu1]; rfl)
              clear hu1 hu2 hu3 hu4
              obtain ⟨gu, cu, cell1, fr1, hb4, hgu, hsu, hxu⟩ := HW5.out.row2 c u HU1.out HU2.out (by omega)
              have cell3 := hxu c (by rw [HU2.out]; omega)
              have HSU := Lib.hid hsu
              clear hsu hxu
              have HCU := Lib.hid (colA_get (c := c) (u := u) (by rw [HU2.out]; omega))
              generalize hx : u[c]'(by rw [HU2.out]; omega) = x at cell3 HCU
              clear hx
              have i0 : (0 : Int) ≤ (c : Int) := by omega
              have i1 : (c : Int) < (m.length : Int) := by omega
              by_cases hneg : x < 0
              · have HNE := Lib.hid (show negH c z = z.set c (scaleL u (-1)) by unfold negH; rw [HZC.out, HCU.out, if_pos hneg])
                go_wp2_with fail
                refine (s_scale2 u (by rw [HU2.out]; omega) (-1) (by
                  intro k hk
                  have hk' : k < u.length := by simpa [scaleL] using hk
                  have h4 := HU4.out k hk'
                  have e : (scaleL u (-1))[k] = u[k] * -1 := by simp [scaleL]
                  rw [e]; omega) _ _ HSU.out).mono ?_
                rintro e V ⟨⟨x1, rfl, ho⟩, hb⟩
                have HLX := Lib.hid (show (intVals (scaleL u (-1))).length = m.length by rw [intVals_len]; simp [scaleL, HU2.out])
                have HO1 := Lib.hid ho
                have HVB := Lib.hid hb
                clear ho hb
                obtain ⟨gx, cx, e0, _, _⟩ := HO1.out.form (by rw [HLX.out]; omega)
                rw [HLX.out] at e0
                subst e0
                have c3 := ((bcell HVB.out).1 b c hb4).trans cell1
                have f3 := ((bcell HVB.out).2 b c hb4).trans fr1
                have HOO := Lib.hid (HW5.out.set_new HVB.out HB3.out.size c (by have := HLZ.out; omega) HO1.out (Nat.le_refl _))
                have HBV := Lib.hid ((HB3.out.trans (HVB.out.mono HB3.out.size)).setCell (p := ⟨b, c, none⟩) hb1 (.slice (some ⟨gx, 0, none⟩) m.length cx))
                clear cell1 fr1 cell3
                go_wp2_with fail
                refine wgen ?_
                intro W6 hW
                have HW6 := Lib.hid (show OwR 27 3 w.heap.size W6.heap.size W6 (.slice (some ⟨b, 0, none⟩) m.length oc) (negH c z) by rw [hW, HNE.out]; exact HOO.out)
                have HB6 := Lib.hid (show Below w.heap.size w W6 by rw [hW]; exact HBV.out)
                clear hW c3 f3 HOO HBV HVB HO1 HNE hneg
                go_loopw [9] (fun i wr => ∃ r : Nat, r ≤ c ∧ i = .int .i64 r ∧ OwR 27 3 w.heap.size wr.heap.size wr (.slice (some ⟨b, 0, none⟩) m.length oc) (redsH c (negH c z) r) ∧ Below w.heap.size w wr) (fun i _ => c - (RowKit.intOf i).toNat)
                case atStart => exact ⟨0, Nat.zero_le _, rfl, HW6.out, HB6.out⟩
                case round =>
                  obtain ⟨r, hr, rfl, how, hbr⟩ := hrel
                  rename World => W7
                  have HW7 := Lib.hid how
                  have HB7 := Lib.hid hbr
                  clear how hbr
                  by_cases hlr : r < c
                  · obtain ⟨a, p, ha1, hp1, ha2, hp2, hpos, hba, hbp, hbs⟩ := HA.out.2 r hlr
                    have HA1 := Lib.hid ha1
                    have HP1 := Lib.hid hp1
                    have HA2 := Lib.hid ha2
                    have HP2 := Lib.hid hp2
                    have HBA := Lib.hid hba
                    have HBP := Lib.hid hbp
                    have HBS := Lib.hid hbs
                    have HPO := Lib.hid hpos
                    clear ha1 hp1 ha2 hp2 hpos hba hbp hbs
                    obtain ⟨ga, ca, C2, f2, hb7, hga, hsa, hxa⟩ := HW7.out.row2 r a HA1.out HA2.out (by omega)
                    obtain ⟨gp, cp2, C1, f1, _, hgp, hsp, hxp⟩ := HW7.out.row2 c p HP1.out HP2.out (by omega)
                    have C3 := hxa c (by rw [HA2.out]; omega)
                    have C4 := hxp c (by rw [HP2.out]; omega)
                    have HSA := Lib.hid hsa
                    have HSP := Lib.hid hsp
                    clear hsa hsp hxa hxp
                    have HCA := Lib.hid (colA_get (c := c) (u := a) (by rw [HA2.out]; omega))
                    have HCP := Lib.hid (colA_get (c := c) (u := p) (by rw [HP2.out]; omega))
                    generalize hx : a[c]'(by rw [HA2.out]; omega) = x at C3 HCA
                    generalize hy : p[c]'(by rw [HP2.out]; omega) = d at C4 HCP
                    clear hx hy
                    have i2 : (0 : Int) ≤ (r : Int) := by omega
                    have i3 : (r : Int) < (m.length : Int) := by omega
                    go_wp2
                    refine T_begin (z := fun k => k == 28) (S := fun w' => w'.cell? ⟨b, c, none⟩ = some (.slice (some ⟨gp, 0, none⟩) m.length cp2) ∧ w'.cell? ⟨b, r, none⟩ = some (.slice (some ⟨ga, 0, none⟩) m.length ca) ∧ w'.cell? ⟨ga, c, none⟩ = some (.int .i64 x) ∧ w'.cell? ⟨gp, c, none⟩ = some (.int .i64 d)) (by kernel_rfl) ?_
                    show wpAnyT _ _ _ _ _ _ 29 _ _ _
                    have hS0 := Lib.hid (show (fun w' => w'.cell? ⟨b, c, none⟩ = some (.slice (some ⟨gp, 0, none⟩) m.length cp2) ∧ w'.cell? ⟨b, r, none⟩ = some (.slice (some ⟨ga, 0, none⟩) m.length ca) ∧ w'.cell? ⟨ga, c, none⟩ = some (.int .i64 x) ∧ w'.cell? ⟨gp, c, none⟩ = some (.int .i64 d)) W7.drew from ⟨C1, C2, C3, C4⟩)
                    refine T_take (i := 0) (v := .slice (some ⟨b, 0, none⟩) m.length oc) rfl (by kernel_rfl) (by kernel_rfl) (by kernel_rfl) (by kernel_rfl) (fun _ _ _ h => h) hS0.out rfl (fun w' hS' => by (try dsimp only at hS'); go_simp) ?_
                    try simp only [Act.put, List.setIfInBounds_toArray]
                    refine T_take (i := 1) (v := .int .i64 r) rfl (by kernel_rfl) (by kernel_rfl) (by kernel_rfl) (by kernel_rfl) (fun _ _ _ h => h) hS0.out rfl (fun w' hS' => by (try dsimp only at hS'); go_simp) ?_
                    try simp only [Act.put]
                    refine T_take (i := 2) (v := .slice (some ⟨b, 0, none⟩) m.length oc) rfl (by kernel_rfl) (by kernel_rfl) (by kernel_rfl) (by kernel_rfl) (fun _ _ _ h => h) hS0.out rfl (fun w' hS' => by (try dsimp only at hS'); go_simp) ?_
                    try simp only [Act.put]
                    refine T_take (i := 3) (v := .int .i64 r) rfl (by kernel_rfl) (by kernel_rfl) (by kernel_rfl) (by kernel_rfl) (fun _ _ _ h => h) hS0.out rfl (fun w' hS' => by (try dsimp only at hS'); go_simp) ?_
                    try simp only [Act.put]
                    refine T_take (i := 4) (v := .pointer (some ⟨b, r, none⟩)) rfl (by kernel_rfl) (by kernel_rfl) (by kernel_rfl) (by kernel_rfl) (fun _ _ _ h => h) hS0.out rfl (fun w' hS' => by (try dsimp only at hS'); go_simp) ?_
                    try simp only [Act.put]
                    refine T_take (i := 5) (v := .slice (some ⟨ga, 0, none⟩) m.length ca) rfl (by kernel_rfl) (by kernel_rfl) (by kernel_rfl) (by kernel_rfl) (fun _ _ _ h => h) hS0.out rfl (fun w' hS' => by (try dsimp only at hS'); go_simp) ?_
                    try simp only [Act.put]
                    refine T_take (i := 6) (v := .slice (some ⟨b, 0, none⟩) m.length oc) rfl (by kernel_rfl) (by kernel_rfl) (by kernel_rfl) (by kernel_rfl) (fun _ _ _ h => h) hS0.out rfl (fun w' hS' => by (try dsimp only at hS'); go_simp) ?_
                    try simp only [Act.put]
                    refine T_take (i := 7) (v := .int .i64 c) rfl (by kernel_rfl) (by kernel_rfl) (by kernel_rfl) (by kernel_rfl) (fun _ _ _ h => h) hS0.out rfl (fun w' hS' => by (try dsimp only at hS'); go_simp) ?_
                    try simp only [Act.put]
                    refine T_take (i := 8) (v := .pointer (some ⟨b, c, none⟩)) rfl (by kernel_rfl) (by kernel_rfl) (by kernel_rfl) (by kernel_rfl) (fun _ _ _ h => h) hS0.out rfl (fun w' hS' => by (try dsimp only at hS'); go_simp) ?_
                    try simp only [Act.put]
                    refine T_take (i := 9) (v := .slice (some ⟨gp, 0, none⟩) m.length cp2) rfl (by kernel_rfl) (by kernel_rfl) (by kernel_rfl) (by kernel_rfl) (fun _ _ _ h => h) hS0.out rfl (fun w' hS' => by (try dsimp only at hS'); go_simp) ?_
                    try simp only [Act.put]
                    refine T_take (i := 10) (v := .slice (some ⟨b, 0, none⟩) m.length oc) rfl (by kernel_rfl) (by kernel_rfl) (by kernel_rfl) (by kernel_rfl) (fun _ _ _ h => h) hS0.out rfl (fun w' hS' => by (try dsimp only at hS'); go_simp) ?_
                    try simp only [Act.put]
                    refine T_take (i := 11) (v := .int .i64 r) rfl (by kernel_rfl) (by kernel_rfl) (by kernel_rfl) (by kernel_rfl) (fun _ _ _ h => h) hS0.out rfl (fun w' hS' => by (try dsimp only at hS'); go_simp) ?_
                    try simp only [Act.put]
                    refine T_take (i := 12) (v := .pointer (some ⟨b, r, none⟩)) rfl (by kernel_rfl) (by kernel_rfl) (by kernel_rfl) (by kernel_rfl) (fun _ _ _ h => h) hS0.out rfl (fun w' hS' => by (try dsimp only at hS'); go_simp) ?_
                    try simp only [Act.put]
                    refine T_take (i := 13) (v := .slice (some ⟨ga, 0, none⟩) m.length ca) rfl (by kernel_rfl) (by kernel_rfl) (by kernel_rfl) (by kernel_rfl) (fun _ _ _ h => h) hS0.out rfl (fun w' hS' => by (try dsimp only at hS'); go_simp) ?_
                    try simp only [Act.put]
                    refine T_take (i := 14) (v := .int .i64 c) rfl (by kernel_rfl) (by kernel_rfl) (by kernel_rfl) (by kernel_rfl) (fun _ _ _ h => h) hS0.out rfl (fun w' hS' => by (try dsimp only at hS'); go_simp) ?_
                    try simp only [Act.put]
                    refine T_take (i := 15) (v := .pointer (some ⟨ga, c, none⟩)) rfl (by kernel_rfl) (by kernel_rfl) (by kernel_rfl) (by kernel_rfl) (fun _ _ _ h => h) hS0.out rfl (fun w' hS' => by (try dsimp only at hS'); go_simp) ?_
                    try simp only [Act.put]
                    refine T_take (i := 16) (v := .int .i64 x) rfl (by kernel_rfl) (by kernel_rfl) (by kernel_rfl) (by kernel_rfl) (fun _ _ _ h => h) hS0.out rfl (fun w' hS' => by (try dsimp only at hS'); go_simp) ?_
                    try simp only [Act.put]
                    refine T_take (i := 17) (v := .slice (some ⟨b, 0, none⟩) m.length oc) rfl (by kernel_rfl) (by kernel_rfl) (by kernel_rfl) (by kernel_rfl) (fun _ _ _ h => h) hS0.out rfl (fun w' hS' => by (try dsimp only at hS'); go_simp) ?_
                    try simp only [Act.put]
                    refine T_take (i := 18) (v := .int .i64 c) rfl (by kernel_rfl) (by kernel_rfl) (by kernel_rfl) (by kernel_rfl) (fun _ _ _ h => h) hS0.out rfl (fun w' hS' => by (try dsimp only at hS'); go_simp) ?_
                    try simp only [Act.put]
                    refine T_take (i := 19) (v := .pointer (some ⟨b, c, none⟩)) rfl (by kernel_rfl) (by kernel_rfl) (by kernel_rfl) (by kernel_rfl) (fun _ _ _ h => h) hS0.out rfl (fun w' hS' => by (try dsimp only at hS'); go_simp) ?_
                    try simp only [Act.put]
                    refine T_take (i := 20) (v := .slice (some ⟨gp, 0, none⟩) m.length cp2) rfl (by kernel_rfl) (by kernel_rfl) (by kernel_rfl) (by kernel_rfl) (fun _ _ _ h => h) hS0.out rfl (fun w' hS' => by (try dsimp only at hS'); go_simp) ?_
                    try simp only [Act.put]
                    refine T_take (i := 21) (v := .int .i64 c) rfl (by kernel_rfl) (by kernel_rfl) (by kernel_rfl) (by kernel_rfl) (fun _ _ _ h => h) hS0.out rfl (fun w' hS' => by (try dsimp only at hS'); go_simp) ?_
                    try simp only [Act.put]
                    refine T_take (i := 22) (v := .pointer (some ⟨gp, c, none⟩)) rfl (by kernel_rfl) (by kernel_rfl) (by kernel_rfl) (by kernel_rfl) (fun _ _ _ h => h) hS0.out rfl (fun w' hS' => by (try dsimp only at hS'); go_simp) ?_
                    try simp only [Act.put]
                    refine T_take (i := 23) (v := .int .i64 d) rfl (by kernel_rfl) (by kernel_rfl) (by kernel_rfl) (by kernel_rfl) (fun _ _ _ h => h) hS0.out rfl (fun w' hS' => by (try dsimp only at hS'); go_simp) ?_
                    try simp only [Act.put]
                    have hxb := HBA.out c (by rw [HA2.out]; omega)
                    rw [← colA_get (c := c) (u := a) (by rw [HA2.out]; omega), HCA.out] at hxb
                    have hdb := HBP.out c (by rw [HP2.out]; omega)
                    rw [← colA_get (c := c) (u := p) (by rw [HP2.out]; omega), HCP.out] at hdb
                    have hd0 := HPO.out
                    rw [HCP.out] at hd0
                    have hsb := HBS.out
                    rw [HCA.out, HCP.out] at hsb
                    have CF := Lib.hid (fun W => s_floor x d (by omega) (by omega) hd0 (by omega) W)
                    have CS := Lib.hid (fun W h => s_scale2 p (by rw [HP2.out]; omega) (x / d) (bd_up hsb (by omega)) (.slice (some ⟨gp, 0, none⟩) m.length cp2) W h)
                    have CL := Lib.hid (fun W v h h' => s_less a (scaleL p (x / d)) (by simp [scaleL, HA2.out, HP2.out]) (by rw [HA2.out]; omega) 400000000000000000 (by omega) HBA.out hsb (.slice (some ⟨ga, 0, none⟩) m.length ca) v W h h')
                    have D7 := Lib.hid ((Below.refl W7.heap.size W7).drew)
                    clear hxb hdb hd0 hsb
                    refine T_step (i := 24) rfl (by kernel_rfl) rfl rfl ?_
                    intro K hK
                    go_simp
                    refine (CF.out _).mono ?_
                    rintro e w' ⟨rfl, rfl⟩
                    refine hK.out _ _ hS0.out ?_
                    clear hK K
                    try simp only [Act.put, List.setIfInBounds_toArray, List.set_cons_zero, List.set_cons_succ]
                    refine T_step (i := 25) rfl (by kernel_rfl) rfl rfl ?_
                    intro K hK
                    go_simp
                    refine (CS.out _ (HSP.out.below D7.out)).mono ?_
                    rintro e V1 ⟨⟨x1, rfl, ho1⟩, hb1'⟩
                    have F1 := Lib.hid (D7.out.trans hb1')
                    have O1 := Lib.hid ho1
                    have K1 := Lib.hid (show (fun w' => w'.cell? ⟨b, c, none⟩ = some (.slice (some ⟨gp, 0, none⟩) m.length cp2) ∧ w'.cell? ⟨b, r, none⟩ = some (.slice (some ⟨ga, 0, none⟩) m.length ca) ∧ w'.cell? ⟨ga, c, none⟩ = some (.int .i64 x) ∧ w'.cell? ⟨gp, c, none⟩ = some (.int .i64 d)) V1 from ⟨(F1.out.cell (p := ⟨b, c, none⟩) hb7).trans C1, (F1.out.cell (p := ⟨b, r, none⟩) hb7).trans C2, (F1.out.cell (p := ⟨ga, c, none⟩) hga).trans C3, (F1.out.cell (p := ⟨gp, c, none⟩) hgp).trans C4⟩)
                    clear hb1' ho1
                    refine hK.out _ _ K1.out ?_
                    clear hK K
                    try simp only [Act.put, List.setIfInBounds_toArray, List.set_cons_zero, List.set_cons_succ]
                    refine T_step (i := 26) rfl (by kernel_rfl) rfl rfl ?_
                    intro K hK
                    go_simp
                    refine (CL.out _ _ (HSA.out.below F1.out) O1.out.sl).mono ?_
                    rintro e V2 ⟨⟨x2, rfl, ho2⟩, hb2⟩
                    have F2 := Lib.hid (F1.out.trans (hb2.mono F1.out.size))
                    have O2 := Lib.hid ho2
                    have K2 := Lib.hid (show (fun w' => w'.cell? ⟨b, c, none⟩ = some (.slice (some ⟨gp, 0, none⟩) m.length cp2) ∧ w'.cell? ⟨b, r, none⟩ = some (.slice (some ⟨ga, 0, none⟩) m.length ca) ∧ w'.cell? ⟨ga, c, none⟩ = some (.int .i64 x) ∧ w'.cell? ⟨gp, c, none⟩ = some (.int .i64 d)) V2 from ⟨(F2.out.cell (p := ⟨b, c, none⟩) hb7).trans C1, (F2.out.cell (p := ⟨b, r, none⟩) hb7).trans C2, (F2.out.cell (p := ⟨ga, c, none⟩) hga).trans C3, (F2.out.cell (p := ⟨gp, c, none⟩) hgp).trans C4⟩)
                    clear hb2 ho2
                    have HLX := Lib.hid (show (intVals (lessL a (scaleL p (x / d)))).length = m.length by rw [intVals_len, lessL_len (by simp [scaleL, HA2.out, HP2.out]), HA2.out])
                    obtain ⟨gx, cx, e0, _, _⟩ := O2.out.form (by rw [HLX.out]; omega)
                    rw [HLX.out] at e0
                    subst e0
                    refine hK.out _ _ K2.out ?_
                    clear hK K
                    try simp only [Act.put, List.setIfInBounds_toArray, List.set_cons_zero, List.set_cons_succ]
                    refine T_take (i := 27) (v := .pointer (some ⟨b, r, none⟩)) rfl (by kernel_rfl) (by kernel_rfl) (by kernel_rfl) (by kernel_rfl) (fun _ _ _ h => h) K2.out rfl (fun w' hS' => by (try dsimp only at hS'); go_simp) ?_
                    try simp only [Act.put, List.setIfInBounds_toArray]
                    have c9 := K2.out.2.1
                    have f9 := ((bcell F2.out).2 b r hb7).trans f2
                    have HOO := Lib.hid (HW7.out.set_new F2.out HB7.out.size r (lt_of_get HA1.out) O2.out F1.out.size)
                    refine T_last (i := 28) rfl (by kernel_rfl) (by kernel_rfl) rfl rfl ?_
                    go_simp
                    go_wp2
                    refine ⟨⟨r + 1, by omega, by go_num, ?_, (HB7.out.trans (F2.out.mono HB7.out.size)).setCell (p := ⟨b, r, none⟩) hb1 _⟩, by simp [RowKit.intOf]; omega⟩
                    show OwR _ _ _ _ _ _ (redH c r (redsH c (negH c z) r))
                    unfold redH
                    rw [show (redsH c (negH c z) r).getD r [] = a by rw [List.getD_eq_getElem?_getD, HA1.out]; rfl, show (redsH c (negH c z) r).getD c [] = p by rw [List.getD_eq_getElem?_getD, HP1.out]; rfl, HCA.out, HCP.out]
                    exact HOO.out
                  · obtain rfl : r = c := by omega
                    go_wp2
                    refine ⟨⟨r + 1, by omega, by go_num, ?_, HB7.out⟩, by simp [RowKit.intOf]; omega⟩
                    rw [HS1.out]
                    exact HW7.out
              · have HNE := Lib.hid (show negH c z = z by unfold negH; rw [HZC.out, HCU.out, if_neg hneg])
                have hge : 0 ≤ x := by omega
                go_wp2_with fail
                refine wgen ?_
                intro W6 hW
                have HW6 := Lib.hid (show OwR 27 3 w.heap.size W6.heap.size W6 (.slice (some ⟨b, 0, none⟩) m.length oc) (negH c z) by rw [hW, HNE.out]; exact HW5.out)
                have HB6 := Lib.hid (show Below w.heap.size w W6 by rw [hW]; exact HB3.out)
                clear hW cell1 fr1 cell3 HNE hneg hge
                go_loopw [9] (fun i wr => ∃ r : Nat, r ≤ c ∧ i = .int .i64 r ∧ OwR 27 3 w.heap.size wr.heap.size wr (.slice (some ⟨b, 0, none⟩) m.length oc) (redsH c (negH c z) r) ∧ Below w.heap.size w wr) (fun i _ => c - (RowKit.intOf i).toNat)
                case atStart => exact ⟨0, Nat.zero_le _, rfl, HW6.out, HB6.out⟩
                case round =>
                  obtain ⟨r, hr, rfl, how, hbr⟩ := hrel
                  rename World => W7
                  have HW7 := Lib.hid how
                  have HB7 := Lib.hid hbr
                  clear how hbr
                  by_cases hlr : r < c
                  · obtain ⟨a, p, ha1, hp1, ha2, hp2, hpos, hba, hbp, hbs⟩ := HA.out.2 r hlr
                    have HA1 := Lib.hid ha1
                    have HP1 := Lib.hid hp1
                    have HA2 := Lib.hid ha2
                    have HP2 := Lib.hid hp2
                    have HBA := Lib.hid hba
                    have HBP := Lib.hid hbp
                    have HBS := Lib.hid hbs
                    have HPO := Lib.hid hpos
                    clear ha1 hp1 ha2 hp2 hpos hba hbp hbs
                    obtain ⟨ga, ca, C2, f2, hb7, hga, hsa, hxa⟩ := HW7.out.row2 r a HA1.out HA2.out (by omega)
                    obtain ⟨gp, cp2, C1, f1, _, hgp, hsp, hxp⟩ := HW7.out.row2 c p HP1.out HP2.out (by omega)
                    have C3 := hxa c (by rw [HA2.out]; omega)
                    have C4 := hxp c (by rw [HP2.out]; omega)
                    have HSA := Lib.hid hsa
                    have HSP := Lib.hid hsp
                    clear hsa hsp hxa hxp
                    have HCA := Lib.hid (colA_get (c := c) (u := a) (by rw [HA2.out]; omega))
                    have HCP := Lib.hid (colA_get (c := c) (u := p) (by rw [HP2.out]; omega))
                    generalize hx : a[c]'(by rw [HA2.out]; omega) = x at C3 HCA
                    generalize hy : p[c]'(by rw [HP2.out]; omega) = d at C4 HCP
                    clear hx hy
                    have i2 : (0 : Int) ≤ (r : Int) := by omega
                    have i3 : (r : Int) < (m.length : Int) := by omega
                    go_wp2
                    refine T_begin (z := fun k => k == 28) (S := fun w' => w'.cell? ⟨b, c, none⟩ = some (.slice (some ⟨gp, 0, none⟩) m.length cp2) ∧ w'.cell? ⟨b, r, none⟩ = some (.slice (some ⟨ga, 0, none⟩) m.length ca) ∧ w'.cell? ⟨ga, c, none⟩ = some (.int .i64 x) ∧ w'.cell? ⟨gp, c, none⟩ = some (.int .i64 d)) (by kernel_rfl) ?_
                    show wpAnyT _ _ _ _ _ _ 29 _ _ _
                    have hS0 := Lib.hid (show (fun w' => w'.cell? ⟨b, c, none⟩ = some (.slice (some ⟨gp, 0, none⟩) m.length cp2) ∧ w'.cell? ⟨b, r, none⟩ = some (.slice (some ⟨ga, 0, none⟩) m.length ca) ∧ w'.cell? ⟨ga, c, none⟩ = some (.int .i64 x) ∧ w'.cell? ⟨gp, c, none⟩ = some (.int .i64 d)) W7.drew from ⟨C1, C2, C3, C4⟩)
                    refine T_take (i := 0) (v := .slice (some ⟨b, 0, none⟩) m.length oc) rfl (by kernel_rfl) (by kernel_rfl) (by kernel_rfl) (by kernel_rfl) (fun _ _ _ h => h) hS0.out rfl (fun w' hS' => by (try dsimp only at hS'); go_simp) ?_
                    try simp only [Act.put, List.setIfInBounds_toArray]
                    refine T_take (i := 1) (v := .int .i64 r) rfl (by kernel_rfl) (by kernel_rfl) (by kernel_rfl) (by kernel_rfl) (fun _ _ _ h => h) hS0.out rfl (fun w' hS' => by (try dsimp only at hS'); go_simp) ?_
                    try simp only [Act.put]
                    refine T_take (i := 2) (v := .slice (some ⟨b, 0, none⟩) m.length oc) rfl (by kernel_rfl) (by kernel_rfl) (by kernel_rfl) (by kernel_rfl) (fun _ _ _ h => h) hS0.out rfl (fun w' hS' => by (try dsimp only at hS'); go_simp) ?_
                    try simp only [Act.put]
                    refine T_take (i := 3) (v := .int .i64 r) rfl (by kernel_rfl) (by kernel_rfl) (by kernel_rfl) (by kernel_rfl) (fun _ _ _ h => h) hS0.out rfl (fun w' hS' => by (try dsimp only at hS'); go_simp) ?_
                    try simp only [Act.put]
                    refine T_take (i := 4) (v := .pointer (some ⟨b, r, none⟩)) rfl (by kernel_rfl) (by kernel_rfl) (by kernel_rfl) (by kernel_rfl) (fun _ _ _ h => h) hS0.out rfl (fun w' hS' => by (try dsimp only at hS'); go_simp) ?_
                    try simp only [Act.put]
                    refine T_take (i := 5) (v := .slice (some ⟨ga, 0, none⟩) m.length ca) rfl (by kernel_rfl) (by kernel_rfl) (by kernel_rfl) (by kernel_rfl) (fun _ _ _ h => h) hS0.out rfl (fun w' hS' => by (try dsimp only at hS'); go_simp) ?_
                    try simp only [Act.put]
                    refine T_take (i := 6) (v := .slice (some ⟨b, 0, none⟩) m.length oc) rfl (by kernel_rfl) (by kernel_rfl) (by kernel_rfl) (by kernel_rfl) (fun _ _ _ h => h) hS0.out rfl (fun w' hS' => by (try dsimp only at hS'); go_simp) ?_
                    try simp only [Act.put]
                    refine T_take (i := 7) (v := .int .i64 c) rfl (by kernel_rfl) (by kernel_rfl) (by kernel_rfl) (by kernel_rfl) (fun _ _ _ h => h) hS0.out rfl (fun w' hS' => by (try dsimp only at hS'); go_simp) ?_
                    try simp only [Act.put]
                    refine T_take (i := 8) (v := .pointer (some ⟨b, c, none⟩)) rfl (by kernel_rfl) (by kernel_rfl) (by kernel_rfl) (by kernel_rfl) (fun _ _ _ h => h) hS0.out rfl (fun w' hS' => by (try dsimp only at hS'); go_simp) ?_
                    try simp only [Act.put]
                    refine T_take (i := 9) (v := .slice (some ⟨gp, 0, none⟩) m.length cp2) rfl (by kernel_rfl) (by kernel_rfl) (by kernel_rfl) (by kernel_rfl) (fun _ _ _ h => h) hS0.out rfl (fun w' hS' => by (try dsimp only at hS'); go_simp) ?_
                    try simp only [Act.put]
                    refine T_take (i := 10) (v := .slice (some ⟨b, 0, none⟩) m.length oc) rfl (by kernel_rfl) (by kernel_rfl) (by kernel_rfl) (by kernel_rfl) (fun _ _ _ h => h) hS0.out rfl (fun w' hS' => by (try dsimp only at hS'); go_simp) ?_
                    try simp only [Act.put]
                    refine T_take (i := 11) (v := .int .i64 r) rfl (by kernel_rfl) (by kernel_rfl) (by kernel_rfl) (by kernel_rfl) (fun _ _ _ h => h) hS0.out rfl (fun w' hS' => by (try dsimp only at hS'); go_simp) ?_
                    try simp only [Act.put]
                    refine T_take (i := 12) (v := .pointer (some ⟨b, r, none⟩)) rfl (by kernel_rfl) (by kernel_rfl) (by kernel_rfl) (by kernel_rfl) (fun _ _ _ h => h) hS0.out rfl (fun w' hS' => by (try dsimp only at hS'); go_simp) ?_
                    try simp only [Act.put]
                    refine T_take (i := 13) (v := .slice (some ⟨ga, 0, none⟩) m.length ca) rfl (by kernel_rfl) (by kernel_rfl) (by kernel_rfl) (by kernel_rfl) (fun _ _ _ h => h) hS0.out rfl (fun w' hS' => by (try dsimp only at hS'); go_simp) ?_
                    try simp only [Act.put]
                    refine T_take (i := 14) (v := .int .i64 c) rfl (by kernel_rfl) (by kernel_rfl) (by kernel_rfl) (by kernel_rfl) (fun _ _ _ h => h) hS0.out rfl (fun w' hS' => by (try dsimp only at hS'); go_simp) ?_
                    try simp only [Act.put]
                    refine T_take (i := 15) (v := .pointer (some ⟨ga, c, none⟩)) rfl (by kernel_rfl) (by kernel_rfl) (by kernel_rfl) (by kernel_rfl) (fun _ _ _ h => h) hS0.out rfl (fun w' hS' => by (try dsimp only at hS'); go_simp) ?_
                    try simp only [Act.put]
                    refine T_take (i := 16) (v := .int .i64 x) rfl (by kernel_rfl) (by kernel_rfl) (by kernel_rfl) (by kernel_rfl) (fun _ _ _ h => h) hS0.out rfl (fun w' hS' => by (try dsimp only at hS'); go_simp) ?_
                    try simp only [Act.put]
                    refine T_take (i := 17) (v := .slice (some ⟨b, 0, none⟩) m.length oc) rfl (by kernel_rfl) (by kernel_rfl) (by kernel_rfl) (by kernel_rfl) (fun _ _ _ h => h) hS0.out rfl (fun w' hS' => by (try dsimp only at hS'); go_simp) ?_
                    try simp only [Act.put]
                    refine T_take (i := 18) (v := .int .i64 c) rfl (by kernel_rfl) (by kernel_rfl) (by kernel_rfl) (by kernel_rfl) (fun _ _ _ h => h) hS0.out rfl (fun w' hS' => by (try dsimp only at hS'); go_simp) ?_
                    try simp only [Act.put]
                    refine T_take (i := 19) (v := .pointer (some ⟨b, c, none⟩)) rfl (by kernel_rfl) (by kernel_rfl) (by kernel_rfl) (by kernel_rfl) (fun _ _ _ h => h) hS0.out rfl (fun w' hS' => by (try dsimp only at hS'); go_simp) ?_
                    try simp only [Act.put]
                    refine T_take (i := 20) (v := .slice (some ⟨gp, 0, none⟩) m.length cp2) rfl (by kernel_rfl) (by kernel_rfl) (by kernel_rfl) (by kernel_rfl) (fun _ _ _ h => h) hS0.out rfl (fun w' hS' => by (try dsimp only at hS'); go_simp) ?_
                    try simp only [Act.put]
                    refine T_take (i := 21) (v := .int .i64 c) rfl (by kernel_rfl) (by kernel_rfl) (by kernel_rfl) (by kernel_rfl) (fun _ _ _ h => h) hS0.out rfl (fun w' hS' => by (try dsimp only at hS'); go_simp) ?_
                    try simp only [Act.put]
                    refine T_take (i := 22) (v := .pointer (some ⟨gp, c, none⟩)) rfl (by kernel_rfl) (by kernel_rfl) (by kernel_rfl) (by kernel_rfl) (fun _ _ _ h => h) hS0.out rfl (fun w' hS' => by (try dsimp only at hS'); go_simp) ?_
                    try simp only [Act.put]
                    refine T_take (i := 23) (v := .int .i64 d) rfl (by kernel_rfl) (by kernel_rfl) (by kernel_rfl) (by kernel_rfl) (fun _ _ _ h => h) hS0.out rfl (fun w' hS' => by (try dsimp only at hS'); go_simp) ?_
                    try simp only [Act.put]
                    have hxb := HBA.out c (by rw [HA2.out]; omega)
                    rw [← colA_get (c := c) (u := a) (by rw [HA2.out]; omega), HCA.out] at hxb
                    have hdb := HBP.out c (by rw [HP2.out]; omega)
                    rw [← colA_get (c := c) (u := p) (by rw [HP2.out]; omega), HCP.out] at hdb
                    have hd0 := HPO.out
                    rw [HCP.out] at hd0
                    have hsb := HBS.out
                    rw [HCA.out, HCP.out] at hsb
                    have CF := Lib.hid (fun W => s_floor x d (by omega) (by omega) hd0 (by omega) W)
                    have CS := Lib.hid (fun W h => s_scale2 p (by rw [HP2.out]; omega) (x / d) (bd_up hsb (by omega)) (.slice (some ⟨gp, 0, none⟩) m.length cp2) W h)
                    have CL := Lib.hid (fun W v h h' => s_less a (scaleL p (x / d)) (by simp [scaleL, HA2.out, HP2.out]) (by rw [HA2.out]; omega) 400000000000000000 (by omega) HBA.out hsb (.slice (some ⟨ga, 0, none⟩) m.length ca) v W h h')
                    have D7 := Lib.hid ((Below.refl W7.heap.size W7).drew)
                    clear hxb hdb hd0 hsb
                    refine T_step (i := 24) rfl (by kernel_rfl) rfl rfl ?_
                    intro K hK
                    go_simp
                    refine (CF.out _).mono ?_
                    rintro e w' ⟨rfl, rfl⟩
                    refine hK.out _ _ hS0.out ?_
                    clear hK K
                    try simp only [Act.put, List.setIfInBounds_toArray, List.set_cons_zero, List.set_cons_succ]
                    refine T_step (i := 25) rfl (by kernel_rfl) rfl rfl ?_
                    intro K hK
                    go_simp
                    refine (CS.out _ (HSP.out.below D7.out)).mono ?_
                    rintro e V1 ⟨⟨x1, rfl, ho1⟩, hb1'⟩
                    have F1 := Lib.hid (D7.out.trans hb1')
                    have O1 := Lib.hid ho1
                    have K1 := Lib.hid (show (fun w' => w'.cell? ⟨b, c, none⟩ = some (.slice (some ⟨gp, 0, none⟩) m.length cp2) ∧ w'.cell? ⟨b, r, none⟩ = some (.slice (some ⟨ga, 0, none⟩) m.length ca) ∧ w'.cell? ⟨ga, c, none⟩ = some (.int .i64 x) ∧ w'.cell? ⟨gp, c, none⟩ = some (.int .i64 d)) V1 from ⟨(F1.out.cell (p := ⟨b, c, none⟩) hb7).trans C1, (F1.out.cell (p := ⟨b, r, none⟩) hb7).trans C2, (F1.out.cell (p := ⟨ga, c, none⟩) hga).trans C3, (F1.out.cell (p := ⟨gp, c, none⟩) hgp).trans C4⟩)
                    clear hb1' ho1
                    refine hK.out _ _ K1.out ?_
                    clear hK K
                    try simp only [Act.put, List.setIfInBounds_toArray, List.set_cons_zero, List.set_cons_succ]
                    refine T_step (i := 26) rfl (by kernel_rfl) rfl rfl ?_
                    intro K hK
                    go_simp
                    refine (CL.out _ _ (HSA.out.below F1.out) O1.out.sl).mono ?_
                    rintro e V2 ⟨⟨x2, rfl, ho2⟩, hb2⟩
                    have F2 := Lib.hid (F1.out.trans (hb2.mono F1.out.size))
                    have O2 := Lib.hid ho2
                    have K2 := Lib.hid (show (fun w' => w'.cell? ⟨b, c, none⟩ = some (.slice (some ⟨gp, 0, none⟩) m.length cp2) ∧ w'.cell? ⟨b, r, none⟩ = some (.slice (some ⟨ga, 0, none⟩) m.length ca) ∧ w'.cell? ⟨ga, c, none⟩ = some (.int .i64 x) ∧ w'.cell? ⟨gp, c, none⟩ = some (.int .i64 d)) V2 from ⟨(F2.out.cell (p := ⟨b, c, none⟩) hb7).trans C1, (F2.out.cell (p := ⟨b, r, none⟩) hb7).trans C2, (F2.out.cell (p := ⟨ga, c, none⟩) hga).trans C3, (F2.out.cell (p := ⟨gp, c, none⟩) hgp).trans C4⟩)
                    clear hb2 ho2
                    have HLX := Lib.hid (show (intVals (lessL a (scaleL p (x / d)))).length = m.length by rw [intVals_len, lessL_len (by simp [scaleL, HA2.out, HP2.out]), HA2.out])
                    obtain ⟨gx, cx, e0, _, _⟩ := O2.out.form (by rw [HLX.out]; omega)
                    rw [HLX.out] at e0
                    subst e0
                    refine hK.out _ _ K2.out ?_
                    clear hK K
                    try simp only [Act.put, List.setIfInBounds_toArray, List.set_cons_zero, List.set_cons_succ]
                    refine T_take (i := 27) (v := .pointer (some ⟨b, r, none⟩)) rfl (by kernel_rfl) (by kernel_rfl) (by kernel_rfl) (by kernel_rfl) (fun _ _ _ h => h) K2.out rfl (fun w' hS' => by (try dsimp only at hS'); go_simp) ?_
                    try simp only [Act.put, List.setIfInBounds_toArray]
                    have c9 := K2.out.2.1
                    have f9 := ((bcell F2.out).2 b r hb7).trans f2
                    have HOO := Lib.hid (HW7.out.set_new F2.out HB7.out.size r (lt_of_get HA1.out) O2.out F1.out.size)
                    refine T_last (i := 28) rfl (by kernel_rfl) (by kernel_rfl) rfl rfl ?_
                    go_simp
                    go_wp2
                    refine ⟨⟨r + 1, by omega, by go_num, ?_, (HB7.out.trans (F2.out.mono HB7.out.size)).setCell (p := ⟨b, r, none⟩) hb1 _⟩, by simp [RowKit.intOf]; omega⟩
                    show OwR _ _ _ _ _ _ (redH c r (redsH c (negH c z) r))
                    unfold redH
                    rw [show (redsH c (negH c z) r).getD r [] = a by rw [List.getD_eq_getElem?_getD, HA1.out]; rfl, show (redsH c (negH c z) r).getD c [] = p by rw [List.getD_eq_getElem?_getD, HP1.out]; rfl, HCA.out, HCP.out]
                    exact HOO.out
                  · obtain rfl : r = c := by omega
                    go_wp2
                    refine ⟨⟨r + 1, by omega, by go_num, ?_, HB7.out⟩, by simp [RowKit.intOf]; omega⟩
                    rw [HS1.out]
                    exact HW7.out
        · obtain rfl : c = m.length := by omega
          go_wp2
          go_ret
          exact ⟨⟨_, rfl, HW.out⟩, HB2.out⟩

theorem hermL_len (m : List (List Int)) : (hermL m).length = m.length := hermS_len m m.length
theorem hermR_mat {m : List (List Int)} (h : detR m ≠ 0) : hermR m = if isM (hermL m) = true then (hermL m, true) else ([], false) := by
  unfold hermR
  by_cases h4 : isM (hermL m) = true
  · rw [if_pos ⟨h, h4⟩, if_pos h4]
  · rw [if_neg (fun h => h4 h.2), if_neg h4]
theorem hermR_len (m : List (List Int)) : tot (hermR m).1 ≤ 9 := by
  unfold hermR
  split
  · rename_i h; exact isM_tot h.2
  · simp [tot]

set_option maxRecDepth 100000 in
set_option maxHeartbeats 800000 in
theorem s_hermof (m : List (List Int)) (v : Value) (w : World) (hv : Rw w v m) :
    Calls Tryz.prog 36 #[v] w (GotR w (hermR m)) := by
  have HV := Lib.hid hv
  clear hv
  by_cases h0 : detR m = 0
  · have HR := Lib.hid (show hermR m = ([], false) from if_neg (fun h => h.1 h0))
    have HZ := Lib.hid h0
    clear h0
    go_enter Tryz.func36, Tryz.ntmps36
    go_wp2_with fail
    refine (s_detof m _ _ HV.out).mono ?_
    rintro e w1 ⟨rfl, hb⟩
    rw [HZ.out]
    have B1 := Lib.hid hb
    clear hb
    go_wp2_with fail
    go_ret2
    rw [HR.out]
    exact ⟨⟨_, rfl, owr_empty B1.out.size⟩, B1.out.alloc B1.out.size _⟩
  · have hm : isM m = true := by
      by_cases hh : isM m = true
      · exact hh
      · exact absurd (if_neg hh) h0
    have hdd : detR m = detL m := if_pos hm
    have hd : detL m ≠ 0 := by rw [← hdd]; exact h0
    have HR := Lib.hid (hermR_mat h0)
    have hne : (detR m == 0) = false := by rw [beq_eq_false_iff_ne]; exact h0
    have HM := Lib.hid hm
    have HD := Lib.hid hd
    clear hm hd hdd
    generalize hg : detR m = dd at hne h0
    have HG := Lib.hid hg
    clear hg
    go_enter Tryz.func36, Tryz.ntmps36
    go_wp2_with fail
    refine (s_detof m _ _ HV.out).mono ?_
    rintro e w1 ⟨rfl, hb⟩
    rw [HG.out]
    have B1 := Lib.hid hb
    clear hb
    go_wp2_with fail
    refine (s_herm m (isM_t HM.out).1 (isM_t HM.out).2.1 (isM_sq HM.out) HD.out _ _ (HV.out.below B1.out)).mono ?_
    rintro e w2 ⟨⟨r, rfl, ho⟩, hb⟩
    have B2 := Lib.hid (B1.out.trans (hb.mono B1.out.size))
    have HO := Lib.hid (ho.mono B1.out.size (Nat.le_refl _))
    clear hb ho
    go_wp2_with fail
    refine (s_ismat (hermL m) _ _ HO.out.rw).mono ?_
    rintro e w3 ⟨rfl, hb⟩
    have B3 := Lib.hid (B2.out.trans (hb.mono B2.out.size))
    have HO3 := Lib.hid ((HO.out.below hb).mono (Nat.le_refl _) hb.size)
    clear hb
    by_cases h4 : isM (hermL m) = true
    · have H4 := Lib.hid (show hermR m = (hermL m, true) by rw [HR.out, if_pos h4])
      rw [h4]
      clear h4
      go_wp2_with fail
      go_ret2
      rw [H4.out]
      exact ⟨⟨_, rfl, HO3.out⟩, B3.out⟩
    · have H4 := Lib.hid (show hermR m = ([], false) by rw [HR.out, if_neg h4])
      rw [show isM (hermL m) = false by simpa using h4]
      clear h4
      go_wp2_with fail
      go_ret2
      rw [H4.out]
      exact ⟨⟨_, rfl, owr_empty B3.out.size⟩, B3.out.alloc B3.out.size _⟩
end Go.Proofs.YtjijgagdaolkcaaGreat
