/- The model's l2Put: a row is put among rows in order. -/
import Derived.Test.YtjijgagdaolkcaaGreatMav
import Derived.Test.YtjijgagdaolkcaaGreatMab
import Derived.Deep.Cut
namespace Go.Proofs.YtjijgagdaolkcaaGreat
open Go.RowKit Go.Lib

theorem owns_cut0 {w : World} {base n m cap : Nat} {a : Option Addr} {T : TypeId} {xs : List Value} (h : w.ownsRow base T 1 (.slice a n cap) n xs) (hm : m ≤ n) : w.ownsRow base T 1 (.slice a m cap) m (xs.take m) := by
  rcases h.2 with ⟨e, h0⟩ | ⟨g, cap', cur, e, hr⟩
  · simp only [Value.slice.injEq] at e
    obtain ⟨rfl, _, rfl⟩ := e
    obtain rfl : m = 0 := by omega
    rw [List.take_zero]
    exact World.ownsRow_nil _ _ _ _
  · simp only [Value.slice.injEq] at e
    obtain ⟨rfl, _, rfl⟩ := e
    have := ownsCut h hm
    rwa [Nat.mul_one] at this
/-- The rows again, one put in at place a. -/
theorem OwR.insert {T e : TypeId} {base m : Nat} {w w' : World} {v v' u : Value} {zss : List (List Int)} {ys : List Int} (hu : OwnV e m w.heap.size w u (intVals ys)) (hbm : base ≤ m) (hm : m ≤ w.heap.size)
    {us : List Value} (hus : us.length = zss.length ∧ (∀ (i : Nat) u z, us[i]? = some u → zss[i]? = some z → OwnV e base m w u (intVals z)) ∧
      (∀ (i j : Nat) u u' b, i ≠ j → us[i]? = some u → us[j]? = some u' → u.ownBlock = some b → u'.ownBlock ≠ some b) ∧ (∀ (i : Nat) u b, us[i]? = some u → u.ownBlock = some b → v.ownBlock ≠ some b))
    (hvm : ∀ b, v.ownBlock = some b → b < m) (a : Nat) (ha : a ≤ zss.length)
    (hr : w'.ownsRow base T 1 v' (zss.length + 1) (us.take a ++ u :: us.drop a)) (hg : w.grownBy w' v.ownBlock) (hat : ∀ b, v'.ownBlock = some b → v.ownBlock = some b ∨ w.heap.size ≤ b) : OwR T e base w'.heap.size w' v' (zss.take a ++ ys :: zss.drop a) := by
  obtain ⟨h1, h3, h4, h5⟩ := hus
  have hau : a ≤ us.length := by omega
  have place : ∀ (i : Nat) x b, us[i]? = some x → x.ownBlock = some b → b < m := fun i x b hx hb => by
    have hi := lt_of_get hx
    exact ((h3 i x _ hx (List.getElem?_eq_getElem (by omega))).place hb).2.1
  have huv : ∀ b, u.ownBlock = some b → some b ≠ v.ownBlock := fun b hb e => by
    have p1 := (hu.place hb).1
    have p2 := hvm b e.symm
    omega
  have get : ∀ (i : Nat) x, (us.take a ++ u :: us.drop a)[i]? = some x → (∃ j, us[j]? = some x ∧ (zss.take a ++ ys :: zss.drop a)[i]? = zss[j]? ∧ ((i < a ∧ j = i) ∨ (a < i ∧ i = j + 1))) ∨ (i = a ∧ x = u) := by
    intro i x hx
    rw [getIns hau] at hx
    by_cases h1 : i < a
    · rw [if_pos h1] at hx
      exact .inl ⟨i, hx, by rw [getIns ha, if_pos h1], .inl ⟨h1, rfl⟩⟩
    · rw [if_neg h1] at hx
      by_cases h2 : i = a
      · rw [if_pos h2] at hx
        exact .inr ⟨h2, (Option.some.inj hx).symm⟩
      · rw [if_neg h2] at hx
        exact .inl ⟨i - 1, hx, by rw [getIns ha, if_neg h1, if_neg h2], .inr ⟨by omega, by omega⟩⟩
  have hlen : (zss.take a ++ ys :: zss.drop a).length = zss.length + 1 := by simp; omega
  have hul : (us.take a ++ u :: us.drop a).length = zss.length + 1 := by simp; omega
  refine ⟨us.take a ++ u :: us.drop a, by rw [hlen, hul], OwnV.of_owns hr, ?_, ?_, ?_⟩
  · intro i x z hx hz
    rcases get i x hx with ⟨j, hj, hij, _⟩ | ⟨rfl, rfl⟩
    · rw [hij] at hz
      exact ((h3 j x z hj hz).grown hg (fun b hb e => h5 j x b hj hb e.symm)).mono (Nat.le_refl _) (Nat.le_trans hm hg.size)
    · rw [getIns ha, if_neg (Nat.lt_irrefl _), if_pos rfl] at hz
      obtain rfl := Option.some.inj hz
      exact (hu.grown hg huv).mono hbm hg.size
  · intro i j x y b hij hx hy hxb
    rcases get i x hx with ⟨i', hx', _, hi'⟩ | ⟨rfl, rfl⟩
    · rcases get j y hy with ⟨j', hy', _, hj'⟩ | ⟨rfl, rfl⟩
      · exact h4 i' j' x y b (by omega) hx' hy' hxb
      · intro hyb
        have p1 := (hu.place hyb).1
        have p2 := place i' x b hx' hxb
        omega
    · rcases get j y hy with ⟨j', hy', _, _⟩ | ⟨rfl, rfl⟩
      · intro hyb
        have p1 := (hu.place hxb).1
        have p2 := place j' y b hy' hyb
        omega
      · exact absurd rfl hij
  · intro i x b hx hxb hvb
    rcases get i x hx with ⟨i', hx', _, _⟩ | ⟨rfl, rfl⟩
    · rcases hat b hvb with h | h
      · exact h5 i' x b hx' hxb h
      · have := place i' x b hx' hxb; omega
    · rcases hat b hvb with h | h
      · exact huv b hxb h.symm
      · have := (hu.place hxb).2.2; omega
/-- What l2Put leaves. -/
def PutR (base : Nat) (w : World) (lv : Value) (l : List (List Int)) (e : Ending) (w' : World) : Prop := (∃ v, e = .returned v ∧ OwR 27 3 base w'.heap.size w' v l ∧ ∀ b, v.ownBlock = some b → lv.ownBlock = some b ∨ w.heap.size ≤ b) ∧ w.grownBy w' lv.ownBlock
theorem putr_mk {base : Nat} {w : World} {lv : Value} {l l' : List (List Int)} {e : Ending} {w' : World} (h : l' = l) (g : PutR base w lv l e w') : PutR base w lv l' e w' := by subst h; exact g
theorem downL_lt {l : List (List Int)} {p : List Int} {k j : Nat} (hj : j + 1 = k) (hl : j < l.length) (h : beforeL p l[j] = true) : downL l p k = downL l p j := by
  subst hj
  rw [downL, getD_row hl, if_pos h]
theorem downL_ge {l : List (List Int)} {p : List Int} {k j : Nat} (hj : j + 1 = k) (hl : j < l.length) (h : beforeL p l[j] = false) : downL l p k = k := by
  subst hj
  rw [downL, getD_row hl, h, if_neg (by simp)]
theorem putL_has {l : List (List Int)} {p : List Int} {k j : Nat} (h : downL l p l.length = k) (hj : j + 1 = k) (hl : j < l.length) (h0 : decide (l[j] = p) = true) : putL l p = l := by
  unfold putL
  rw [h, if_pos ⟨by omega, by rw [show k - 1 = j by omega, getD_row hl]; exact of_decide_eq_true h0⟩]
theorem putL_new {l : List (List Int)} {p : List Int} {k j : Nat} (h : downL l p l.length = k) (hj : j + 1 = k) (hl : j < l.length) (h0 : decide (l[j] = p) = false) : putL l p = l.take k ++ p :: l.drop k := by
  unfold putL
  rw [h, if_neg (fun c => by rw [show k - 1 = j by omega, getD_row hl] at c; exact of_decide_eq_false h0 c.2)]
theorem downL_none {l : List (List Int)} {p : List Int} {k : Nat} (h : ¬ 0 < k) : downL l p k = k := by
  obtain rfl : k = 0 := by omega
  rfl
theorem putL_zero {l : List (List Int)} {p : List Int} {k : Nat} (h : downL l p l.length = k) (h0 : ¬ 0 < k) : putL l p = l.take k ++ p :: l.drop k := by
  unfold putL
  rw [h, if_neg (fun c => h0 c.1)]

set_option maxRecDepth 100000 in
set_option maxHeartbeats 4000000 in
theorem s_putl (l : List (List Int)) (p : List Int) (v pv : Value) (base m : Nat) (w : World) (ho : OwR 27 3 base m w v l) (hp : Sl w pv (intVals p)) (hlen : ∀ q ∈ l, q.length = p.length) (hpl : p.length ≤ 1048576) (hbm : base ≤ m) (hm : m ≤ w.heap.size) (hn : l.length ≤ 1048576) :
    Calls Tryz.prog 46 #[v, pv] w (PutR base w v (putL l p)) := by
  have HP := Lib.hid hp
  have HO := Lib.hid ho
  have HLEN := Lib.hid hlen
  obtain ⟨va, vc, rfl, hml, _⟩ := ho.rw.shape
  obtain ⟨pa, pc, rfl, _, _⟩ := hp.shape
  rw [intVals_len] at HP ⊢
  unfold maxLen at hml
  have HN := Lib.hid hn
  clear ho hp hlen
  obtain ⟨i0, hi, hz0, hz1, hz2⟩ := info_parts info_row
  have HI := Lib.hid (And.intro hi (And.intro hz0 (And.intro hz1 hz2)))
  obtain ⟨i1, hi', hy0, hy1, hy2⟩ := info_parts info_int'
  have HJ := Lib.hid (And.intro hi' (And.intro hy0 (And.intro hy1 hy2)))
  clear hi hz0 hz1 hz2 hi' hy0 hy1 hy2
  go_enter Tryz.func46, Tryz.ntmps46
  go_wp2_with fail
  go_loopw [5] (fun i wr => ∃ k : Nat, k ≤ l.length ∧ i = .int .i64 k ∧ downL l p l.length = downL l p k ∧ Below w.heap.size w wr) (fun i _ => (RowKit.intOf i).toNat)
  case atStart => exact ⟨l.length, Nat.le_refl _, rfl, rfl, Below.refl _ _⟩
  case round =>
    obtain ⟨k, hk, rfl, ht, hbr⟩ := hrel
    rename World => w1
    have HB := Lib.hid hbr
    have HT := Lib.hid ht
    clear ht hbr
    by_cases h0 : 0 < k
    · have hi0 : (0 : Int) < (k : Int) := by omega
      obtain ⟨j, hj⟩ : ∃ j, j + 1 = k := ⟨k - 1, by omega⟩
      have hjl : j < l.length := by omega
      have j0 : IntKind.i64.wrap ((k : Int) - 1) = (j : Int) := by rw [IntWalk.i64_in _ (by omega)]; omega
      have j1 : (0 : Int) ≤ (j : Int) := by omega
      have j2 : (j : Int) < (l.length : Int) := by omega
      have HJK := Lib.hid hj
      obtain ⟨b, y, rfl, _, _, hb2, hcell, _, hsy, _⟩ := HO.out.at j hjl rfl
      have hsl := hsy.sl
      have hbx : b < w1.heap.size := Nat.lt_of_lt_of_le hb2 HB.out.size
      rw [← HB.out.cell (p := ⟨b, j, none⟩) hb2] at hcell
      obtain ⟨ya, yc, rfl, _⟩ := hsl.shape
      have HY := Lib.hid hsl
      have HL := Lib.hid (HLEN.out l[j] (List.getElem_mem hjl))
      obtain ⟨q, hq⟩ : ∃ q : Bool, beforeL p l[j] = q := ⟨_, rfl⟩
      have HQ := Lib.hid hq
      clear hsl hsy hq hj
      go_wp2_with fail
      refine (s_before p l[j] HL.out.symm _ _ _ (HP.out.below HB.out) (HY.out.below HB.out)).mono ?_
      rintro e w2 ⟨rfl, hb3⟩
      rw [HQ.out]
      have HB2 := Lib.hid (HB.out.trans (hb3.mono HB.out.size))
      have hcell2 := (hb3.cell (p := ⟨b, j, none⟩) hbx).trans hcell
      clear hb3 hcell
      cases q
      case true =>
        go_wp2
        exact ⟨⟨j, by omega, by go_num, HT.out.trans (downL_lt HJK.out hjl HQ.out), HB2.out⟩, by have := HJK.out; simp [RowKit.intOf]; omega⟩
      case false =>
        have HE := Lib.hid (HT.out.trans (downL_ge HJK.out hjl HQ.out))
        go_wp2_with fail
        refine (s_sameP l[j] p _ _ _ (HY.out.below HB2.out) (HP.out.below HB2.out)).mono ?_
        rintro e w3 ⟨rfl, hb3⟩
        have HB3 := Lib.hid (HB2.out.trans (hb3.mono HB2.out.size))
        obtain ⟨q2, hq2⟩ : ∃ q : Bool, decide (l[j] = p) = q := ⟨_, rfl⟩
        have HQ2 := Lib.hid hq2
        rw [hq2]
        clear hb3 hcell2 hq2
        cases q2
        case true =>
          have ES := Lib.hid (putL_has HE.out HJK.out hjl HQ2.out)
          go_wp2
          go_ret
          exact putr_mk ES.out ⟨⟨_, rfl, (HO.out.below HB3.out).mono (Nat.le_refl _) (Nat.le_trans hm HB3.out.size), fun _ h => .inl h⟩, grown_ofb HB3.out⟩
        case false =>
          have ES := Lib.hid (putL_new HE.out HJK.out hjl HQ2.out)
          clear HB HB2 HT HE HQ HQ2 HY HL j0 j1 j2
          have BA := Lib.hid HB3.out
          obtain ⟨us, k1, k2, k3, k4, k5⟩ := HO.out.below BA.out
          have UO := Lib.hid (show ∀ x ∈ us, x.oneCell' = true from fun x hx => by
            obtain ⟨i, hi, hix⟩ := List.mem_iff_getElem.1 hx
            exact own_one (k3 i x l[i] (by rw [← hix]; exact List.getElem?_eq_getElem hi) (List.getElem?_eq_getElem (by omega))))
          have US := Lib.hid (show us.length = l.length ∧ (∀ (i : Nat) u z, us[i]? = some u → l[i]? = some z → OwnV 3 base m w3 u (intVals z)) ∧ (∀ (i j : Nat) u u' q, i ≠ j → us[i]? = some u → us[j]? = some u' → u.ownBlock = some q → u'.ownBlock ≠ some q) ∧ (∀ (i : Nat) u q, us[i]? = some u → u.ownBlock = some q → (Value.slice (some ⟨b, 0, none⟩) l.length vc).ownBlock ≠ some q) from ⟨k1, k3, k4, k5⟩)
          have hvm : ∀ q, (Value.slice (some ⟨b, 0, none⟩) l.length vc).ownBlock = some q → q < m := fun q hq => (k2.place hq).2.1
          have VM := Lib.hid hvm
          have RO := Lib.hid (show (w3).ownsRow base 27 1 (.slice (some ⟨b, 0, none⟩) l.length vc) l.length us by have h := k2.owns; rw [k1] at h; exact h)
          have hvc : l.length ≤ vc := by
            obtain ⟨_, _, e, h, _⟩ := owns_slice RO.out
            simp only [Value.slice.injEq] at e
            omega
          clear k1 k2 k3 k4 k5 hvm
          have hwl : w.heap.size ≤ (w3).heap.size := BA.out.size
          have RM := Lib.hid (owns_none (e := 27) (Nat.le_refl (w3).heap.size))
          have b7 := below1 w3 (.cells #[] 27)
          have RO1 := Lib.hid (owns_below RO.out b7)
          clear b7
          by_cases hkl : k < l.length
          · have i5 : (0 : Int) ≤ (k : Int) := by omega
            have i6 : (k : Int) ≤ (l.length : Int) := by omega
            have i7 : (l.length : Int) ≤ (vc : Int) := by omega
            have i8 : ¬ vc < k := by omega

            go_wp2_with (first | (at_builtin; go_must (refine list_appG rfl _ _ 24 rfl (w3).heap.size 27 i0 _ 1 24 Tryz.underlying24 HI.out.1 HI.out.2.1 HI.out.2.2.1 HI.out.2.2.2 rfl (by omega) (.slice (some ⟨(w3).heap.size, 0, none⟩) 0 0) 0 [] rfl RM.out _ (l.length - k) _ (us.drop k) rfl (by rw [List.length_drop, US.out.1, Nat.mul_one]) (fun _ => ⟨⟨b, k, none⟩, by first | rfl | simp, fun j' u hu => by rw [List.getElem?_drop] at hu; have hlt := lt_of_get hu; have hc := RO1.out.cellAt (k + j') (by have := US.out.1; omega); rw [hu] at hc; have hadd : (⟨b, k, none⟩ : Addr).add j' = ⟨b, k + j', none⟩ := (by unfold Addr.add; split <;> simp_all); rw [hadd]; exact hc⟩) (fun x hx => UO.out x (List.mem_of_mem_drop hx)) (by omega) (by omega) (by simp) ?_; intro a7 c7 w7 ho7 hg7 hat7)))

            rw [Nat.zero_add, List.nil_append] at ho7
            have HO7 := Lib.hid ho7
            have G7 := Lib.hid (show (w3).grownBy w7 none from grownTrans (World.grownBy_alloc w3 _ none) hg7 (fun q hq => .inr (by simp [Value.ownBlock] at hq; omega)))
            have hat7' : ∀ q, (Value.slice a7 (l.length - k) c7).ownBlock = some q → (w3).heap.size ≤ q := fun q hq => (HO7.out.lt q hq).1
            have HA7 := Lib.hid hat7'
            have B7 := Lib.hid (show Below (w3).heap.size w3 w7 from ⟨G7.out.os, G7.out.tape, G7.out.output, G7.out.size, fun q hq => G7.out.block q hq (by simp)⟩)
            have PB7 := Lib.hid (HP.out.below (BA.out.trans (B7.out.mono BA.out.size)))
            clear ho7 hg7 hat7 hat7'
            have n1 : (0 : Int) ≤ (k : Int) := by omega
            have n2 : (k : Int) ≤ (vc : Int) := by omega
            refine T_begin (z := fun q => 9 < q) (S := fun (_ : World) => True) (by kernel_rfl) ?_
            show wpAnyT _ _ _ _ _ _ 11 _ _ _
            have hS0 := Lib.hid (show (fun (_ : World) => True) w7 from trivial)
            refine T_take (i := 0) (v := .slice (some ⟨b, 0, none⟩) l.length vc) rfl (by kernel_rfl) (by kernel_rfl) (by kernel_rfl) (by kernel_rfl) (fun _ _ _ h => h) hS0.out (by kernel_rfl) (fun w' hS' => by (try dsimp only at hS'); go_simp) ?_
            refine T_take (i := 1) (v := .int .i64 k) rfl (by kernel_rfl) (by kernel_rfl) (by kernel_rfl) (by kernel_rfl) (fun _ _ _ h => h) hS0.out (by kernel_rfl) (fun w' hS' => by (try dsimp only at hS'); go_simp) ?_
            refine T_take (i := 2) (v := .slice (some ⟨b, 0, none⟩) k vc) rfl (by kernel_rfl) (by kernel_rfl) (by kernel_rfl) (by kernel_rfl) (fun _ _ _ h => h) hS0.out (by kernel_rfl) (fun w' hS' => by (try dsimp only at hS'); go_simp) ?_
            refine T_take (i := 4) (v := .slice pa p.length pc) rfl (by kernel_rfl) (by kernel_rfl) (by kernel_rfl) (by kernel_rfl) (fun _ _ _ h => h) hS0.out (by kernel_rfl) (fun w' hS' => by (try dsimp only at hS'); go_simp) ?_
            refine T_take (i := 8) (v := .slice a7 (l.length - k) c7) rfl (by kernel_rfl) (by kernel_rfl) (by kernel_rfl) (by kernel_rfl) (fun _ _ _ h => h) hS0.out (by kernel_rfl) (fun w' hS' => by (try dsimp only at hS'); go_simp) ?_
            refine T_step (i := 3) rfl (by kernel_rfl) rfl (by kernel_rfl) ?_
            intro K hK
            go_simp
            refine hK.out _ _ trivial ?_
            clear hK K
            refine T_step (i := 5) rfl (by kernel_rfl) rfl (by kernel_rfl) ?_
            intro K hK
            have bz := (below1 w7 (.cells #[] 3)).drew
            have PB8 := Lib.hid (PB7.out.below bz)
            refine wp_appG _ _ 27 (by rfl) w7.heap.size 3 i1 _ 1 8 Tryz.underlying27 HJ.out.1 HJ.out.2.1 HJ.out.2.2.1 HJ.out.2.2.2 rfl (by omega) (.slice (some ⟨w7.heap.size, 0, none⟩) 0 0) 0 [] rfl (show ((w7.alloc (.cells #[] 3)).drew).ownsRow w7.heap.size 3 1 _ 0 [] from owns_none (Nat.le_refl _)) _ p.length _ (intVals p) rfl (PB8.out.news).1 (PB8.out.news).2 (by intro q hq; obtain ⟨z, _, rfl⟩ := List.mem_map.1 hq; rfl) (by omega) (by omega) (show w7.heap.size ≤ ((w7.alloc (.cells #[] 3)).drew).heap.size by simp [World.drew]) ?_
            intro a8 c8 w8 ho8 hg8 hat8
            rw [Nat.zero_add, List.nil_append] at ho8
            have B8 := Lib.hid (show Below w7.heap.size w7 w8 from bz.trans (show Below w7.heap.size _ w8 from (Below.refl _ _).grown hg8 (by simp [World.drew]) (fun q hq => by simp [Value.ownBlock] at hq; omega)))
            have HU8 := Lib.hid (show OwnV 3 w7.heap.size w8.heap.size w8 (.slice a8 p.length c8) (intVals p) from OwnV.of_owns ho8)
            clear ho8 hg8 hat8 bz PB8
            try rw [Nat.zero_add]
            refine hK.out _ _ trivial ?_
            clear hK K
            refine T_step (i := 6) rfl (by kernel_rfl) rfl (by kernel_rfl) ?_
            intro K hK
            go_simp
            refine hK.out _ _ trivial ?_
            clear hK K
            refine T_step (i := 7) rfl (by kernel_rfl) rfl (by kernel_rfl) ?_
            intro K hK
            have b9 := below1 w8 (.cells #[.slice a8 p.length c8] 27)
            obtain ⟨w9, hw9⟩ : ∃ w9, w8.alloc (.cells #[.slice a8 p.length c8] 27) = w9 := ⟨_, rfl⟩
            have NB := Lib.hid (World.news_of_block (cs := #[.slice a8 p.length c8]) (show w9.heap[w8.heap.size]? = some (.cells #[.slice a8 p.length c8] 27 (0, 0)) by rw [← hw9]; exact heap_alloc_new w8 _))
            rw [hw9] at b9 ⊢
            have B9 := Lib.hid (((B7.out).trans (B8.out.mono B7.out.size)).trans (b9.mono (Nat.le_trans B7.out.size B8.out.size)))
            have B79 := Lib.hid (B8.out.trans (b9.mono B8.out.size))
            have HU9 := Lib.hid ((HU8.out.below b9).mono (Nat.le_refl _) b9.size)
            have RO9 := Lib.hid (owns_below RO.out B9.out)
            have HO9 := Lib.hid (owns_below HO7.out B79.out)
            clear hw9 b9
            refine wp_appG _ _ 24 (by rfl) base 27 i0 _ 1 24 Tryz.underlying24 HI.out.1 HI.out.2.1 HI.out.2.2.1 HI.out.2.2.2 rfl (by omega) (.slice (some ⟨b, 0, none⟩) k vc) k (us.take k) rfl (owns_cut0 RO9.out hk) _ 1 _ [.slice a8 p.length c8] rfl rfl (fun _ => ⟨_, rfl, NB.out⟩) (fun x hx => by rw [List.mem_singleton.1 hx]; rfl) (by omega) (by omega) (Nat.le_trans (Nat.le_trans hbm hm) (Nat.le_trans hwl B9.out.size)) ?_
            intro a10 c10 w10 ho10 hg10 hat10
            have hvk : ∀ q, (Value.slice (some ⟨b, 0, none⟩) k vc).ownBlock = some q → (Value.slice (some ⟨b, 0, none⟩) l.length vc).ownBlock = some q := fun q hq => hq
            have HO10 := Lib.hid ho10
            have G10 := Lib.hid (show w9.grownBy w10 (Value.slice (some ⟨b, 0, none⟩) l.length vc).ownBlock from hg10)
            have A10 := Lib.hid (show ∀ q, (Value.slice a10 (k + 1) c10).ownBlock = some q → (Value.slice (some ⟨b, 0, none⟩) l.length vc).ownBlock = some q ∨ w9.heap.size ≤ q from hat10)
            have hne : (Value.slice a7 (l.length - k) c7).ownBlock = none ∨ (Value.slice a7 (l.length - k) c7).ownBlock ≠ (Value.slice (some ⟨b, 0, none⟩) k vc).ownBlock := by
              cases h : (Value.slice a7 (l.length - k) c7).ownBlock with
              | none => exact .inl rfl
              | some q =>
                refine .inr (fun e => ?_)
                have h1 := HA7.out q h
                have h2 := VM.out q (hvk q e.symm)
                omega
            have HR10 := Lib.hid (HO9.out.kept hg10 hne)
            clear ho10 hg10 hat10 NB hne hvk
            refine hK.out _ _ trivial ?_
            clear hK K
            refine T_step (i := 9) rfl (by kernel_rfl) rfl (by kernel_rfl) ?_
            intro K hK
            refine wp_appG _ _ 24 (by rfl) base 27 i0 _ 1 24 Tryz.underlying24 HI.out.1 HI.out.2.1 HI.out.2.2.1 HI.out.2.2.2 rfl (by omega) (.slice a10 (k + 1) c10) (k + 1) (us.take k ++ [.slice a8 p.length c8]) rfl HO10.out _ (l.length - k) _ (us.drop k) rfl (by rw [List.length_drop, US.out.1, Nat.mul_one]) (Sl.of_owns HR10.out).news.2 (fun x hx => UO.out x (List.mem_of_mem_drop hx)) (by omega) (by omega) (Nat.le_trans (Nat.le_trans hbm hm) (Nat.le_trans hwl (Nat.le_trans B9.out.size G10.out.size))) ?_
            intro a11 c11 w11 ho11 hg11 hat11
            have n9 : k + 1 + (l.length - k) = l.length + 1 := by omega
            rw [n9, List.append_assoc, List.singleton_append] at ho11
            rw [n9] at hat11
            have A11 := Lib.hid (show ∀ q, (Value.slice a11 (l.length + 1) c11).ownBlock = some q → (Value.slice (some ⟨b, 0, none⟩) l.length vc).ownBlock = some q ∨ w9.heap.size ≤ q from fun q hq => by
              rcases hat11 q hq with h | h
              · exact A10.out q h
              · exact .inr (Nat.le_trans G10.out.size h))
            have G11 := Lib.hid (show w9.grownBy w11 (Value.slice (some ⟨b, 0, none⟩) l.length vc).ownBlock from grownTrans G10.out hg11 (fun q hq => A10.out q hq))
            have HO11 := Lib.hid ho11
            clear ho11 hg11 hat11
            rw [n9]
            refine hK.out _ _ trivial ?_
            clear hK K n9
            refine T_last (i := 10) rfl (by kernel_rfl) (by kernel_rfl) rfl rfl ?_
            go_simp
            go_wp2
            go_ret
            have z1 : w.heap.size ≤ w9.heap.size := Nat.le_trans hwl B9.out.size
            refine putr_mk ES.out ⟨⟨_, rfl, OwR.insert (m := m) (w := w9) (HU9.out.mono (Nat.le_trans hm (Nat.le_trans hwl B7.out.size)) (Nat.le_refl _)) hbm (Nat.le_trans hm z1) ⟨US.out.1, fun i u z h1 h2 => (US.out.2.1 i u z h1 h2).below B9.out, US.out.2.2⟩ VM.out k hk HO11.out G11.out A11.out, fun q hq => (A11.out q hq).imp id (Nat.le_trans z1)⟩, grownTrans (grown_ofb (BA.out.trans (B9.out.mono BA.out.size))) G11.out (fun q hq => .inl hq)⟩
          · obtain rfl : k = l.length := by omega
            have i5 : (0 : Int) ≤ (l.length : Int) := by omega
            have i7 : (l.length : Int) ≤ (vc : Int) := by omega
            have i8 : ¬ vc < l.length := by omega
            by_cases hv : vc = l.length
            · subst hv
              go_wp2_with (first | (at_builtin; go_must (refine list_appG rfl _ _ 24 rfl (w3).heap.size 27 i0 _ 1 24 Tryz.underlying24 HI.out.1 HI.out.2.1 HI.out.2.2.1 HI.out.2.2.2 rfl (by omega) (.slice (some ⟨(w3).heap.size, 0, none⟩) 0 0) 0 [] rfl RM.out _ 0 _ [] rfl rfl (fun h => absurd h (Nat.lt_irrefl 0)) (fun x hx => by cases hx) (by omega) (by omega) (by simp) ?_; intro a7 c7 w7 ho7 hg7 hat7)))

              rw [List.nil_append] at ho7
              have HO7 := Lib.hid ho7
              have G7 := Lib.hid (show (w3).grownBy w7 none from grownTrans (World.grownBy_alloc w3 _ none) hg7 (fun q hq => .inr (by simp [Value.ownBlock] at hq; omega)))
              have hat7' : ∀ q, (Value.slice a7 0 c7).ownBlock = some q → (w3).heap.size ≤ q := fun q hq => (HO7.out.lt q hq).1
              have HA7 := Lib.hid hat7'
              have B7 := Lib.hid (show Below (w3).heap.size w3 w7 from ⟨G7.out.os, G7.out.tape, G7.out.output, G7.out.size, fun q hq => G7.out.block q hq (by simp)⟩)
              have PB7 := Lib.hid (HP.out.below (BA.out.trans (B7.out.mono BA.out.size)))
              clear ho7 hg7 hat7 hat7'
              have n1 : (0 : Int) ≤ ((l.length : Nat) : Int) := by omega
              have n2 : ((l.length : Nat) : Int) ≤ (l.length : Int) := by omega
              refine T_begin (z := fun q => 9 < q) (S := fun (_ : World) => True) (by kernel_rfl) ?_
              show wpAnyT _ _ _ _ _ _ 11 _ _ _
              have hS0 := Lib.hid (show (fun (_ : World) => True) w7 from trivial)
              refine T_take (i := 0) (v := .slice (some ⟨b, 0, none⟩) l.length l.length) rfl (by kernel_rfl) (by kernel_rfl) (by kernel_rfl) (by kernel_rfl) (fun _ _ _ h => h) hS0.out (by kernel_rfl) (fun w' hS' => by (try dsimp only at hS'); go_simp) ?_
              refine T_take (i := 1) (v := .int .i64 (l.length : Nat)) rfl (by kernel_rfl) (by kernel_rfl) (by kernel_rfl) (by kernel_rfl) (fun _ _ _ h => h) hS0.out (by kernel_rfl) (fun w' hS' => by (try dsimp only at hS'); go_simp) ?_
              refine T_take (i := 2) (v := .slice (some ⟨b, 0, none⟩) l.length l.length) rfl (by kernel_rfl) (by kernel_rfl) (by kernel_rfl) (by kernel_rfl) (fun _ _ _ h => h) hS0.out (by kernel_rfl) (fun w' hS' => by (try dsimp only at hS'); go_simp) ?_
              refine T_take (i := 4) (v := .slice pa p.length pc) rfl (by kernel_rfl) (by kernel_rfl) (by kernel_rfl) (by kernel_rfl) (fun _ _ _ h => h) hS0.out (by kernel_rfl) (fun w' hS' => by (try dsimp only at hS'); go_simp) ?_
              refine T_take (i := 8) (v := .slice a7 0 c7) rfl (by kernel_rfl) (by kernel_rfl) (by kernel_rfl) (by kernel_rfl) (fun _ _ _ h => h) hS0.out (by kernel_rfl) (fun w' hS' => by (try dsimp only at hS'); go_simp) ?_
              refine T_step (i := 3) rfl (by kernel_rfl) rfl (by kernel_rfl) ?_
              intro K hK
              go_simp
              refine hK.out _ _ trivial ?_
              clear hK K
              refine T_step (i := 5) rfl (by kernel_rfl) rfl (by kernel_rfl) ?_
              intro K hK
              have bz := (below1 w7 (.cells #[] 3)).drew
              have PB8 := Lib.hid (PB7.out.below bz)
              refine wp_appG _ _ 27 (by rfl) w7.heap.size 3 i1 _ 1 8 Tryz.underlying27 HJ.out.1 HJ.out.2.1 HJ.out.2.2.1 HJ.out.2.2.2 rfl (by omega) (.slice (some ⟨w7.heap.size, 0, none⟩) 0 0) 0 [] rfl (show ((w7.alloc (.cells #[] 3)).drew).ownsRow w7.heap.size 3 1 _ 0 [] from owns_none (Nat.le_refl _)) _ p.length _ (intVals p) rfl (PB8.out.news).1 (PB8.out.news).2 (by intro q hq; obtain ⟨z, _, rfl⟩ := List.mem_map.1 hq; rfl) (by omega) (by omega) (show w7.heap.size ≤ ((w7.alloc (.cells #[] 3)).drew).heap.size by simp [World.drew]) ?_
              intro a8 c8 w8 ho8 hg8 hat8
              rw [Nat.zero_add, List.nil_append] at ho8
              have B8 := Lib.hid (show Below w7.heap.size w7 w8 from bz.trans (show Below w7.heap.size _ w8 from (Below.refl _ _).grown hg8 (by simp [World.drew]) (fun q hq => by simp [Value.ownBlock] at hq; omega)))
              have HU8 := Lib.hid (show OwnV 3 w7.heap.size w8.heap.size w8 (.slice a8 p.length c8) (intVals p) from OwnV.of_owns ho8)
              clear ho8 hg8 hat8 bz PB8
              try rw [Nat.zero_add]
              refine hK.out _ _ trivial ?_
              clear hK K
              refine T_step (i := 6) rfl (by kernel_rfl) rfl (by kernel_rfl) ?_
              intro K hK
              go_simp
              refine hK.out _ _ trivial ?_
              clear hK K
              refine T_step (i := 7) rfl (by kernel_rfl) rfl (by kernel_rfl) ?_
              intro K hK
              have b9 := below1 w8 (.cells #[.slice a8 p.length c8] 27)
              obtain ⟨w9, hw9⟩ : ∃ w9, w8.alloc (.cells #[.slice a8 p.length c8] 27) = w9 := ⟨_, rfl⟩
              have NB := Lib.hid (World.news_of_block (cs := #[.slice a8 p.length c8]) (show w9.heap[w8.heap.size]? = some (.cells #[.slice a8 p.length c8] 27 (0, 0)) by rw [← hw9]; exact heap_alloc_new w8 _))
              rw [hw9] at b9 ⊢
              have B9 := Lib.hid (((B7.out).trans (B8.out.mono B7.out.size)).trans (b9.mono (Nat.le_trans B7.out.size B8.out.size)))
              have B79 := Lib.hid (B8.out.trans (b9.mono B8.out.size))
              have HU9 := Lib.hid ((HU8.out.below b9).mono (Nat.le_refl _) b9.size)
              have RO9 := Lib.hid (owns_below RO.out B9.out)
              have HO9 := Lib.hid (owns_below HO7.out B79.out)
              clear hw9 b9
              refine wp_appG _ _ 24 (by rfl) base 27 i0 _ 1 24 Tryz.underlying24 HI.out.1 HI.out.2.1 HI.out.2.2.1 HI.out.2.2.2 rfl (by omega) (.slice (some ⟨b, 0, none⟩) l.length l.length) l.length (us.take l.length) rfl (owns_cut0 RO9.out hk) _ 1 _ [.slice a8 p.length c8] rfl rfl (fun _ => ⟨_, rfl, NB.out⟩) (fun x hx => by rw [List.mem_singleton.1 hx]; rfl) (by omega) (by omega) (Nat.le_trans (Nat.le_trans hbm hm) (Nat.le_trans hwl B9.out.size)) ?_
              intro a10 c10 w10 ho10 hg10 hat10
              have hvk : ∀ q, (Value.slice (some ⟨b, 0, none⟩) l.length l.length).ownBlock = some q → (Value.slice (some ⟨b, 0, none⟩) l.length l.length).ownBlock = some q := fun q hq => hq
              have HO10 := Lib.hid ho10
              have G10 := Lib.hid (show w9.grownBy w10 (Value.slice (some ⟨b, 0, none⟩) l.length l.length).ownBlock from hg10)
              have A10 := Lib.hid (show ∀ q, (Value.slice a10 (l.length + 1) c10).ownBlock = some q → (Value.slice (some ⟨b, 0, none⟩) l.length l.length).ownBlock = some q ∨ w9.heap.size ≤ q from hat10)
              have hne : (Value.slice a7 0 c7).ownBlock = none ∨ (Value.slice a7 0 c7).ownBlock ≠ (Value.slice (some ⟨b, 0, none⟩) l.length l.length).ownBlock := by
                cases h : (Value.slice a7 0 c7).ownBlock with
                | none => exact .inl rfl
                | some q =>
                  refine .inr (fun e => ?_)
                  have h1 := HA7.out q h
                  have h2 := VM.out q (hvk q e.symm)
                  omega
              have HR10 := Lib.hid (HO9.out.kept hg10 hne)
              clear ho10 hg10 hat10 NB hne hvk
              refine hK.out _ _ trivial ?_
              clear hK K
              refine T_step (i := 9) rfl (by kernel_rfl) rfl (by kernel_rfl) ?_
              intro K hK
              refine wp_appG _ _ 24 (by rfl) base 27 i0 _ 1 24 Tryz.underlying24 HI.out.1 HI.out.2.1 HI.out.2.2.1 HI.out.2.2.2 rfl (by omega) (.slice a10 (l.length + 1) c10) (l.length + 1) (us.take l.length ++ [.slice a8 p.length c8]) rfl HO10.out _ 0 _ [] rfl rfl (Sl.of_owns HR10.out).news.2 (fun x hx => by cases hx) (by omega) (by omega) (Nat.le_trans (Nat.le_trans hbm hm) (Nat.le_trans hwl (Nat.le_trans B9.out.size G10.out.size))) ?_
              intro a11 c11 w11 ho11 hg11 hat11
              have n9 : l.length + 1 + 0 = l.length + 1 := by omega
              rw [n9, List.append_assoc, List.singleton_append] at ho11
              rw [n9] at hat11
              have A11 := Lib.hid (show ∀ q, (Value.slice a11 (l.length + 1) c11).ownBlock = some q → (Value.slice (some ⟨b, 0, none⟩) l.length l.length).ownBlock = some q ∨ w9.heap.size ≤ q from fun q hq => by
                rcases hat11 q hq with h | h
                · exact A10.out q h
                · exact .inr (Nat.le_trans G10.out.size h))
              have G11 := Lib.hid (show w9.grownBy w11 (Value.slice (some ⟨b, 0, none⟩) l.length l.length).ownBlock from grownTrans G10.out hg11 (fun q hq => A10.out q hq))
              have HO11 := Lib.hid ho11
              clear ho11 hg11 hat11
              rw [n9]
              refine hK.out _ _ trivial ?_
              clear hK K n9
              refine T_last (i := 10) rfl (by kernel_rfl) (by kernel_rfl) rfl rfl ?_
              go_simp
              go_wp2
              go_ret
              have z1 : w.heap.size ≤ w9.heap.size := Nat.le_trans hwl B9.out.size
              refine putr_mk ES.out ⟨⟨_, rfl, OwR.insert (m := m) (w := w9) (HU9.out.mono (Nat.le_trans hm (Nat.le_trans hwl B7.out.size)) (Nat.le_refl _)) hbm (Nat.le_trans hm z1) ⟨US.out.1, fun i u z h1 h2 => (US.out.2.1 i u z h1 h2).below B9.out, US.out.2.2⟩ VM.out l.length hk (by have h := HO11.out; rwa [show ([] : List Value) = us.drop l.length from (List.drop_of_length_le (by have := US.out.1; omega)).symm] at h) G11.out A11.out, fun q hq => (A11.out q hq).imp id (Nat.le_trans z1)⟩, grownTrans (grown_ofb (BA.out.trans (B9.out.mono BA.out.size))) G11.out (fun q hq => .inl hq)⟩
            · have hv2 : l.length < vc := by omega
              go_wp2_with (first | (at_builtin; go_must (refine list_appG rfl _ _ 24 rfl (w3).heap.size 27 i0 _ 1 24 Tryz.underlying24 HI.out.1 HI.out.2.1 HI.out.2.2.1 HI.out.2.2.2 rfl (by omega) (.slice (some ⟨(w3).heap.size, 0, none⟩) 0 0) 0 [] rfl RM.out _ 0 _ [] rfl rfl (fun h => absurd h (Nat.lt_irrefl 0)) (fun x hx => by cases hx) (by omega) (by omega) (by simp) ?_; intro a7 c7 w7 ho7 hg7 hat7)))

              rw [List.nil_append] at ho7
              have HO7 := Lib.hid ho7
              have G7 := Lib.hid (show (w3).grownBy w7 none from grownTrans (World.grownBy_alloc w3 _ none) hg7 (fun q hq => .inr (by simp [Value.ownBlock] at hq; omega)))
              have hat7' : ∀ q, (Value.slice a7 0 c7).ownBlock = some q → (w3).heap.size ≤ q := fun q hq => (HO7.out.lt q hq).1
              have HA7 := Lib.hid hat7'
              have B7 := Lib.hid (show Below (w3).heap.size w3 w7 from ⟨G7.out.os, G7.out.tape, G7.out.output, G7.out.size, fun q hq => G7.out.block q hq (by simp)⟩)
              have PB7 := Lib.hid (HP.out.below (BA.out.trans (B7.out.mono BA.out.size)))
              clear ho7 hg7 hat7 hat7'
              have n1 : (0 : Int) ≤ ((l.length : Nat) : Int) := by omega
              have n2 : ((l.length : Nat) : Int) ≤ (vc : Int) := by omega
              refine T_begin (z := fun q => 9 < q) (S := fun (_ : World) => True) (by kernel_rfl) ?_
              show wpAnyT _ _ _ _ _ _ 11 _ _ _
              have hS0 := Lib.hid (show (fun (_ : World) => True) w7 from trivial)
              refine T_take (i := 0) (v := .slice (some ⟨b, 0, none⟩) l.length vc) rfl (by kernel_rfl) (by kernel_rfl) (by kernel_rfl) (by kernel_rfl) (fun _ _ _ h => h) hS0.out (by kernel_rfl) (fun w' hS' => by (try dsimp only at hS'); go_simp) ?_
              refine T_take (i := 1) (v := .int .i64 (l.length : Nat)) rfl (by kernel_rfl) (by kernel_rfl) (by kernel_rfl) (by kernel_rfl) (fun _ _ _ h => h) hS0.out (by kernel_rfl) (fun w' hS' => by (try dsimp only at hS'); go_simp) ?_
              refine T_take (i := 2) (v := .slice (some ⟨b, 0, none⟩) l.length vc) rfl (by kernel_rfl) (by kernel_rfl) (by kernel_rfl) (by kernel_rfl) (fun _ _ _ h => h) hS0.out (by kernel_rfl) (fun w' hS' => by (try dsimp only at hS'); go_simp) ?_
              refine T_take (i := 4) (v := .slice pa p.length pc) rfl (by kernel_rfl) (by kernel_rfl) (by kernel_rfl) (by kernel_rfl) (fun _ _ _ h => h) hS0.out (by kernel_rfl) (fun w' hS' => by (try dsimp only at hS'); go_simp) ?_
              refine T_take (i := 8) (v := .slice a7 0 c7) rfl (by kernel_rfl) (by kernel_rfl) (by kernel_rfl) (by kernel_rfl) (fun _ _ _ h => h) hS0.out (by kernel_rfl) (fun w' hS' => by (try dsimp only at hS'); go_simp) ?_
              refine T_step (i := 3) rfl (by kernel_rfl) rfl (by kernel_rfl) ?_
              intro K hK
              go_simp
              refine hK.out _ _ trivial ?_
              clear hK K
              refine T_step (i := 5) rfl (by kernel_rfl) rfl (by kernel_rfl) ?_
              intro K hK
              have bz := (below1 w7 (.cells #[] 3)).drew
              have PB8 := Lib.hid (PB7.out.below bz)
              refine wp_appG _ _ 27 (by rfl) w7.heap.size 3 i1 _ 1 8 Tryz.underlying27 HJ.out.1 HJ.out.2.1 HJ.out.2.2.1 HJ.out.2.2.2 rfl (by omega) (.slice (some ⟨w7.heap.size, 0, none⟩) 0 0) 0 [] rfl (show ((w7.alloc (.cells #[] 3)).drew).ownsRow w7.heap.size 3 1 _ 0 [] from owns_none (Nat.le_refl _)) _ p.length _ (intVals p) rfl (PB8.out.news).1 (PB8.out.news).2 (by intro q hq; obtain ⟨z, _, rfl⟩ := List.mem_map.1 hq; rfl) (by omega) (by omega) (show w7.heap.size ≤ ((w7.alloc (.cells #[] 3)).drew).heap.size by simp [World.drew]) ?_
              intro a8 c8 w8 ho8 hg8 hat8
              rw [Nat.zero_add, List.nil_append] at ho8
              have B8 := Lib.hid (show Below w7.heap.size w7 w8 from bz.trans (show Below w7.heap.size _ w8 from (Below.refl _ _).grown hg8 (by simp [World.drew]) (fun q hq => by simp [Value.ownBlock] at hq; omega)))
              have HU8 := Lib.hid (show OwnV 3 w7.heap.size w8.heap.size w8 (.slice a8 p.length c8) (intVals p) from OwnV.of_owns ho8)
              clear ho8 hg8 hat8 bz PB8
              try rw [Nat.zero_add]
              refine hK.out _ _ trivial ?_
              clear hK K
              refine T_step (i := 6) rfl (by kernel_rfl) rfl (by kernel_rfl) ?_
              intro K hK
              go_simp
              refine hK.out _ _ trivial ?_
              clear hK K
              refine T_step (i := 7) rfl (by kernel_rfl) rfl (by kernel_rfl) ?_
              intro K hK
              have b9 := below1 w8 (.cells #[.slice a8 p.length c8] 27)
              obtain ⟨w9, hw9⟩ : ∃ w9, w8.alloc (.cells #[.slice a8 p.length c8] 27) = w9 := ⟨_, rfl⟩
              have NB := Lib.hid (World.news_of_block (cs := #[.slice a8 p.length c8]) (show w9.heap[w8.heap.size]? = some (.cells #[.slice a8 p.length c8] 27 (0, 0)) by rw [← hw9]; exact heap_alloc_new w8 _))
              rw [hw9] at b9 ⊢
              have B9 := Lib.hid (((B7.out).trans (B8.out.mono B7.out.size)).trans (b9.mono (Nat.le_trans B7.out.size B8.out.size)))
              have B79 := Lib.hid (B8.out.trans (b9.mono B8.out.size))
              have HU9 := Lib.hid ((HU8.out.below b9).mono (Nat.le_refl _) b9.size)
              have RO9 := Lib.hid (owns_below RO.out B9.out)
              have HO9 := Lib.hid (owns_below HO7.out B79.out)
              clear hw9 b9
              refine wp_appG _ _ 24 (by rfl) base 27 i0 _ 1 24 Tryz.underlying24 HI.out.1 HI.out.2.1 HI.out.2.2.1 HI.out.2.2.2 rfl (by omega) (.slice (some ⟨b, 0, none⟩) l.length vc) l.length (us.take l.length) rfl (owns_cut0 RO9.out hk) _ 1 _ [.slice a8 p.length c8] rfl rfl (fun _ => ⟨_, rfl, NB.out⟩) (fun x hx => by rw [List.mem_singleton.1 hx]; rfl) (by omega) (by omega) (Nat.le_trans (Nat.le_trans hbm hm) (Nat.le_trans hwl B9.out.size)) ?_
              intro a10 c10 w10 ho10 hg10 hat10
              have hvk : ∀ q, (Value.slice (some ⟨b, 0, none⟩) l.length vc).ownBlock = some q → (Value.slice (some ⟨b, 0, none⟩) l.length vc).ownBlock = some q := fun q hq => hq
              have HO10 := Lib.hid ho10
              have G10 := Lib.hid (show w9.grownBy w10 (Value.slice (some ⟨b, 0, none⟩) l.length vc).ownBlock from hg10)
              have A10 := Lib.hid (show ∀ q, (Value.slice a10 (l.length + 1) c10).ownBlock = some q → (Value.slice (some ⟨b, 0, none⟩) l.length vc).ownBlock = some q ∨ w9.heap.size ≤ q from hat10)
              have hne : (Value.slice a7 0 c7).ownBlock = none ∨ (Value.slice a7 0 c7).ownBlock ≠ (Value.slice (some ⟨b, 0, none⟩) l.length vc).ownBlock := by
                cases h : (Value.slice a7 0 c7).ownBlock with
                | none => exact .inl rfl
                | some q =>
                  refine .inr (fun e => ?_)
                  have h1 := HA7.out q h
                  have h2 := VM.out q (hvk q e.symm)
                  omega
              have HR10 := Lib.hid (HO9.out.kept hg10 hne)
              clear ho10 hg10 hat10 NB hne hvk
              refine hK.out _ _ trivial ?_
              clear hK K
              refine T_step (i := 9) rfl (by kernel_rfl) rfl (by kernel_rfl) ?_
              intro K hK
              refine wp_appG _ _ 24 (by rfl) base 27 i0 _ 1 24 Tryz.underlying24 HI.out.1 HI.out.2.1 HI.out.2.2.1 HI.out.2.2.2 rfl (by omega) (.slice a10 (l.length + 1) c10) (l.length + 1) (us.take l.length ++ [.slice a8 p.length c8]) rfl HO10.out _ 0 _ [] rfl rfl (Sl.of_owns HR10.out).news.2 (fun x hx => by cases hx) (by omega) (by omega) (Nat.le_trans (Nat.le_trans hbm hm) (Nat.le_trans hwl (Nat.le_trans B9.out.size G10.out.size))) ?_
              intro a11 c11 w11 ho11 hg11 hat11
              have n9 : l.length + 1 + 0 = l.length + 1 := by omega
              rw [n9, List.append_assoc, List.singleton_append] at ho11
              rw [n9] at hat11
              have A11 := Lib.hid (show ∀ q, (Value.slice a11 (l.length + 1) c11).ownBlock = some q → (Value.slice (some ⟨b, 0, none⟩) l.length vc).ownBlock = some q ∨ w9.heap.size ≤ q from fun q hq => by
                rcases hat11 q hq with h | h
                · exact A10.out q h
                · exact .inr (Nat.le_trans G10.out.size h))
              have G11 := Lib.hid (show w9.grownBy w11 (Value.slice (some ⟨b, 0, none⟩) l.length vc).ownBlock from grownTrans G10.out hg11 (fun q hq => A10.out q hq))
              have HO11 := Lib.hid ho11
              clear ho11 hg11 hat11
              rw [n9]
              refine hK.out _ _ trivial ?_
              clear hK K n9
              refine T_last (i := 10) rfl (by kernel_rfl) (by kernel_rfl) rfl rfl ?_
              go_simp
              go_wp2
              go_ret
              have z1 : w.heap.size ≤ w9.heap.size := Nat.le_trans hwl B9.out.size
              refine putr_mk ES.out ⟨⟨_, rfl, OwR.insert (m := m) (w := w9) (HU9.out.mono (Nat.le_trans hm (Nat.le_trans hwl B7.out.size)) (Nat.le_refl _)) hbm (Nat.le_trans hm z1) ⟨US.out.1, fun i u z h1 h2 => (US.out.2.1 i u z h1 h2).below B9.out, US.out.2.2⟩ VM.out l.length hk (by have h := HO11.out; rwa [show ([] : List Value) = us.drop l.length from (List.drop_of_length_le (by have := US.out.1; omega)).symm] at h) G11.out A11.out, fun q hq => (A11.out q hq).imp id (Nat.le_trans z1)⟩, grownTrans (grown_ofb (BA.out.trans (B9.out.mono BA.out.size))) G11.out (fun q hq => .inl hq)⟩
    · have ES := Lib.hid (putL_zero (HT.out.trans (downL_none h0)) h0)
      have hz0 : ¬ (0 : Int) < (k : Int) := by omega
      clear HT
      by_cases hkl : k < l.length
      · obtain ⟨b, y, rfl, -⟩ := HO.out.at k hkl rfl
        have BA := Lib.hid HB.out
        obtain ⟨us, k1, k2, k3, k4, k5⟩ := HO.out.below BA.out
        have UO := Lib.hid (show ∀ x ∈ us, x.oneCell' = true from fun x hx => by
          obtain ⟨i, hi, hix⟩ := List.mem_iff_getElem.1 hx
          exact own_one (k3 i x l[i] (by rw [← hix]; exact List.getElem?_eq_getElem hi) (List.getElem?_eq_getElem (by omega))))
        have US := Lib.hid (show us.length = l.length ∧ (∀ (i : Nat) u z, us[i]? = some u → l[i]? = some z → OwnV 3 base m w1 u (intVals z)) ∧ (∀ (i j : Nat) u u' q, i ≠ j → us[i]? = some u → us[j]? = some u' → u.ownBlock = some q → u'.ownBlock ≠ some q) ∧ (∀ (i : Nat) u q, us[i]? = some u → u.ownBlock = some q → (Value.slice (some ⟨b, 0, none⟩) l.length vc).ownBlock ≠ some q) from ⟨k1, k3, k4, k5⟩)
        have hvm : ∀ q, (Value.slice (some ⟨b, 0, none⟩) l.length vc).ownBlock = some q → q < m := fun q hq => (k2.place hq).2.1
        have VM := Lib.hid hvm
        have RO := Lib.hid (show (w1).ownsRow base 27 1 (.slice (some ⟨b, 0, none⟩) l.length vc) l.length us by have h := k2.owns; rw [k1] at h; exact h)
        have hvc : l.length ≤ vc := by
          obtain ⟨_, _, e, h, _⟩ := owns_slice RO.out
          simp only [Value.slice.injEq] at e
          omega
        clear k1 k2 k3 k4 k5 hvm
        have hwl : w.heap.size ≤ (w1).heap.size := BA.out.size
        have RM := Lib.hid (owns_none (e := 27) (Nat.le_refl (w1).heap.size))
        have b7 := below1 w1 (.cells #[] 27)
        have RO1 := Lib.hid (owns_below RO.out b7)
        clear b7
        have i5 : (0 : Int) ≤ (k : Int) := by omega
        have i6 : (k : Int) ≤ (l.length : Int) := by omega
        have i7 : (l.length : Int) ≤ (vc : Int) := by omega
        have i8 : ¬ vc < k := by omega

        go_wp2_with (first | (at_builtin; go_must (refine list_appG rfl _ _ 24 rfl (w1).heap.size 27 i0 _ 1 24 Tryz.underlying24 HI.out.1 HI.out.2.1 HI.out.2.2.1 HI.out.2.2.2 rfl (by omega) (.slice (some ⟨(w1).heap.size, 0, none⟩) 0 0) 0 [] rfl RM.out _ (l.length - k) _ (us.drop k) rfl (by rw [List.length_drop, US.out.1, Nat.mul_one]) (fun _ => ⟨⟨b, k, none⟩, by first | rfl | simp, fun j' u hu => by rw [List.getElem?_drop] at hu; have hlt := lt_of_get hu; have hc := RO1.out.cellAt (k + j') (by have := US.out.1; omega); rw [hu] at hc; have hadd : (⟨b, k, none⟩ : Addr).add j' = ⟨b, k + j', none⟩ := (by unfold Addr.add; split <;> simp_all); rw [hadd]; exact hc⟩) (fun x hx => UO.out x (List.mem_of_mem_drop hx)) (by omega) (by omega) (by simp) ?_; intro a7 c7 w7 ho7 hg7 hat7)))

        rw [Nat.zero_add, List.nil_append] at ho7
        have HO7 := Lib.hid ho7
        have G7 := Lib.hid (show (w1).grownBy w7 none from grownTrans (World.grownBy_alloc w1 _ none) hg7 (fun q hq => .inr (by simp [Value.ownBlock] at hq; omega)))
        have hat7' : ∀ q, (Value.slice a7 (l.length - k) c7).ownBlock = some q → (w1).heap.size ≤ q := fun q hq => (HO7.out.lt q hq).1
        have HA7 := Lib.hid hat7'
        have B7 := Lib.hid (show Below (w1).heap.size w1 w7 from ⟨G7.out.os, G7.out.tape, G7.out.output, G7.out.size, fun q hq => G7.out.block q hq (by simp)⟩)
        have PB7 := Lib.hid (HP.out.below (BA.out.trans (B7.out.mono BA.out.size)))
        clear ho7 hg7 hat7 hat7'
        have n1 : (0 : Int) ≤ (k : Int) := by omega
        have n2 : (k : Int) ≤ (vc : Int) := by omega
        refine T_begin (z := fun q => 9 < q) (S := fun (_ : World) => True) (by kernel_rfl) ?_
        show wpAnyT _ _ _ _ _ _ 11 _ _ _
        have hS0 := Lib.hid (show (fun (_ : World) => True) w7 from trivial)
        refine T_take (i := 0) (v := .slice (some ⟨b, 0, none⟩) l.length vc) rfl (by kernel_rfl) (by kernel_rfl) (by kernel_rfl) (by kernel_rfl) (fun _ _ _ h => h) hS0.out (by kernel_rfl) (fun w' hS' => by (try dsimp only at hS'); go_simp) ?_
        refine T_take (i := 1) (v := .int .i64 k) rfl (by kernel_rfl) (by kernel_rfl) (by kernel_rfl) (by kernel_rfl) (fun _ _ _ h => h) hS0.out (by kernel_rfl) (fun w' hS' => by (try dsimp only at hS'); go_simp) ?_
        refine T_take (i := 2) (v := .slice (some ⟨b, 0, none⟩) k vc) rfl (by kernel_rfl) (by kernel_rfl) (by kernel_rfl) (by kernel_rfl) (fun _ _ _ h => h) hS0.out (by kernel_rfl) (fun w' hS' => by (try dsimp only at hS'); go_simp) ?_
        refine T_take (i := 4) (v := .slice pa p.length pc) rfl (by kernel_rfl) (by kernel_rfl) (by kernel_rfl) (by kernel_rfl) (fun _ _ _ h => h) hS0.out (by kernel_rfl) (fun w' hS' => by (try dsimp only at hS'); go_simp) ?_
        refine T_take (i := 8) (v := .slice a7 (l.length - k) c7) rfl (by kernel_rfl) (by kernel_rfl) (by kernel_rfl) (by kernel_rfl) (fun _ _ _ h => h) hS0.out (by kernel_rfl) (fun w' hS' => by (try dsimp only at hS'); go_simp) ?_
        refine T_step (i := 3) rfl (by kernel_rfl) rfl (by kernel_rfl) ?_
        intro K hK
        go_simp
        refine hK.out _ _ trivial ?_
        clear hK K
        refine T_step (i := 5) rfl (by kernel_rfl) rfl (by kernel_rfl) ?_
        intro K hK
        have bz := (below1 w7 (.cells #[] 3)).drew
        have PB8 := Lib.hid (PB7.out.below bz)
        refine wp_appG _ _ 27 (by rfl) w7.heap.size 3 i1 _ 1 8 Tryz.underlying27 HJ.out.1 HJ.out.2.1 HJ.out.2.2.1 HJ.out.2.2.2 rfl (by omega) (.slice (some ⟨w7.heap.size, 0, none⟩) 0 0) 0 [] rfl (show ((w7.alloc (.cells #[] 3)).drew).ownsRow w7.heap.size 3 1 _ 0 [] from owns_none (Nat.le_refl _)) _ p.length _ (intVals p) rfl (PB8.out.news).1 (PB8.out.news).2 (by intro q hq; obtain ⟨z, _, rfl⟩ := List.mem_map.1 hq; rfl) (by omega) (by omega) (show w7.heap.size ≤ ((w7.alloc (.cells #[] 3)).drew).heap.size by simp [World.drew]) ?_
        intro a8 c8 w8 ho8 hg8 hat8
        rw [Nat.zero_add, List.nil_append] at ho8
        have B8 := Lib.hid (show Below w7.heap.size w7 w8 from bz.trans (show Below w7.heap.size _ w8 from (Below.refl _ _).grown hg8 (by simp [World.drew]) (fun q hq => by simp [Value.ownBlock] at hq; omega)))
        have HU8 := Lib.hid (show OwnV 3 w7.heap.size w8.heap.size w8 (.slice a8 p.length c8) (intVals p) from OwnV.of_owns ho8)
        clear ho8 hg8 hat8 bz PB8
        try rw [Nat.zero_add]
        refine hK.out _ _ trivial ?_
        clear hK K
        refine T_step (i := 6) rfl (by kernel_rfl) rfl (by kernel_rfl) ?_
        intro K hK
        go_simp
        refine hK.out _ _ trivial ?_
        clear hK K
        refine T_step (i := 7) rfl (by kernel_rfl) rfl (by kernel_rfl) ?_
        intro K hK
        have b9 := below1 w8 (.cells #[.slice a8 p.length c8] 27)
        obtain ⟨w9, hw9⟩ : ∃ w9, w8.alloc (.cells #[.slice a8 p.length c8] 27) = w9 := ⟨_, rfl⟩
        have NB := Lib.hid (World.news_of_block (cs := #[.slice a8 p.length c8]) (show w9.heap[w8.heap.size]? = some (.cells #[.slice a8 p.length c8] 27 (0, 0)) by rw [← hw9]; exact heap_alloc_new w8 _))
        rw [hw9] at b9 ⊢
        have B9 := Lib.hid (((B7.out).trans (B8.out.mono B7.out.size)).trans (b9.mono (Nat.le_trans B7.out.size B8.out.size)))
        have B79 := Lib.hid (B8.out.trans (b9.mono B8.out.size))
        have HU9 := Lib.hid ((HU8.out.below b9).mono (Nat.le_refl _) b9.size)
        have RO9 := Lib.hid (owns_below RO.out B9.out)
        have HO9 := Lib.hid (owns_below HO7.out B79.out)
        clear hw9 b9
        refine wp_appG _ _ 24 (by rfl) base 27 i0 _ 1 24 Tryz.underlying24 HI.out.1 HI.out.2.1 HI.out.2.2.1 HI.out.2.2.2 rfl (by omega) (.slice (some ⟨b, 0, none⟩) k vc) k (us.take k) rfl (owns_cut0 RO9.out hk) _ 1 _ [.slice a8 p.length c8] rfl rfl (fun _ => ⟨_, rfl, NB.out⟩) (fun x hx => by rw [List.mem_singleton.1 hx]; rfl) (by omega) (by omega) (Nat.le_trans (Nat.le_trans hbm hm) (Nat.le_trans hwl B9.out.size)) ?_
        intro a10 c10 w10 ho10 hg10 hat10
        have hvk : ∀ q, (Value.slice (some ⟨b, 0, none⟩) k vc).ownBlock = some q → (Value.slice (some ⟨b, 0, none⟩) l.length vc).ownBlock = some q := fun q hq => hq
        have HO10 := Lib.hid ho10
        have G10 := Lib.hid (show w9.grownBy w10 (Value.slice (some ⟨b, 0, none⟩) l.length vc).ownBlock from hg10)
        have A10 := Lib.hid (show ∀ q, (Value.slice a10 (k + 1) c10).ownBlock = some q → (Value.slice (some ⟨b, 0, none⟩) l.length vc).ownBlock = some q ∨ w9.heap.size ≤ q from hat10)
        have hne : (Value.slice a7 (l.length - k) c7).ownBlock = none ∨ (Value.slice a7 (l.length - k) c7).ownBlock ≠ (Value.slice (some ⟨b, 0, none⟩) k vc).ownBlock := by
          cases h : (Value.slice a7 (l.length - k) c7).ownBlock with
          | none => exact .inl rfl
          | some q =>
            refine .inr (fun e => ?_)
            have h1 := HA7.out q h
            have h2 := VM.out q (hvk q e.symm)
            omega
        have HR10 := Lib.hid (HO9.out.kept hg10 hne)
        clear ho10 hg10 hat10 NB hne hvk
        refine hK.out _ _ trivial ?_
        clear hK K
        refine T_step (i := 9) rfl (by kernel_rfl) rfl (by kernel_rfl) ?_
        intro K hK
        refine wp_appG _ _ 24 (by rfl) base 27 i0 _ 1 24 Tryz.underlying24 HI.out.1 HI.out.2.1 HI.out.2.2.1 HI.out.2.2.2 rfl (by omega) (.slice a10 (k + 1) c10) (k + 1) (us.take k ++ [.slice a8 p.length c8]) rfl HO10.out _ (l.length - k) _ (us.drop k) rfl (by rw [List.length_drop, US.out.1, Nat.mul_one]) (Sl.of_owns HR10.out).news.2 (fun x hx => UO.out x (List.mem_of_mem_drop hx)) (by omega) (by omega) (Nat.le_trans (Nat.le_trans hbm hm) (Nat.le_trans hwl (Nat.le_trans B9.out.size G10.out.size))) ?_
        intro a11 c11 w11 ho11 hg11 hat11
        have n9 : k + 1 + (l.length - k) = l.length + 1 := by omega
        rw [n9, List.append_assoc, List.singleton_append] at ho11
        rw [n9] at hat11
        have A11 := Lib.hid (show ∀ q, (Value.slice a11 (l.length + 1) c11).ownBlock = some q → (Value.slice (some ⟨b, 0, none⟩) l.length vc).ownBlock = some q ∨ w9.heap.size ≤ q from fun q hq => by
          rcases hat11 q hq with h | h
          · exact A10.out q h
          · exact .inr (Nat.le_trans G10.out.size h))
        have G11 := Lib.hid (show w9.grownBy w11 (Value.slice (some ⟨b, 0, none⟩) l.length vc).ownBlock from grownTrans G10.out hg11 (fun q hq => A10.out q hq))
        have HO11 := Lib.hid ho11
        clear ho11 hg11 hat11
        rw [n9]
        refine hK.out _ _ trivial ?_
        clear hK K n9
        refine T_last (i := 10) rfl (by kernel_rfl) (by kernel_rfl) rfl rfl ?_
        go_simp
        go_wp2
        go_ret
        have z1 : w.heap.size ≤ w9.heap.size := Nat.le_trans hwl B9.out.size
        refine putr_mk ES.out ⟨⟨_, rfl, OwR.insert (m := m) (w := w9) (HU9.out.mono (Nat.le_trans hm (Nat.le_trans hwl B7.out.size)) (Nat.le_refl _)) hbm (Nat.le_trans hm z1) ⟨US.out.1, fun i u z h1 h2 => (US.out.2.1 i u z h1 h2).below B9.out, US.out.2.2⟩ VM.out k hk HO11.out G11.out A11.out, fun q hq => (A11.out q hq).imp id (Nat.le_trans z1)⟩, grownTrans (grown_ofb (BA.out.trans (B9.out.mono BA.out.size))) G11.out (fun q hq => .inl hq)⟩
      · obtain rfl : l = [] := List.eq_nil_of_length_eq_zero (by omega)
        obtain rfl : k = 0 := by omega
        clear hz0 hkl h0
        obtain ⟨us0, q1, q2, -⟩ := HO.out
        rcases q2 with ⟨-, e⟩ | ⟨g, cap, cur, e, -⟩
        · simp only [Value.slice.injEq] at e
          obtain ⟨rfl, -, rfl⟩ := e
          clear q1
          have BA := Lib.hid HB.out
          obtain ⟨us, k1, k2, k3, k4, k5⟩ := HO.out.below BA.out
          have UO := Lib.hid (show ∀ x ∈ us, x.oneCell' = true from fun x hx => by
            obtain ⟨i, hi, hix⟩ := List.mem_iff_getElem.1 hx
            exact own_one (k3 i x _ (by rw [← hix]; exact List.getElem?_eq_getElem hi) (List.getElem?_eq_getElem (by omega))))
          have US := Lib.hid (show us.length = 0 ∧ (∀ (i : Nat) u z, us[i]? = some u → ([] : List (List Int))[i]? = some z → OwnV 3 base m w1 u (intVals z)) ∧ (∀ (i j : Nat) u u' q, i ≠ j → us[i]? = some u → us[j]? = some u' → u.ownBlock = some q → u'.ownBlock ≠ some q) ∧ (∀ (i : Nat) u q, us[i]? = some u → u.ownBlock = some q → (Value.slice none 0 0).ownBlock ≠ some q) from ⟨k1, k3, k4, k5⟩)
          have hvm : ∀ q, (Value.slice none 0 0).ownBlock = some q → q < m := fun q hq => (k2.place hq).2.1
          have VM := Lib.hid hvm
          have RO := Lib.hid (show (w1).ownsRow base 27 1 (.slice none 0 0) 0 us by have h := k2.owns; rw [k1] at h; exact h)
          have hvc : 0 ≤ 0 := by
            obtain ⟨_, _, e, h, _⟩ := owns_slice RO.out
            simp only [Value.slice.injEq] at e
            omega
          clear k1 k2 k3 k4 k5 hvm
          have hwl : w.heap.size ≤ (w1).heap.size := BA.out.size
          have RM := Lib.hid (owns_none (e := 27) (Nat.le_refl (w1).heap.size))
          have b7 := below1 w1 (.cells #[] 27)
          have RO1 := Lib.hid (owns_below RO.out b7)
          clear b7
          go_wp2_with (first | (at_builtin; go_must (refine list_appG rfl _ _ 24 rfl (w1).heap.size 27 i0 _ 1 24 Tryz.underlying24 HI.out.1 HI.out.2.1 HI.out.2.2.1 HI.out.2.2.2 rfl (by omega) (.slice (some ⟨(w1).heap.size, 0, none⟩) 0 0) 0 [] rfl RM.out _ 0 _ [] rfl rfl (fun h => absurd h (Nat.lt_irrefl 0)) (fun x hx => by cases hx) (by omega) (by omega) (by simp) ?_; intro a7 c7 w7 ho7 hg7 hat7)))

          rw [List.nil_append] at ho7
          have HO7 := Lib.hid ho7
          have G7 := Lib.hid (show (w1).grownBy w7 none from grownTrans (World.grownBy_alloc w1 _ none) hg7 (fun q hq => .inr (by simp [Value.ownBlock] at hq; omega)))
          have hat7' : ∀ q, (Value.slice a7 0 c7).ownBlock = some q → (w1).heap.size ≤ q := fun q hq => (HO7.out.lt q hq).1
          have HA7 := Lib.hid hat7'
          have B7 := Lib.hid (show Below (w1).heap.size w1 w7 from ⟨G7.out.os, G7.out.tape, G7.out.output, G7.out.size, fun q hq => G7.out.block q hq (by simp)⟩)
          have PB7 := Lib.hid (HP.out.below (BA.out.trans (B7.out.mono BA.out.size)))
          clear ho7 hg7 hat7 hat7'
          have n1 : (0 : Int) ≤ ((0 : Nat) : Int) := by omega
          have n2 : ((0 : Nat) : Int) ≤ (0 : Int) := by omega
          refine T_begin (z := fun q => 9 < q) (S := fun (_ : World) => True) (by kernel_rfl) ?_
          show wpAnyT _ _ _ _ _ _ 11 _ _ _
          have hS0 := Lib.hid (show (fun (_ : World) => True) w7 from trivial)
          refine T_take (i := 0) (v := .slice none 0 0) rfl (by kernel_rfl) (by kernel_rfl) (by kernel_rfl) (by kernel_rfl) (fun _ _ _ h => h) hS0.out (by kernel_rfl) (fun w' hS' => by (try dsimp only at hS'); go_simp) ?_
          refine T_take (i := 1) (v := .int .i64 (0 : Nat)) rfl (by kernel_rfl) (by kernel_rfl) (by kernel_rfl) (by kernel_rfl) (fun _ _ _ h => h) hS0.out (by kernel_rfl) (fun w' hS' => by (try dsimp only at hS'); go_simp) ?_
          refine T_take (i := 2) (v := .slice none 0 0) rfl (by kernel_rfl) (by kernel_rfl) (by kernel_rfl) (by kernel_rfl) (fun _ _ _ h => h) hS0.out (by kernel_rfl) (fun w' hS' => by (try dsimp only at hS'); go_simp) ?_
          refine T_take (i := 4) (v := .slice pa p.length pc) rfl (by kernel_rfl) (by kernel_rfl) (by kernel_rfl) (by kernel_rfl) (fun _ _ _ h => h) hS0.out (by kernel_rfl) (fun w' hS' => by (try dsimp only at hS'); go_simp) ?_
          refine T_take (i := 8) (v := .slice a7 0 c7) rfl (by kernel_rfl) (by kernel_rfl) (by kernel_rfl) (by kernel_rfl) (fun _ _ _ h => h) hS0.out (by kernel_rfl) (fun w' hS' => by (try dsimp only at hS'); go_simp) ?_
          refine T_step (i := 3) rfl (by kernel_rfl) rfl (by kernel_rfl) ?_
          intro K hK
          go_simp
          refine hK.out _ _ trivial ?_
          clear hK K
          refine T_step (i := 5) rfl (by kernel_rfl) rfl (by kernel_rfl) ?_
          intro K hK
          have bz := (below1 w7 (.cells #[] 3)).drew
          have PB8 := Lib.hid (PB7.out.below bz)
          refine wp_appG _ _ 27 (by rfl) w7.heap.size 3 i1 _ 1 8 Tryz.underlying27 HJ.out.1 HJ.out.2.1 HJ.out.2.2.1 HJ.out.2.2.2 rfl (by omega) (.slice (some ⟨w7.heap.size, 0, none⟩) 0 0) 0 [] rfl (show ((w7.alloc (.cells #[] 3)).drew).ownsRow w7.heap.size 3 1 _ 0 [] from owns_none (Nat.le_refl _)) _ p.length _ (intVals p) rfl (PB8.out.news).1 (PB8.out.news).2 (by intro q hq; obtain ⟨z, _, rfl⟩ := List.mem_map.1 hq; rfl) (by omega) (by omega) (show w7.heap.size ≤ ((w7.alloc (.cells #[] 3)).drew).heap.size by simp [World.drew]) ?_
          intro a8 c8 w8 ho8 hg8 hat8
          rw [Nat.zero_add, List.nil_append] at ho8
          have B8 := Lib.hid (show Below w7.heap.size w7 w8 from bz.trans (show Below w7.heap.size _ w8 from (Below.refl _ _).grown hg8 (by simp [World.drew]) (fun q hq => by simp [Value.ownBlock] at hq; omega)))
          have HU8 := Lib.hid (show OwnV 3 w7.heap.size w8.heap.size w8 (.slice a8 p.length c8) (intVals p) from OwnV.of_owns ho8)
          clear ho8 hg8 hat8 bz PB8
          try rw [Nat.zero_add]
          refine hK.out _ _ trivial ?_
          clear hK K
          refine T_step (i := 6) rfl (by kernel_rfl) rfl (by kernel_rfl) ?_
          intro K hK
          go_simp
          refine hK.out _ _ trivial ?_
          clear hK K
          refine T_step (i := 7) rfl (by kernel_rfl) rfl (by kernel_rfl) ?_
          intro K hK
          have b9 := below1 w8 (.cells #[.slice a8 p.length c8] 27)
          obtain ⟨w9, hw9⟩ : ∃ w9, w8.alloc (.cells #[.slice a8 p.length c8] 27) = w9 := ⟨_, rfl⟩
          have NB := Lib.hid (World.news_of_block (cs := #[.slice a8 p.length c8]) (show w9.heap[w8.heap.size]? = some (.cells #[.slice a8 p.length c8] 27 (0, 0)) by rw [← hw9]; exact heap_alloc_new w8 _))
          rw [hw9] at b9 ⊢
          have B9 := Lib.hid (((B7.out).trans (B8.out.mono B7.out.size)).trans (b9.mono (Nat.le_trans B7.out.size B8.out.size)))
          have B79 := Lib.hid (B8.out.trans (b9.mono B8.out.size))
          have HU9 := Lib.hid ((HU8.out.below b9).mono (Nat.le_refl _) b9.size)
          have RO9 := Lib.hid (owns_below RO.out B9.out)
          have HO9 := Lib.hid (owns_below HO7.out B79.out)
          clear hw9 b9
          refine wp_appG _ _ 24 (by rfl) base 27 i0 _ 1 24 Tryz.underlying24 HI.out.1 HI.out.2.1 HI.out.2.2.1 HI.out.2.2.2 rfl (by omega) (.slice none 0 0) 0 (us.take 0) rfl (owns_cut0 RO9.out hk) _ 1 _ [.slice a8 p.length c8] rfl rfl (fun _ => ⟨_, rfl, NB.out⟩) (fun x hx => by rw [List.mem_singleton.1 hx]; rfl) (by omega) (by omega) (Nat.le_trans (Nat.le_trans hbm hm) (Nat.le_trans hwl B9.out.size)) ?_
          intro a10 c10 w10 ho10 hg10 hat10
          have hvk : ∀ q, (Value.slice none 0 0).ownBlock = some q → (Value.slice none 0 0).ownBlock = some q := fun q hq => hq
          have HO10 := Lib.hid ho10
          have G10 := Lib.hid (show w9.grownBy w10 (Value.slice none 0 0).ownBlock from hg10)
          have A10 := Lib.hid (show ∀ q, (Value.slice a10 (0 + 1) c10).ownBlock = some q → (Value.slice none 0 0).ownBlock = some q ∨ w9.heap.size ≤ q from hat10)
          have hne : (Value.slice a7 0 c7).ownBlock = none ∨ (Value.slice a7 0 c7).ownBlock ≠ (Value.slice none 0 0).ownBlock := by
            cases h : (Value.slice a7 0 c7).ownBlock with
            | none => exact .inl rfl
            | some q =>
              refine .inr (fun e => ?_)
              have h1 := HA7.out q h
              have h2 := VM.out q (hvk q e.symm)
              omega
          have HR10 := Lib.hid (HO9.out.kept hg10 hne)
          clear ho10 hg10 hat10 NB hne hvk
          refine hK.out _ _ trivial ?_
          clear hK K
          refine T_step (i := 9) rfl (by kernel_rfl) rfl (by kernel_rfl) ?_
          intro K hK
          refine wp_appG _ _ 24 (by rfl) base 27 i0 _ 1 24 Tryz.underlying24 HI.out.1 HI.out.2.1 HI.out.2.2.1 HI.out.2.2.2 rfl (by omega) (.slice a10 (0 + 1) c10) (0 + 1) (us.take 0 ++ [.slice a8 p.length c8]) rfl HO10.out _ 0 _ [] rfl rfl (Sl.of_owns HR10.out).news.2 (fun x hx => by cases hx) (by omega) (by omega) (Nat.le_trans (Nat.le_trans hbm hm) (Nat.le_trans hwl (Nat.le_trans B9.out.size G10.out.size))) ?_
          intro a11 c11 w11 ho11 hg11 hat11
          have n9 : 0 + 1 + 0 = 0 + 1 := by omega
          rw [n9, List.append_assoc, List.singleton_append] at ho11
          rw [n9] at hat11
          have A11 := Lib.hid (show ∀ q, (Value.slice a11 (0 + 1) c11).ownBlock = some q → (Value.slice none 0 0).ownBlock = some q ∨ w9.heap.size ≤ q from fun q hq => by
            rcases hat11 q hq with h | h
            · exact A10.out q h
            · exact .inr (Nat.le_trans G10.out.size h))
          have G11 := Lib.hid (show w9.grownBy w11 (Value.slice none 0 0).ownBlock from grownTrans G10.out hg11 (fun q hq => A10.out q hq))
          have HO11 := Lib.hid ho11
          clear ho11 hg11 hat11
          rw [n9]
          refine hK.out _ _ trivial ?_
          clear hK K n9
          refine T_last (i := 10) rfl (by kernel_rfl) (by kernel_rfl) rfl rfl ?_
          go_simp
          go_wp2
          go_ret
          have z1 : w.heap.size ≤ w9.heap.size := Nat.le_trans hwl B9.out.size
          refine putr_mk ES.out ⟨⟨_, rfl, OwR.insert (m := m) (w := w9) (HU9.out.mono (Nat.le_trans hm (Nat.le_trans hwl B7.out.size)) (Nat.le_refl _)) hbm (Nat.le_trans hm z1) ⟨US.out.1, fun i u z h1 h2 => (US.out.2.1 i u z h1 h2).below B9.out, US.out.2.2⟩ VM.out 0 hk (by have h := HO11.out; rwa [show ([] : List Value) = us.drop 0 from (List.drop_of_length_le (by have := US.out.1; omega)).symm] at h) G11.out A11.out, fun q hq => (A11.out q hq).imp id (Nat.le_trans z1)⟩, grownTrans (grown_ofb (BA.out.trans (B9.out.mono BA.out.size))) G11.out (fun q hq => .inl hq)⟩
        · simp only [Value.slice.injEq] at e
          obtain ⟨rfl, -, rfl⟩ := e
          clear q1
          have BA := Lib.hid HB.out
          obtain ⟨us, k1, k2, k3, k4, k5⟩ := HO.out.below BA.out
          have UO := Lib.hid (show ∀ x ∈ us, x.oneCell' = true from fun x hx => by
            obtain ⟨i, hi, hix⟩ := List.mem_iff_getElem.1 hx
            exact own_one (k3 i x _ (by rw [← hix]; exact List.getElem?_eq_getElem hi) (List.getElem?_eq_getElem (by omega))))
          have US := Lib.hid (show us.length = 0 ∧ (∀ (i : Nat) u z, us[i]? = some u → ([] : List (List Int))[i]? = some z → OwnV 3 base m w1 u (intVals z)) ∧ (∀ (i j : Nat) u u' q, i ≠ j → us[i]? = some u → us[j]? = some u' → u.ownBlock = some q → u'.ownBlock ≠ some q) ∧ (∀ (i : Nat) u q, us[i]? = some u → u.ownBlock = some q → (Value.slice (some ⟨g, 0, none⟩) 0 vc).ownBlock ≠ some q) from ⟨k1, k3, k4, k5⟩)
          have hvm : ∀ q, (Value.slice (some ⟨g, 0, none⟩) 0 vc).ownBlock = some q → q < m := fun q hq => (k2.place hq).2.1
          have VM := Lib.hid hvm
          have RO := Lib.hid (show (w1).ownsRow base 27 1 (.slice (some ⟨g, 0, none⟩) 0 vc) 0 us by have h := k2.owns; rw [k1] at h; exact h)
          have hvc : 0 ≤ vc := by
            obtain ⟨_, _, e, h, _⟩ := owns_slice RO.out
            simp only [Value.slice.injEq] at e
            omega
          clear k1 k2 k3 k4 k5 hvm
          have hwl : w.heap.size ≤ (w1).heap.size := BA.out.size
          have RM := Lib.hid (owns_none (e := 27) (Nat.le_refl (w1).heap.size))
          have b7 := below1 w1 (.cells #[] 27)
          have RO1 := Lib.hid (owns_below RO.out b7)
          clear b7
          have i7 : (0 : Int) ≤ (vc : Int) := by omega
          go_wp2_with (first | (at_builtin; go_must (refine list_appG rfl _ _ 24 rfl (w1).heap.size 27 i0 _ 1 24 Tryz.underlying24 HI.out.1 HI.out.2.1 HI.out.2.2.1 HI.out.2.2.2 rfl (by omega) (.slice (some ⟨(w1).heap.size, 0, none⟩) 0 0) 0 [] rfl RM.out _ 0 _ [] rfl rfl (fun h => absurd h (Nat.lt_irrefl 0)) (fun x hx => by cases hx) (by omega) (by omega) (by simp) ?_; intro a7 c7 w7 ho7 hg7 hat7)))

          rw [List.nil_append] at ho7
          have HO7 := Lib.hid ho7
          have G7 := Lib.hid (show (w1).grownBy w7 none from grownTrans (World.grownBy_alloc w1 _ none) hg7 (fun q hq => .inr (by simp [Value.ownBlock] at hq; omega)))
          have hat7' : ∀ q, (Value.slice a7 0 c7).ownBlock = some q → (w1).heap.size ≤ q := fun q hq => (HO7.out.lt q hq).1
          have HA7 := Lib.hid hat7'
          have B7 := Lib.hid (show Below (w1).heap.size w1 w7 from ⟨G7.out.os, G7.out.tape, G7.out.output, G7.out.size, fun q hq => G7.out.block q hq (by simp)⟩)
          have PB7 := Lib.hid (HP.out.below (BA.out.trans (B7.out.mono BA.out.size)))
          clear ho7 hg7 hat7 hat7'
          have n1 : (0 : Int) ≤ ((0 : Nat) : Int) := by omega
          have n2 : ((0 : Nat) : Int) ≤ (vc : Int) := by omega
          refine T_begin (z := fun q => 9 < q) (S := fun (_ : World) => True) (by kernel_rfl) ?_
          show wpAnyT _ _ _ _ _ _ 11 _ _ _
          have hS0 := Lib.hid (show (fun (_ : World) => True) w7 from trivial)
          refine T_take (i := 0) (v := .slice (some ⟨g, 0, none⟩) 0 vc) rfl (by kernel_rfl) (by kernel_rfl) (by kernel_rfl) (by kernel_rfl) (fun _ _ _ h => h) hS0.out (by kernel_rfl) (fun w' hS' => by (try dsimp only at hS'); go_simp) ?_
          refine T_take (i := 1) (v := .int .i64 (0 : Nat)) rfl (by kernel_rfl) (by kernel_rfl) (by kernel_rfl) (by kernel_rfl) (fun _ _ _ h => h) hS0.out (by kernel_rfl) (fun w' hS' => by (try dsimp only at hS'); go_simp) ?_
          refine T_take (i := 2) (v := .slice (some ⟨g, 0, none⟩) 0 vc) rfl (by kernel_rfl) (by kernel_rfl) (by kernel_rfl) (by kernel_rfl) (fun _ _ _ h => h) hS0.out (by kernel_rfl) (fun w' hS' => by (try dsimp only at hS'); go_simp) ?_
          refine T_take (i := 4) (v := .slice pa p.length pc) rfl (by kernel_rfl) (by kernel_rfl) (by kernel_rfl) (by kernel_rfl) (fun _ _ _ h => h) hS0.out (by kernel_rfl) (fun w' hS' => by (try dsimp only at hS'); go_simp) ?_
          refine T_take (i := 8) (v := .slice a7 0 c7) rfl (by kernel_rfl) (by kernel_rfl) (by kernel_rfl) (by kernel_rfl) (fun _ _ _ h => h) hS0.out (by kernel_rfl) (fun w' hS' => by (try dsimp only at hS'); go_simp) ?_
          refine T_step (i := 3) rfl (by kernel_rfl) rfl (by kernel_rfl) ?_
          intro K hK
          go_simp
          refine hK.out _ _ trivial ?_
          clear hK K
          refine T_step (i := 5) rfl (by kernel_rfl) rfl (by kernel_rfl) ?_
          intro K hK
          have bz := (below1 w7 (.cells #[] 3)).drew
          have PB8 := Lib.hid (PB7.out.below bz)
          refine wp_appG _ _ 27 (by rfl) w7.heap.size 3 i1 _ 1 8 Tryz.underlying27 HJ.out.1 HJ.out.2.1 HJ.out.2.2.1 HJ.out.2.2.2 rfl (by omega) (.slice (some ⟨w7.heap.size, 0, none⟩) 0 0) 0 [] rfl (show ((w7.alloc (.cells #[] 3)).drew).ownsRow w7.heap.size 3 1 _ 0 [] from owns_none (Nat.le_refl _)) _ p.length _ (intVals p) rfl (PB8.out.news).1 (PB8.out.news).2 (by intro q hq; obtain ⟨z, _, rfl⟩ := List.mem_map.1 hq; rfl) (by omega) (by omega) (show w7.heap.size ≤ ((w7.alloc (.cells #[] 3)).drew).heap.size by simp [World.drew]) ?_
          intro a8 c8 w8 ho8 hg8 hat8
          rw [Nat.zero_add, List.nil_append] at ho8
          have B8 := Lib.hid (show Below w7.heap.size w7 w8 from bz.trans (show Below w7.heap.size _ w8 from (Below.refl _ _).grown hg8 (by simp [World.drew]) (fun q hq => by simp [Value.ownBlock] at hq; omega)))
          have HU8 := Lib.hid (show OwnV 3 w7.heap.size w8.heap.size w8 (.slice a8 p.length c8) (intVals p) from OwnV.of_owns ho8)
          clear ho8 hg8 hat8 bz PB8
          try rw [Nat.zero_add]
          refine hK.out _ _ trivial ?_
          clear hK K
          refine T_step (i := 6) rfl (by kernel_rfl) rfl (by kernel_rfl) ?_
          intro K hK
          go_simp
          refine hK.out _ _ trivial ?_
          clear hK K
          refine T_step (i := 7) rfl (by kernel_rfl) rfl (by kernel_rfl) ?_
          intro K hK
          have b9 := below1 w8 (.cells #[.slice a8 p.length c8] 27)
          obtain ⟨w9, hw9⟩ : ∃ w9, w8.alloc (.cells #[.slice a8 p.length c8] 27) = w9 := ⟨_, rfl⟩
          have NB := Lib.hid (World.news_of_block (cs := #[.slice a8 p.length c8]) (show w9.heap[w8.heap.size]? = some (.cells #[.slice a8 p.length c8] 27 (0, 0)) by rw [← hw9]; exact heap_alloc_new w8 _))
          rw [hw9] at b9 ⊢
          have B9 := Lib.hid (((B7.out).trans (B8.out.mono B7.out.size)).trans (b9.mono (Nat.le_trans B7.out.size B8.out.size)))
          have B79 := Lib.hid (B8.out.trans (b9.mono B8.out.size))
          have HU9 := Lib.hid ((HU8.out.below b9).mono (Nat.le_refl _) b9.size)
          have RO9 := Lib.hid (owns_below RO.out B9.out)
          have HO9 := Lib.hid (owns_below HO7.out B79.out)
          clear hw9 b9
          refine wp_appG _ _ 24 (by rfl) base 27 i0 _ 1 24 Tryz.underlying24 HI.out.1 HI.out.2.1 HI.out.2.2.1 HI.out.2.2.2 rfl (by omega) (.slice (some ⟨g, 0, none⟩) 0 vc) 0 (us.take 0) rfl (owns_cut0 RO9.out hk) _ 1 _ [.slice a8 p.length c8] rfl rfl (fun _ => ⟨_, rfl, NB.out⟩) (fun x hx => by rw [List.mem_singleton.1 hx]; rfl) (by omega) (by omega) (Nat.le_trans (Nat.le_trans hbm hm) (Nat.le_trans hwl B9.out.size)) ?_
          intro a10 c10 w10 ho10 hg10 hat10
          have hvk : ∀ q, (Value.slice (some ⟨g, 0, none⟩) 0 vc).ownBlock = some q → (Value.slice (some ⟨g, 0, none⟩) 0 vc).ownBlock = some q := fun q hq => hq
          have HO10 := Lib.hid ho10
          have G10 := Lib.hid (show w9.grownBy w10 (Value.slice (some ⟨g, 0, none⟩) 0 vc).ownBlock from hg10)
          have A10 := Lib.hid (show ∀ q, (Value.slice a10 (0 + 1) c10).ownBlock = some q → (Value.slice (some ⟨g, 0, none⟩) 0 vc).ownBlock = some q ∨ w9.heap.size ≤ q from hat10)
          have hne : (Value.slice a7 0 c7).ownBlock = none ∨ (Value.slice a7 0 c7).ownBlock ≠ (Value.slice (some ⟨g, 0, none⟩) 0 vc).ownBlock := by
            cases h : (Value.slice a7 0 c7).ownBlock with
            | none => exact .inl rfl
            | some q =>
              refine .inr (fun e => ?_)
              have h1 := HA7.out q h
              have h2 := VM.out q (hvk q e.symm)
              omega
          have HR10 := Lib.hid (HO9.out.kept hg10 hne)
          clear ho10 hg10 hat10 NB hne hvk
          refine hK.out _ _ trivial ?_
          clear hK K
          refine T_step (i := 9) rfl (by kernel_rfl) rfl (by kernel_rfl) ?_
          intro K hK
          refine wp_appG _ _ 24 (by rfl) base 27 i0 _ 1 24 Tryz.underlying24 HI.out.1 HI.out.2.1 HI.out.2.2.1 HI.out.2.2.2 rfl (by omega) (.slice a10 (0 + 1) c10) (0 + 1) (us.take 0 ++ [.slice a8 p.length c8]) rfl HO10.out _ 0 _ [] rfl rfl (Sl.of_owns HR10.out).news.2 (fun x hx => by cases hx) (by omega) (by omega) (Nat.le_trans (Nat.le_trans hbm hm) (Nat.le_trans hwl (Nat.le_trans B9.out.size G10.out.size))) ?_
          intro a11 c11 w11 ho11 hg11 hat11
          have n9 : 0 + 1 + 0 = 0 + 1 := by omega
          rw [n9, List.append_assoc, List.singleton_append] at ho11
          rw [n9] at hat11
          have A11 := Lib.hid (show ∀ q, (Value.slice a11 (0 + 1) c11).ownBlock = some q → (Value.slice (some ⟨g, 0, none⟩) 0 vc).ownBlock = some q ∨ w9.heap.size ≤ q from fun q hq => by
            rcases hat11 q hq with h | h
            · exact A10.out q h
            · exact .inr (Nat.le_trans G10.out.size h))
          have G11 := Lib.hid (show w9.grownBy w11 (Value.slice (some ⟨g, 0, none⟩) 0 vc).ownBlock from grownTrans G10.out hg11 (fun q hq => A10.out q hq))
          have HO11 := Lib.hid ho11
          clear ho11 hg11 hat11
          rw [n9]
          refine hK.out _ _ trivial ?_
          clear hK K n9
          refine T_last (i := 10) rfl (by kernel_rfl) (by kernel_rfl) rfl rfl ?_
          go_simp
          go_wp2
          go_ret
          have z1 : w.heap.size ≤ w9.heap.size := Nat.le_trans hwl B9.out.size
          refine putr_mk ES.out ⟨⟨_, rfl, OwR.insert (m := m) (w := w9) (HU9.out.mono (Nat.le_trans hm (Nat.le_trans hwl B7.out.size)) (Nat.le_refl _)) hbm (Nat.le_trans hm z1) ⟨US.out.1, fun i u z h1 h2 => (US.out.2.1 i u z h1 h2).below B9.out, US.out.2.2⟩ VM.out 0 hk (by have h := HO11.out; rwa [show ([] : List Value) = us.drop 0 from (List.drop_of_length_le (by have := US.out.1; omega)).symm] at h) G11.out A11.out, fun q hq => (A11.out q hq).imp id (Nat.le_trans z1)⟩, grownTrans (grown_ofb (BA.out.trans (B9.out.mono BA.out.size))) G11.out (fun q hq => .inl hq)⟩
end Go.Proofs.YtjijgagdaolkcaaGreat
