/- The model's hull of points in order. -/
import Derived.Test.YtoekgcafhcamjaaMan
import Derived.Test.YtoekgcafhcamjaaMab
import Derived.Test.YtoekgcafhcamjaaRowApp
namespace Go.Proofs.Ytoekgcafhcamjaa
open Go.RowKit Go.Lib

/-- What l7Hull leaves. -/
def HullO (w : World) (pts : List P2) (e : Ending) (w' : World) : Prop := (∃ u, e = .returned u ∧ RdO w w.heap.size w' u pts) ∧ Below w.heap.size w w'
/-- The corners of the first p chains. -/
def preL (S : List P2) : Nat → List P2
  | 0 => []
  | 1 => bendL S
  | _ => cornL S
set_option maxRecDepth 100000 in
set_option maxHeartbeats 8000000 in
theorem s_hull (S : List P2) (h1 : 1 ≤ S.length) (h2 : S.length ≤ 200) (hbd : ∀ p ∈ S, BdP 50 p) (v : Value) (w : World) (hv : Rw w v (S.map rowOf)) :
    Calls Try.prog 86 #[v] w (HullO w (cornL S)) := by
  obtain ⟨va, vc, rfl, hvm, hvo⟩ := hv.shape
  have HV := Lib.hid (show ∀ (i : Nat) (hi : i < S.length), ∃ b off : Nat, ∃ u, va = some ⟨b, off, none⟩ ∧ (S.map rowOf).length ≤ vc ∧ b < w.heap.size ∧ w.cell? ⟨b, off + i, none⟩ = some u ∧ Sl w u (intVals (rowOf S[i])) from fun i hi => hvo i _ (by rw [List.getElem?_map, List.getElem?_eq_getElem hi]; rfl))
  rw [List.length_map] at hvm HV ⊢
  unfold maxLen at hvm
  have HBD := Lib.hid hbd
  clear hv hvo hbd
  go_enter Try.func86, Try.ntmps86
  go_wp2
  go_loopw [3, 4] (fun o i wr => ∃ p : Nat, p ≤ 2 ∧ i = .int .i64 p ∧ RdO w w.heap.size wr o (preL S p) ∧ Below w.heap.size w wr) (fun _ i _ => 2 - (RowKit.intOf i).toNat)
  case atStart => exact ⟨0, by omega, rfl, RdO.empty (Nat.le_refl _), below1 _ _⟩
  case round =>
    obtain ⟨p, hp, rfl, ho, hb⟩ := hrel
    rename World => w1
    have HB := Lib.hid hb
    have HO := Lib.hid ho
    obtain ⟨oa, oc, rfl, _, hom⟩ := ho.shape
    unfold maxLen at hom
    clear ho hb
    by_cases hp2 : p < 2
    · have i0 : (p : Int) < 2 := by omega
      obtain ⟨pre, hpre⟩ : ∃ pre, preL S p = pre := ⟨_, rfl⟩
      obtain ⟨L, hL⟩ : ∃ L, (if p = 1 then S.reverse else S) = L := ⟨_, rfl⟩
      have HPN := Lib.hid (show preL S (p + 1) = pre ++ bendL L by
        rcases (by omega : p = 0 ∨ p = 1) with rfl | rfl
        · rw [← hpre, ← hL]; rfl
        · rw [← hpre, ← hL]; rfl)
      have HPL := Lib.hid (show pre.length ≤ 200 by
        rcases (by omega : p = 0 ∨ p = 1) with rfl | rfl
        · rw [← hpre]; simp [preL]
        · rw [← hpre]; have := bendL_len S; simp only [preL]; omega)
      have HLN := Lib.hid (show L.length = S.length by rw [← hL]; split <;> simp)
      have HLS := Lib.hid (show ∀ q ∈ L, q ∈ S by rw [← hL]; split <;> simp)
      have HLD := Lib.hid hL
      rw [hpre] at HO ⊢
      clear hpre hL
      go_wp2_with fail
      go_loopw [3, 6] (fun o i wr => ∃ k : Nat, k ≤ S.length ∧ i = .int .i64 k ∧ RdO w w.heap.size wr o (pre ++ (bendR (L.take k)).reverse) ∧ Below w.heap.size w wr) (fun _ i _ => S.length - (RowKit.intOf i).toNat)
      case atStart => exact ⟨0, Nat.zero_le _, rfl, by simpa [bendR] using HO.out, HB.out⟩
      case round =>
        obtain ⟨k, hk, rfl, ho, hb⟩ := hrel
        rename World => wk
        have HKO := Lib.hid ho
        have HKB := Lib.hid hb
        clear ho hb
        have i1 : (0 : Int) ≤ (k : Int) := by omega
        by_cases hlt : k < S.length
        · have i2 : (k : Int) < (S.length : Int) := by omega
          obtain ⟨b, off, xu0, rfl, hc, hlt2, hcell0, hsx0⟩ := HV.out k hlt
          rw [← HKB.out.cell (p := ⟨b, off + k, none⟩) hlt2] at hcell0
          have hkL : k < L.length := by have := HLN.out; omega
          have HQ := Lib.hid (bend_take_ok (L := L) k)
          by_cases hp1 : p = 1
          · have i10 : ((p : Int) == 1) = true := by rw [hp1]; rfl
            have i12 : decide ((p : Int) = 1) = true := decide_eq_true (by omega)
            have hSr : S.reverse = L := by have := HLD.out; rwa [if_pos hp1] at this
            obtain ⟨b', off', xu, e9, _, _, hcell, hsx⟩ := HV.out (S.length - 1 - k) (by omega)
            simp only [Option.some.injEq, Addr.mk.injEq, and_true] at e9
            obtain ⟨rfl, rfl⟩ := e9
            rw [← HKB.out.cell (p := ⟨b, off + (S.length - 1 - k), none⟩) hlt2] at hcell
            obtain ⟨x, hx⟩ : ∃ x, L[k] = x := ⟨_, rfl⟩
            have hxs : S[S.length - 1 - k] = x := by rw [← hx]; simp only [← hSr, List.getElem_reverse]
            rw [hxs] at hsx
            have HXE := Lib.hid hx
            have HXB := Lib.hid ((HBD.out x (by rw [← hxs]; exact List.getElem_mem _)).wide (m := 1000) (by omega))
            have HX := Lib.hid hsx
            have i3 : IntKind.i64.wrap ((S.length : Int) - 1) = (S.length : Int) - 1 := by rw [IntWalk.i64_in _ (by omega)]
            have i4 : IntKind.i64.wrap ((S.length : Int) - 1 - (k : Int)) = ((S.length - 1 - k : Nat) : Int) := by rw [IntWalk.i64_in _ (by omega)]; omega
            have i5 : (0 : Int) ≤ ((S.length - 1 - k : Nat) : Int) := by omega
            have i6 : ((S.length - 1 - k : Nat) : Int) < (S.length : Int) := by omega
            obtain ⟨ya, yc, rfl, _⟩ := hsx.shape
            clear hx hxs hsx hsx0 hSr hp1
            go_wp2_with fail
            go_loopw [3] (fun o wr => ∃ l : List P2, RdO w w.heap.size wr o (pre ++ l.reverse) ∧ popR l x = popR (bendR (L.take k)) x ∧ l.length ≤ 200 ∧ (∀ p ∈ l, p ∈ S) ∧ Below w.heap.size w wr) (fun o _ => slen o)
            case atStart => exact ⟨_, HKO.out, rfl, by have := HQ.out.2; have := HLN.out; omega, fun p hp => HLS.out p (HQ.out.1 p hp), HKB.out⟩
            case round =>
              obtain ⟨l, ho, hp', hl, hm, hb⟩ := hrel
              rename World => w2
              have HP := Lib.hid hp'
              have HM := Lib.hid hm
              have HO2 := Lib.hid ho
              have HB2 := Lib.hid hb
              have HL2 := Lib.hid hl
              obtain ⟨ga, gc, rfl, hgc, hgm⟩ := ho.shape
              unfold maxLen at hgm
              have hlen : (pre ++ l.reverse).length = pre.length + l.length := by simp
              obtain ⟨m, hm9⟩ : ∃ m, (pre ++ l.reverse).length = m := ⟨_, rfl⟩
              rw [hm9] at HO2 hgc hlen ⊢
              have HLN2 := Lib.hid hlen
              have HM9 := Lib.hid hm9
              clear hp' hm ho hb hm9 hcell0 hcell
              by_cases h2 : 2 ≤ l.length
              · obtain ⟨b', a, r, rfl⟩ : ∃ b a r, l = b :: a :: r := by
                  match l, h2 with
                  | b :: a :: r, _ => exact ⟨b, a, r, rfl⟩
                  | [_], h => simp at h
                  | [], h => simp at h
                simp only [List.length_cons] at hlen hl
                have g1 : (pre ++ (b' :: a :: r).reverse)[m - 2]? = some a := by
                  simp only [List.reverse_cons, List.append_assoc]
                  rw [List.getElem?_append_right (by omega), List.getElem?_append_right (by simp; omega)]
                  simp only [List.length_reverse]
                  rw [show m - 2 - pre.length - r.length = 0 by omega]; rfl
                have g2 : (pre ++ (b' :: a :: r).reverse)[m - 1]? = some b' := by
                  simp only [List.reverse_cons, List.append_assoc]
                  rw [List.getElem?_append_right (by omega), List.getElem?_append_right (by simp; omega)]
                  simp only [List.length_reverse]
                  rw [show m - 1 - pre.length - r.length = 1 by omega]; rfl
                obtain ⟨b1, xa, rfl, q1, q2, hca, hsa⟩ := HO2.out.at (m - 2) (lt_of_get g1)
                obtain ⟨b2, xb, e2, _, _, hcb, hsb⟩ := HO2.out.at (m - 1) (lt_of_get g2)
                obtain rfl : b1 = b2 := by simpa using e2
                rw [show (pre ++ (b' :: a :: r).reverse)[m - 2]'(lt_of_get g1) = a from by have := List.getElem?_eq_getElem (lt_of_get g1); rw [g1] at this; exact (Option.some.inj this).symm] at hsa
                rw [show (pre ++ (b' :: a :: r).reverse)[m - 1]'(lt_of_get g2) = b' from by have := List.getElem?_eq_getElem (lt_of_get g2); rw [g2] at this; exact (Option.some.inj this).symm] at hsb
                have HSA := Lib.hid hsa
                have HSB := Lib.hid hsb
                obtain ⟨i, hi⟩ : ∃ i, i + 2 = m := ⟨m - 2, by omega⟩
                obtain ⟨n, hn⟩ : ∃ n, n + 1 = m := ⟨m - 1, by omega⟩
                rw [show m - 2 = i by omega] at hca
                rw [show m - 1 = n by omega] at hcb
                have hpl := HPL.out
                have j1 : IntKind.i64.wrap ((m : Int) - 2) = (i : Int) := by rw [IntWalk.i64_in _ (by omega)]; omega
                have j2 : IntKind.i64.wrap ((m : Int) - 1) = (n : Int) := by rw [IntWalk.i64_in _ (by omega)]; omega
                have j3 : IntKind.i64.wrap ((pre.length : Int) + 2) = (pre.length : Int) + 2 := by rw [IntWalk.i64_in _ (by omega)]
                have j4 : (pre.length : Int) + 2 ≤ (m : Int) := by omega
                have j5 : (0 : Int) ≤ (i : Int) := by omega
                have j6 : (i : Int) < (m : Int) := by omega
                have j7 : (0 : Int) ≤ (n : Int) := by omega
                have j8 : (n : Int) < (m : Int) := by omega
                have HII := Lib.hid hn
                obtain ⟨t, ht⟩ : ∃ t, turnP a b' x = t := ⟨_, rfl⟩
                have HTT := Lib.hid ht
                have hbr : Below w2.heap.size w2 w2 := Below.refl _ _
                have hb1l : b1 < w2.heap.size := q2
                clear g1 g2 hsa hsb e2 q1 q2 hi hn ht hlen h2 hl hpl
                go_wp2_with fail
                go_region_held3 (fun w' => w'.cell? ⟨b1, i, none⟩ = some xa ∧ w'.cell? ⟨b1, n, none⟩ = some xb ∧ Below w2.heap.size w2 w')
                  (first
                    | with_reducible exact keepP2 hca hcb hbr
                    | (go_split_ands; with_reducible exact keepQ2 hb1l hb1l (by assumption) (by assumption) (by assumption) (by assumption))
                    | go_keep)
                  (first | (go_at_call 117; refine (s_turn7 a b' x (HBD.out a (HM.out a (by simp))) (HBD.out b' (HM.out b' (by simp))) HXB.out _ _ _ _ (HSA.out.below HB2.out.drew) (HSB.out.below HB2.out.drew) (HX.out.below HB2.out.drew)).mono ?_; rintro e w3 ⟨rfl, hb3⟩; rw [HTT.out]))
                rename_i hH
                have HB3 := Lib.hid (HB2.out.trans (hH.2.2.mono HB2.out.size))
                have HO3 := Lib.hid (HO2.out.below hH.2.2)
                clear hH hbr hca hcb hb1l
                by_cases ht : t ≤ 0
                · have j11 : (n : Int) ≤ (gc : Int) := by omega
                  go_wp2
                  have hcut := HO3.out.cut (m := n) (by rw [HM9.out]; have := HII.out; omega)
                  have e5 : (pre ++ (b' :: a :: r).reverse).take n = pre ++ (a :: r).reverse := by
                    have h1 := HLN2.out
                    have h2 := HII.out
                    simp only [List.length_cons] at h1
                    rw [List.reverse_cons, ← List.append_assoc, List.take_append_of_le_length (by simp; omega), List.take_of_length_le (by simp; omega)]
                  rw [e5] at hcut
                  refine ⟨⟨a :: r, hcut, ?_, by have := HL2.out; simp only [List.length_cons] at this ⊢; omega, fun p hp => HM.out p (List.mem_cons_of_mem _ hp), HB3.out⟩, by simp [slen]; have := HII.out; omega⟩
                  rw [← HP.out, popR, if_pos (by rw [HTT.out]; exact ht)]
                · have HPX := Lib.hid (show popR (b' :: a :: r) x = b' :: a :: r by rw [popR, if_neg (by rw [HTT.out]; exact ht)])
                  obtain ⟨l, hl9⟩ : ∃ l, b' :: a :: r = l := ⟨_, rfl⟩
                  rw [hl9] at HP HO3 HPX HM9 HLN2 HL2
                  clear hl9
                  have hkl := HLN.out
                  go_wp2_with (at_builtin; go_must (refine list_app_pt rfl _ _ rfl w w.heap.size (.slice (some ⟨b1, 0, none⟩) m gc) _ (pre ++ l.reverse) x rfl (HO3.out.below (below1 _ _)) HX.out _ rfl (heap_alloc_new _ _) (by have := HM9.out; have := HLN2.out; have := HL2.out; have := HPL.out; omega) (by have := HB3.out.size; simp; omega) ?_; intro g8 c8 w8 ho8 hb8))
                  have HO8 := Lib.hid ho8
                  have HB8 := Lib.hid ((HB3.out.trans ((below1 _ _).mono HB3.out.size)).trans hb8)
                  clear ho8 hb8
                  go_wp2
                  refine ⟨⟨k + 1, by omega, by go_num, ?_, HB8.out⟩, by simp [RowKit.intOf]; omega⟩
                  have h := HO8.out
                  simp only [List.length_append, List.length_reverse] at h
                  rw [bendR_take hkL, HXE.out, ← HP.out, HPX.out, List.reverse_cons, ← List.append_assoc]
                  exact h
              · have HPX := Lib.hid (show popR l x = l from by
                  match l, h2 with
                  | [], _ => rfl
                  | [_], _ => rfl
                  | _ :: _ :: _, h => simp at h)
                have hpl := HPL.out
                have j3 : IntKind.i64.wrap ((pre.length : Int) + 2) = (pre.length : Int) + 2 := by rw [IntWalk.i64_in _ (by omega)]
                have j4 : decide ((pre.length : Int) + 2 ≤ (m : Int)) = false := decide_eq_false (by omega)
                have HO3 := HO2
                have HB3 := HB2
                clear h2 hlen hl hpl
                go_wp2_with fail
                go_quiet (fail)
                refine egen ?_
                intro w4 hw4
                have HB4 := Lib.hid (show Below w.heap.size w w4 by rw [hw4]; exact below_drewN' HB3.out _)
                have HO4 := Lib.hid (show RdO w w.heap.size w4 (.slice ga m gc) (pre ++ l.reverse) by rw [hw4]; exact HO3.out.below (below_drewN' (Below.refl _ _) _))
                clear hw4 HB3 HO3
                have hkl := HLN.out
                go_wp2_with (at_builtin; go_must (refine list_app_pt rfl _ _ rfl w w.heap.size (.slice ga m gc) _ (pre ++ l.reverse) x rfl (HO4.out.below (below1 _ _)) HX.out _ rfl (heap_alloc_new _ _) (by have := HM9.out; have := HLN2.out; have := HL2.out; have := HPL.out; omega) (by have := HB4.out.size; simp; omega) ?_; intro g8 c8 w8 ho8 hb8))
                have HO8 := Lib.hid ho8
                have HB8 := Lib.hid ((HB4.out.trans ((below1 _ _).mono HB4.out.size)).trans hb8)
                clear ho8 hb8
                go_wp2
                refine ⟨⟨k + 1, by omega, by go_num, ?_, HB8.out⟩, by simp [RowKit.intOf]; omega⟩
                have h := HO8.out
                simp only [List.length_append, List.length_reverse] at h
                rw [bendR_take hkL, HXE.out, ← HP.out, HPX.out, List.reverse_cons, ← List.append_assoc]
                exact h
          · have i9 : ¬ (p : Int) = 1 := by omega
            have i10 : ((p : Int) == 1) = false := beq_eq_false_iff_ne.2 i9
            have i12 : decide ((p : Int) = 1) = false := decide_eq_false i9
            have hSr : S = L := by have := HLD.out; rwa [if_neg hp1] at this
            obtain ⟨x, hx⟩ : ∃ x, L[k] = x := ⟨_, rfl⟩
            have hxs : S[k] = x := by rw [← hx]; simp only [← hSr]
            rw [hxs] at hsx0
            have HXE := Lib.hid hx
            have HXB := Lib.hid ((HBD.out x (by rw [← hxs]; exact List.getElem_mem _)).wide (m := 1000) (by omega))
            have HX := Lib.hid hsx0
            obtain ⟨ya, yc, rfl, _⟩ := hsx0.shape
            clear hx hxs hsx0 hSr hp1
            go_wp2_with fail
            go_loopw [3] (fun o wr => ∃ l : List P2, RdO w w.heap.size wr o (pre ++ l.reverse) ∧ popR l x = popR (bendR (L.take k)) x ∧ l.length ≤ 200 ∧ (∀ p ∈ l, p ∈ S) ∧ Below w.heap.size w wr) (fun o _ => slen o)
            case atStart => exact ⟨_, HKO.out, rfl, by have := HQ.out.2; have := HLN.out; omega, fun p hp => HLS.out p (HQ.out.1 p hp), HKB.out⟩
            case round =>
              obtain ⟨l, ho, hp', hl, hm, hb⟩ := hrel
              rename World => w2
              have HP := Lib.hid hp'
              have HM := Lib.hid hm
              have HO2 := Lib.hid ho
              have HB2 := Lib.hid hb
              have HL2 := Lib.hid hl
              obtain ⟨ga, gc, rfl, hgc, hgm⟩ := ho.shape
              unfold maxLen at hgm
              have hlen : (pre ++ l.reverse).length = pre.length + l.length := by simp
              obtain ⟨m, hm9⟩ : ∃ m, (pre ++ l.reverse).length = m := ⟨_, rfl⟩
              rw [hm9] at HO2 hgc hlen ⊢
              have HLN2 := Lib.hid hlen
              have HM9 := Lib.hid hm9
              clear hp' hm ho hb hm9 hcell0 
              by_cases h2 : 2 ≤ l.length
              · obtain ⟨b', a, r, rfl⟩ : ∃ b a r, l = b :: a :: r := by
                  match l, h2 with
                  | b :: a :: r, _ => exact ⟨b, a, r, rfl⟩
                  | [_], h => simp at h
                  | [], h => simp at h
                simp only [List.length_cons] at hlen hl
                have g1 : (pre ++ (b' :: a :: r).reverse)[m - 2]? = some a := by
                  simp only [List.reverse_cons, List.append_assoc]
                  rw [List.getElem?_append_right (by omega), List.getElem?_append_right (by simp; omega)]
                  simp only [List.length_reverse]
                  rw [show m - 2 - pre.length - r.length = 0 by omega]; rfl
                have g2 : (pre ++ (b' :: a :: r).reverse)[m - 1]? = some b' := by
                  simp only [List.reverse_cons, List.append_assoc]
                  rw [List.getElem?_append_right (by omega), List.getElem?_append_right (by simp; omega)]
                  simp only [List.length_reverse]
                  rw [show m - 1 - pre.length - r.length = 1 by omega]; rfl
                obtain ⟨b1, xa, rfl, q1, q2, hca, hsa⟩ := HO2.out.at (m - 2) (lt_of_get g1)
                obtain ⟨b2, xb, e2, _, _, hcb, hsb⟩ := HO2.out.at (m - 1) (lt_of_get g2)
                obtain rfl : b1 = b2 := by simpa using e2
                rw [show (pre ++ (b' :: a :: r).reverse)[m - 2]'(lt_of_get g1) = a from by have := List.getElem?_eq_getElem (lt_of_get g1); rw [g1] at this; exact (Option.some.inj this).symm] at hsa
                rw [show (pre ++ (b' :: a :: r).reverse)[m - 1]'(lt_of_get g2) = b' from by have := List.getElem?_eq_getElem (lt_of_get g2); rw [g2] at this; exact (Option.some.inj this).symm] at hsb
                have HSA := Lib.hid hsa
                have HSB := Lib.hid hsb
                obtain ⟨i, hi⟩ : ∃ i, i + 2 = m := ⟨m - 2, by omega⟩
                obtain ⟨n, hn⟩ : ∃ n, n + 1 = m := ⟨m - 1, by omega⟩
                rw [show m - 2 = i by omega] at hca
                rw [show m - 1 = n by omega] at hcb
                have hpl := HPL.out
                have j1 : IntKind.i64.wrap ((m : Int) - 2) = (i : Int) := by rw [IntWalk.i64_in _ (by omega)]; omega
                have j2 : IntKind.i64.wrap ((m : Int) - 1) = (n : Int) := by rw [IntWalk.i64_in _ (by omega)]; omega
                have j3 : IntKind.i64.wrap ((pre.length : Int) + 2) = (pre.length : Int) + 2 := by rw [IntWalk.i64_in _ (by omega)]
                have j4 : (pre.length : Int) + 2 ≤ (m : Int) := by omega
                have j5 : (0 : Int) ≤ (i : Int) := by omega
                have j6 : (i : Int) < (m : Int) := by omega
                have j7 : (0 : Int) ≤ (n : Int) := by omega
                have j8 : (n : Int) < (m : Int) := by omega
                have HII := Lib.hid hn
                obtain ⟨t, ht⟩ : ∃ t, turnP a b' x = t := ⟨_, rfl⟩
                have HTT := Lib.hid ht
                have hbr : Below w2.heap.size w2 w2 := Below.refl _ _
                have hb1l : b1 < w2.heap.size := q2
                clear g1 g2 hsa hsb e2 q1 q2 hi hn ht hlen h2 hl hpl
                go_wp2_with fail
                go_region_held3 (fun w' => w'.cell? ⟨b1, i, none⟩ = some xa ∧ w'.cell? ⟨b1, n, none⟩ = some xb ∧ Below w2.heap.size w2 w')
                  (first
                    | with_reducible exact keepP2 hca hcb hbr
                    | (go_split_ands; with_reducible exact keepQ2 hb1l hb1l (by assumption) (by assumption) (by assumption) (by assumption))
                    | go_keep)
                  (first | (go_at_call 117; refine (s_turn7 a b' x (HBD.out a (HM.out a (by simp))) (HBD.out b' (HM.out b' (by simp))) HXB.out _ _ _ _ (HSA.out.below HB2.out.drew) (HSB.out.below HB2.out.drew) (HX.out.below HB2.out.drew)).mono ?_; rintro e w3 ⟨rfl, hb3⟩; rw [HTT.out]))
                rename_i hH
                have HB3 := Lib.hid (HB2.out.trans (hH.2.2.mono HB2.out.size))
                have HO3 := Lib.hid (HO2.out.below hH.2.2)
                clear hH hbr hca hcb hb1l
                by_cases ht : t ≤ 0
                · have j11 : (n : Int) ≤ (gc : Int) := by omega
                  go_wp2
                  have hcut := HO3.out.cut (m := n) (by rw [HM9.out]; have := HII.out; omega)
                  have e5 : (pre ++ (b' :: a :: r).reverse).take n = pre ++ (a :: r).reverse := by
                    have h1 := HLN2.out
                    have h2 := HII.out
                    simp only [List.length_cons] at h1
                    rw [List.reverse_cons, ← List.append_assoc, List.take_append_of_le_length (by simp; omega), List.take_of_length_le (by simp; omega)]
                  rw [e5] at hcut
                  refine ⟨⟨a :: r, hcut, ?_, by have := HL2.out; simp only [List.length_cons] at this ⊢; omega, fun p hp => HM.out p (List.mem_cons_of_mem _ hp), HB3.out⟩, by simp [slen]; have := HII.out; omega⟩
                  rw [← HP.out, popR, if_pos (by rw [HTT.out]; exact ht)]
                · have HPX := Lib.hid (show popR (b' :: a :: r) x = b' :: a :: r by rw [popR, if_neg (by rw [HTT.out]; exact ht)])
                  obtain ⟨l, hl9⟩ : ∃ l, b' :: a :: r = l := ⟨_, rfl⟩
                  rw [hl9] at HP HO3 HPX HM9 HLN2 HL2
                  clear hl9
                  have hkl := HLN.out
                  go_wp2_with (at_builtin; go_must (refine list_app_pt rfl _ _ rfl w w.heap.size (.slice (some ⟨b1, 0, none⟩) m gc) _ (pre ++ l.reverse) x rfl (HO3.out.below (below1 _ _)) HX.out _ rfl (heap_alloc_new _ _) (by have := HM9.out; have := HLN2.out; have := HL2.out; have := HPL.out; omega) (by have := HB3.out.size; simp; omega) ?_; intro g8 c8 w8 ho8 hb8))
                  have HO8 := Lib.hid ho8
                  have HB8 := Lib.hid ((HB3.out.trans ((below1 _ _).mono HB3.out.size)).trans hb8)
                  clear ho8 hb8
                  go_wp2
                  refine ⟨⟨k + 1, by omega, by go_num, ?_, HB8.out⟩, by simp [RowKit.intOf]; omega⟩
                  have h := HO8.out
                  simp only [List.length_append, List.length_reverse] at h
                  rw [bendR_take hkL, HXE.out, ← HP.out, HPX.out, List.reverse_cons, ← List.append_assoc]
                  exact h
              · have HPX := Lib.hid (show popR l x = l from by
                  match l, h2 with
                  | [], _ => rfl
                  | [_], _ => rfl
                  | _ :: _ :: _, h => simp at h)
                have hpl := HPL.out
                have j3 : IntKind.i64.wrap ((pre.length : Int) + 2) = (pre.length : Int) + 2 := by rw [IntWalk.i64_in _ (by omega)]
                have j4 : decide ((pre.length : Int) + 2 ≤ (m : Int)) = false := decide_eq_false (by omega)
                have HO3 := HO2
                have HB3 := HB2
                clear h2 hlen hl hpl
                go_wp2_with fail
                go_quiet (fail)
                refine egen ?_
                intro w4 hw4
                have HB4 := Lib.hid (show Below w.heap.size w w4 by rw [hw4]; exact below_drewN' HB3.out _)
                have HO4 := Lib.hid (show RdO w w.heap.size w4 (.slice ga m gc) (pre ++ l.reverse) by rw [hw4]; exact HO3.out.below (below_drewN' (Below.refl _ _) _))
                clear hw4 HB3 HO3
                have hkl := HLN.out
                go_wp2_with (at_builtin; go_must (refine list_app_pt rfl _ _ rfl w w.heap.size (.slice ga m gc) _ (pre ++ l.reverse) x rfl (HO4.out.below (below1 _ _)) HX.out _ rfl (heap_alloc_new _ _) (by have := HM9.out; have := HLN2.out; have := HL2.out; have := HPL.out; omega) (by have := HB4.out.size; simp; omega) ?_; intro g8 c8 w8 ho8 hb8))
                have HO8 := Lib.hid ho8
                have HB8 := Lib.hid ((HB4.out.trans ((below1 _ _).mono HB4.out.size)).trans hb8)
                clear ho8 hb8
                go_wp2
                refine ⟨⟨k + 1, by omega, by go_num, ?_, HB8.out⟩, by simp [RowKit.intOf]; omega⟩
                have h := HO8.out
                simp only [List.length_append, List.length_reverse] at h
                rw [bendR_take hkL, HXE.out, ← HP.out, HPX.out, List.reverse_cons, ← List.append_assoc]
                exact h
        · obtain rfl : k = S.length := by omega
          have HF := Lib.hid (show L.take S.length = L by rw [← HLN.out, List.take_length])
          rw [HF.out] at HKO
          obtain ⟨ga, gc, rfl, hgc, hgm⟩ := HKO.out.shape
          unfold maxLen at hgm
          obtain ⟨y, t, hyt⟩ := bend_full (L := L) (by have := HLN.out; omega)
          have HYT := Lib.hid hyt
          obtain ⟨m, hm9⟩ : ∃ m, (pre ++ (bendR L).reverse).length = m := ⟨_, rfl⟩
          have hm8 : m = pre.length + t.length + 1 := by rw [← hm9, hyt]; simp; omega
          rw [hm9] at HKO hgc ⊢
          have HM9 := Lib.hid hm9
          have HM8 := Lib.hid hm8
          obtain ⟨b, x, rfl, -⟩ := HKO.out.at 0 (by omega)
          obtain ⟨i, hi⟩ : ∃ i, i + 1 = m := ⟨m - 1, by omega⟩
          have HII := Lib.hid hi
          have j1 : IntKind.i64.wrap ((m : Int) - 1) = (i : Int) := by rw [IntWalk.i64_in _ (by omega)]; omega
          have j5 : (0 : Int) ≤ (i : Int) := by omega
          have j6 : (i : Int) ≤ (gc : Int) := by omega
          clear hyt hm9 hm8 hi
          go_wp2
          have hcut := HKO.out.cut (m := i) (by rw [HM9.out]; have := HII.out; omega)
          have e5 : (pre ++ (bendR L).reverse).take i = preL S (p + 1) := by
            have h1 := HM8.out
            have h2 := HII.out
            rw [HPN.out, HYT.out]
            unfold bendL
            rw [HYT.out, List.tail_cons, List.reverse_cons, ← List.append_assoc, List.take_append_of_le_length (by simp; omega), List.take_of_length_le (by simp; omega)]
          rw [e5] at hcut
          exact ⟨⟨p + 1, by omega, by go_num, hcut, HKB.out⟩, by simp [RowKit.intOf]; omega⟩
    · obtain rfl : p = 2 := by omega
      have h9 := HO.out
      go_wp2
      go_ret
      exact ⟨⟨_, rfl, h9⟩, HB.out⟩
end Go.Proofs.Ytoekgcafhcamjaa
/- The model's HullOf. -/
namespace Go.Proofs.Ytoekgcafhcamjaa
open Go.RowKit Go.Lib

theorem hullR_empty {l : List (List Int)} (h : hullP l = ([], false)) : hullR l = ([], false) := by unfold hullR; rw [h]; rfl
theorem gotR_mk {w : World} {r r' : List (List Int) × Bool} {e : Ending} {w' : World} (h : r' = r) (g : GotR w r e w') : GotR w r' e w' := by subst h; exact g
theorem sort_bd {l : List (List Int)} (h : flatR l = true) : ∀ p ∈ sortL l, BdP 50 p := by
  intro p hp
  have hp := ((sortL_strict h).2 p).1 hp
  obtain ⟨v, hv, rfl⟩ := List.mem_map.1 hp
  obtain ⟨h1, h2⟩ := flatR_t h v hv
  match v, h1 with
  | [a, b], _ =>
    have h3 := small_get h2 0 (by simp)
    have h4 := small_get h2 1 (by simp)
    exact ⟨h3, h4⟩
theorem fold_take {l : List (List Int)} {k : Nat} (h : k < l.length) : (l.take (k + 1)).foldl putL [] = putL ((l.take k).foldl putL []) l[k] := by
  rw [List.take_succ_eq_append_getElem h, List.foldl_append]; rfl
theorem fold_two {l : List (List Int)} (h : flatR l = true) (k : Nat) : ∀ q ∈ (l.take k).foldl putL [], q.length = 2 := by
  intro q hq
  have hl : ∀ q ∈ l.take k, q.length = 2 := fun q hq => (flatR_t h q (List.mem_of_mem_take hq)).1
  rcases ((foldL_put (n := 2) (l.take k) [] hl (fun q hq => by cases hq) List.Pairwise.nil).2 q).1 hq with h | h
  · cases h
  · exact hl q h
set_option maxRecDepth 100000 in
set_option maxHeartbeats 3200000 in
theorem s_hullof (l : List (List Int)) (v : Value) (w : World) (hv : Rw w v l) :
    Calls Try.prog 35 #[v] w (GotR w (hullR l)) := by
  have HV := Lib.hid hv
  obtain ⟨a, c, rfl, hm, hopen⟩ := hv.shape
  unfold maxLen at hm
  have HO := Lib.hid hopen
  clear hv hopen
  by_cases c1 : 200 < l.length
  case pos =>
    have HE := Lib.hid (hullR_empty (l := l) (by unfold hullP; rw [if_pos (.inl c1)]))
    have i1 : (200 : Int) < (l.length : Int) := by omega
    go_enter Try.func35, Try.ntmps35
    go_wp2
    go_ret2
    exact gotR_mk HE.out ⟨⟨_, rfl, owr_none0 (owns_none (Nat.le_refl _))⟩, below1 _ _⟩
  by_cases c2 : flatR l = true
  case neg =>
    have HE := Lib.hid (hullR_empty (l := l) (by unfold hullP; rw [if_pos (.inr c2)]))
    have C2 := Lib.hid (bool_f c2)
    have i1 : ¬ (200 : Int) < (l.length : Int) := by omega
    clear c2
    go_enter Try.func35, Try.ntmps35
    go_wp2_with fail
    refine (s_flat l _ _ HV.out).mono ?_
    rintro e w1 ⟨rfl, hb⟩
    rw [C2.out]
    have HB := Lib.hid hb
    clear hb
    go_wp2
    go_ret2
    exact gotR_mk HE.out ⟨⟨_, rfl, owr_none0 (owns_none HB.out.size)⟩, HB.out.trans ((below1 _ _).mono HB.out.size)⟩
  have C2 := Lib.hid c2
  have i1 : ¬ (200 : Int) < (l.length : Int) := by omega
  clear c2
  go_enter Try.func35, Try.ntmps35
  go_wp2_with fail
  refine (s_flat l _ _ HV.out).mono ?_
  rintro e w0 ⟨rfl, hb⟩
  rw [C2.out]
  have HB0 := Lib.hid hb
  clear hb
  go_wp2_with fail
  go_loopw [4, 5] (fun o i wr => ∃ k : Nat, k ≤ l.length ∧ i = .int .i64 k ∧ OwR 24 3 w.heap.size wr.heap.size wr o ((l.take k).foldl putL []) ∧ Below w.heap.size w wr) (fun _ i _ => l.length - (RowKit.intOf i).toNat)
  case atStart => exact ⟨0, Nat.zero_le _, rfl, owr_none0 (owns_none HB0.out.size), HB0.out.trans ((below1 _ _).mono HB0.out.size)⟩
  case round =>
    obtain ⟨k, hk, rfl, ho, hb⟩ := hrel
    rename World => wr
    have HK := Lib.hid ho
    have HB := Lib.hid hb
    obtain ⟨oa, oc, rfl, hom, _⟩ := ho.rw.shape
    clear ho hb hom
    have hlen := foldL_len (l.take k) []
    rw [List.length_take, List.length_nil] at hlen
    obtain ⟨S, hS⟩ : ∃ S, (l.take k).foldl putL [] = S := ⟨_, rfl⟩
    have HS := Lib.hid hS
    have H2 := Lib.hid (fold_two C2.out k)
    rw [hS] at HK H2 hlen ⊢
    clear hS
    by_cases hlt : k < l.length
    · have i2 : (0 : Int) ≤ (k : Int) := by omega
      have i3 : (k : Int) < (l.length : Int) := by omega
      obtain ⟨b, off, u, rfl, hc, hlt2, hcell, hsu⟩ := HO.out k _ (List.getElem?_eq_getElem hlt)
      rw [← HB.out.cell (p := ⟨b, off + k, none⟩) hlt2] at hcell
      have HU := Lib.hid (hsu.below HB.out)
      have h2 := (flatR_t C2.out l[k] (List.getElem_mem hlt)).1
      have HF := Lib.hid (fold_take hlt)
      rw [HS.out] at HF
      have HL := Lib.hid h2
      obtain ⟨ua, uc, rfl, _⟩ := hsu.shape
      clear hsu h2
      go_wp2_with fail
      refine (s_putl S l[k] _ _ w.heap.size wr.heap.size wr HK.out HU.out (fun q hq => by rw [H2.out q hq, HL.out]) (by have := HL.out; omega) HB.out.size (Nat.le_refl _) (by omega)).mono ?_
      rintro e w2 ⟨⟨u2, rfl, h2, _⟩, g2⟩
      have O2 := Lib.hid h2
      have B2 := Lib.hid (HB.out.trans ((Below.refl w.heap.size wr).grown g2 HB.out.size (fun q hq => (HK.out.place0 hq))))
      obtain ⟨a2, c2, rfl, _, _⟩ := h2.rw.shape
      clear h2 g2 hcell
      go_wp2
      exact ⟨⟨k + 1, by omega, by go_num, by rw [HF.out]; exact O2.out, B2.out⟩, by simp [RowKit.intOf]; omega⟩
    · obtain rfl : k = l.length := by omega
      have HT := Lib.hid (show l.foldl putL [] = S by rw [← HS.out, List.take_length])
      have HR := Lib.hid (show S = (sortL l).map rowOf by rw [sortL_rows C2.out, HT.out])
      have HZ := Lib.hid (show S.length = (sortL l).length by rw [HR.out, List.length_map])
      obtain ⟨m, hm9⟩ : ∃ m, S.length = m := ⟨_, rfl⟩
      have HM := Lib.hid hm9
      rw [hm9] at HK hlen ⊢
      clear hm9
      by_cases m1 : m < 3
      · have j1 : (m : Int) < 3 := by omega
        have HE := Lib.hid (hullR_empty (l := l) (by unfold hullP; rw [if_neg (by rintro (c | c); omega; exact c C2.out), if_pos (by rw [← HZ.out, HM.out]; exact m1)]))
        go_wp2
        go_ret2
        exact gotR_mk HE.out ⟨⟨_, rfl, owr_none0 (owns_none HB.out.size)⟩, HB.out.trans ((below1 _ _).mono HB.out.size)⟩
      · have j1 : ¬ (m : Int) < 3 := by omega
        have HP := Lib.hid (show hullP l = cornR (sortL l) by unfold hullP; rw [if_neg (by rintro (c | c); omega; exact c C2.out), if_neg (by rw [← HZ.out, HM.out]; exact m1)])
        have hl3 : (sortL l).length = m := by rw [← HZ.out, HM.out]
        have HK2 := Lib.hid (show Rw wr (.slice oa m oc) ((sortL l).map rowOf) by rw [← HR.out]; exact HK.out.rw)
        have HBD := Lib.hid (sort_bd C2.out)
        have HC := Lib.hid (show ∀ r, cornR (sortL l) = r → hullR l = (r.1.map rowOf, r.2) from fun r hr => by unfold hullR; rw [HP.out, hr])
        obtain ⟨T, hT⟩ : ∃ T, sortL l = T := ⟨_, rfl⟩
        rw [hT] at HK2 HBD HC hl3
        have ML := cornL_len T
        have HL3 := Lib.hid hl3
        clear hT hl3
        go_wp2_with fail
        refine (s_hull T (by have := HL3.out; omega) (by have := HL3.out; omega) HBD.out _ wr HK2.out).mono ?_
        rintro e w2 ⟨⟨u, rfl, h2⟩, hb2⟩
        have O2 := Lib.hid (h2.rw hb2)
        have B2 := Lib.hid (HB.out.trans (hb2.mono HB.out.size))
        obtain ⟨ua, uc, rfl, _, _⟩ := h2.shape
        rw [HL3.out] at ML
        obtain ⟨n, hn9⟩ : ∃ n, (cornL T).length = n := ⟨_, rfl⟩
        have HN := Lib.hid hn9
        rw [hn9] at O2 ML ⊢
        clear h2 hb2 hn9
        by_cases m2 : n < 3
        · have j2 : (n : Int) < 3 := by omega
          have HE := Lib.hid (HC.out _ (show cornR T = ([], false) by unfold cornR; rw [if_pos (.inl (by rw [HN.out]; exact m2))]))
          go_wp2
          go_ret2
          exact gotR_mk HE.out ⟨⟨_, rfl, owr_none0 (owns_none B2.out.size)⟩, B2.out.trans ((below1 _ _).mono B2.out.size)⟩
        · have j2 : ¬ (n : Int) < 3 := by omega
          by_cases m3 : 12 < n
          · have j3 : (12 : Int) < (n : Int) := by omega
            have HE := Lib.hid (HC.out _ (show cornR T = ([], false) by unfold cornR; rw [if_pos (.inr (by rw [HN.out]; exact m3))]))
            go_wp2
            go_ret2
            exact gotR_mk HE.out ⟨⟨_, rfl, owr_none0 (owns_none B2.out.size)⟩, B2.out.trans ((below1 _ _).mono B2.out.size)⟩
          · have j3 : ¬ (12 : Int) < (n : Int) := by omega
            have HE := Lib.hid (HC.out _ (show cornR T = (cornL T, true) by unfold cornR; rw [if_neg (by rw [HN.out]; omega)]))
            go_wp2_with fail
            refine (s_copy ((cornL T).map rowOf) _ w2 O2.out (by rw [List.length_map, HN.out]; omega) (fun r hr => by obtain ⟨p, _, rfl⟩ := List.mem_map.1 hr; simp [rowOf])).mono ?_
            rintro e w3 ⟨⟨u3, rfl, h3⟩, b3⟩
            have O3 := Lib.hid (h3.mono B2.out.size (Nat.le_refl _))
            have B3 := Lib.hid (B2.out.trans (b3.mono B2.out.size))
            clear h3 b3
            go_wp2
            go_ret2
            exact gotR_mk HE.out ⟨⟨_, rfl, O3.out⟩, B3.out⟩
end Go.Proofs.Ytoekgcafhcamjaa
/- The program's bendLeft. -/
namespace Go.Proofs.Ytoekgcafhcamjaa
open Go Go.RowKit Go.Lib

theorem keep9D {w W : World} {p1 p2 p3 p4 p5 p6 p7 p8 p9 : Addr} {x1 x2 x3 x4 x5 x6 x7 x8 x9 : Value} (h1 : W.cell? p1 = some x1) (h2 : W.cell? p2 = some x2) (h3 : W.cell? p3 = some x3) (h4 : W.cell? p4 = some x4) (h5 : W.cell? p5 = some x5) (h6 : W.cell? p6 = some x6) (h7 : W.cell? p7 = some x7) (h8 : W.cell? p8 = some x8) (h9 : W.cell? p9 = some x9) (hb : Below w.heap.size w W) :
    W.drew.cell? p1 = some x1 ∧ W.drew.cell? p2 = some x2 ∧ W.drew.cell? p3 = some x3 ∧ W.drew.cell? p4 = some x4 ∧ W.drew.cell? p5 = some x5 ∧ W.drew.cell? p6 = some x6 ∧ W.drew.cell? p7 = some x7 ∧ W.drew.cell? p8 = some x8 ∧ W.drew.cell? p9 = some x9 ∧ Below w.heap.size w W.drew := ⟨h1, h2, h3, h4, h5, h6, h7, h8, h9, hb.drew⟩
theorem keep9E {w W w1 : World} {p1 p2 p3 p4 p5 p6 p7 p8 p9 : Addr} {x1 x2 x3 x4 x5 x6 x7 x8 x9 : Value} (l1 : p1.block < w.heap.size) (l2 : p2.block < w.heap.size) (l3 : p3.block < w.heap.size) (l4 : p4.block < w.heap.size) (l5 : p5.block < w.heap.size) (l6 : p6.block < w.heap.size) (l7 : p7.block < w.heap.size) (l8 : p8.block < w.heap.size) (l9 : p9.block < w.heap.size)
    (h1 : W.cell? p1 = some x1) (h2 : W.cell? p2 = some x2) (h3 : W.cell? p3 = some x3) (h4 : W.cell? p4 = some x4) (h5 : W.cell? p5 = some x5) (h6 : W.cell? p6 = some x6) (h7 : W.cell? p7 = some x7) (h8 : W.cell? p8 = some x8) (h9 : W.cell? p9 = some x9) (hb : Below w.heap.size w W) (hb1 : Below W.heap.size W w1) :
    w1.cell? p1 = some x1 ∧ w1.cell? p2 = some x2 ∧ w1.cell? p3 = some x3 ∧ w1.cell? p4 = some x4 ∧ w1.cell? p5 = some x5 ∧ w1.cell? p6 = some x6 ∧ w1.cell? p7 = some x7 ∧ w1.cell? p8 = some x8 ∧ w1.cell? p9 = some x9 ∧ Below w.heap.size w w1 := by
  have k : ∀ {p : Addr} {x : Value}, p.block < w.heap.size → W.cell? p = some x → w1.cell? p = some x := fun hp h => (hb1.cell (Nat.lt_of_lt_of_le hp hb.size)).trans h
  exact ⟨k l1 h1, k l2 h2, k l3 h3, k l4 h4, k l5 h5, k l6 h6, k l7 h7, k l8 h8, k l9 h9, hb.trans (hb1.mono hb.size)⟩
/-- append(points, point) at a plain list of operations. -/
theorem list_app_np {ops : Array Oper} {rest : List Oper} {o : Oper} {a : Act} {w : World} {Q : Exit → Act → World → Prop} (hgd : o.guard = none) (s x : Operand)
    (ho : o.op = .call { callee := .builtin .append, args := #[s, x], argTypes := #[61, 61] })
    (lo hi : Nat) (v : Value) (l : List P2) (p : P2) (hs : a.eval s = v) (hown : OwP lo hi w v l)
    (H : Nat) (hx : a.eval x = .slice (some ⟨H, 0, none⟩) 1 1) (hnew : w.heap[H]? = some (.cells #[.int .i64 p.1, .int .i64 p.2, .int .i64 0] 65 (0, 0)))
    (hn : l.length ≤ 1048576) (hlo : lo ≤ w.heap.size)
    (k : ∀ g cap w', OwP lo w'.heap.size w' (.slice (some ⟨g, 0, none⟩) (l.length + 1) cap) (l ++ [p]) → w.grownBy w' v.ownBlock → wpList Try.prog ops Q rest (a.put o.dst (.slice (some ⟨g, 0, none⟩) (l.length + 1) cap)) w') :
    wpList Try.prog ops Q (o :: rest) a w := by
  obtain ⟨i0, hi', hz0, hz1, hz2⟩ := info_parts info_nums
  refine wpList_append_lies w hgd s x 61 ho lo 65 i0 _ 3 24 Try.underlying61 hi' hz0 hz1 hz2 rfl (by omega) v l.length (l.flatMap encP) hs hown.1 ⟨H, 0, none⟩ 1 1 (encP p) hx rfl (World.news_of_block (cs := #[.int .i64 p.1, .int .i64 p.2, .int .i64 0]) hnew) (encP_one p) (by omega) (by unfold maxLen; omega) (by omega) hlo w.heap.size rfl ?_
  intro g cap w' k1 k2 _ _
  refine k g cap w' ⟨?_, fun b hb => (k1.lt b hb).2⟩ k2
  rw [List.length_append, List.length_singleton, List.flatMap_append]
  simpa using k1
/-- What bendLeft leaves. -/
def MadeP (w : World) (l : List P2) (e : Ending) (w' : World) : Prop := (∃ u, e = .returned u ∧ OwP w.heap.size w'.heap.size w' u l) ∧ Below w.heap.size w w'

set_option maxRecDepth 100000 in
set_option maxHeartbeats 8000000 in
theorem i_bend (ps : List P2) (h200 : ps.length ≤ 200) (hbd : ∀ p ∈ ps, BdP 50 p) (lo hi : Nat) (v : Value) (w : World) (hv : OwP lo hi w v ps) :
    Calls Try.prog 122 #[v] w (MadeP w (bendL ps)) := by
  obtain ⟨va, vc, rfl, hvc, hvm⟩ := hv.shape
  unfold maxLen at hvm
  have HV := Lib.hid hv
  have HBD := Lib.hid hbd
  clear hv hbd
  go_enter Try.func122, Try.ntmps122
  go_wp2
  go_loopw [8, 3] (fun i o wr => ∃ k : Nat, k ≤ ps.length ∧ i = .int .i64 k ∧ OwP w.heap.size wr.heap.size wr o (bendR (ps.take k)).reverse ∧ Below w.heap.size w wr) (fun i _ _ => ps.length - (RowKit.intOf i).toNat)
  case atStart => exact ⟨0, Nat.zero_le _, rfl, OwE.nil, Below.refl _ _⟩
  case round =>
    obtain ⟨k, hk, rfl, ho, hb⟩ := hrel
    rename World => wk
    have HKB := Lib.hid hb
    have HKO := Lib.hid ho
    obtain ⟨oa, oc, rfl, hoc, hom⟩ := ho.shape
    rw [List.length_reverse] at hoc HKO ⊢
    unfold maxLen at hom
    clear ho hb
    by_cases hlt : k < ps.length
    · have i1 : (0 : Int) ≤ (k : Int) := by omega
      have i2 : (k : Int) < (ps.length : Int) := by omega
      obtain ⟨b, rfl, -, -, -, hb2, -, ⟨q0, q1, q2⟩, -⟩ := HV.out.at3 k hlt rfl
      rw [← HKB.out.cell (p := ⟨b, k * 3, none⟩) hb2] at q0
      rw [← HKB.out.cell (p := ⟨b, k * 3 + 1, none⟩) hb2] at q1
      rw [← HKB.out.cell (p := ⟨b, k * 3 + 2, none⟩) hb2] at q2
      have HQ := Lib.hid (bend_take_ok (L := ps) k)
      obtain ⟨x, hx⟩ : ∃ x, ps[k] = x := ⟨_, rfl⟩
      rw [hx] at q0 q1
      have HXE := Lib.hid hx
      have HXB := Lib.hid ((HBD.out x (by rw [← hx]; exact List.getElem_mem _)).wide (m := 1000) (by omega))
      obtain ⟨x1, x2⟩ := x
      simp only at q0 q1
      clear hx
      have KX := Lib.hid (Bk.new wk #[.int .i64 x1, .int .i64 x2, .int .i64 0] 65)
      have BX := Lib.hid (below1 wk (.cells #[.int .i64 x1, .int .i64 x2, .int .i64 0] 65))
      go_wp2_with fail
      go_loopw [3] (fun o wr => ∃ l : List P2, OwP w.heap.size wk.heap.size wr o l.reverse ∧ popR l (x1, x2) = popR (bendR (ps.take k)) (x1, x2) ∧ l.length ≤ 200 ∧ (∀ p ∈ l, p ∈ ps) ∧ Bk wr wk.heap.size #[.int .i64 x1, .int .i64 x2, .int .i64 0] 65 ∧ Below w.heap.size w wr) (fun o _ => slen o)
      case atStart => exact ⟨_, HKO.out.below BX.out, rfl, by have := HQ.out.2; omega, HQ.out.1, KX.out, HKB.out.trans (BX.out.mono HKB.out.size)⟩
      case round =>
        obtain ⟨l, ho, hp', hl, hm, hkx, hb⟩ := hrel
        rename World => w2
        have HP := Lib.hid hp'
        have HM := Lib.hid hm
        have HO2 := Lib.hid ho
        have HB2 := Lib.hid hb
        have HL2 := Lib.hid hl
        have KX2 := Lib.hid hkx
        obtain ⟨ga, gc, rfl, hgc, hgm⟩ := ho.shape
        rw [List.length_reverse] at HO2 hgc ⊢
        unfold maxLen at hgm
        obtain ⟨m, hm9⟩ : ∃ m, l.length = m := ⟨_, rfl⟩
        rw [hm9] at HO2 hgc hl ⊢
        have HM9 := Lib.hid hm9
        have hkl : wk.heap.size < w2.heap.size := hkx.lt
        clear hp' hm ho hb hm9 hkx q0 q1 q2
        by_cases h2 : 1 < m
        · obtain ⟨b', a, r, rfl⟩ : ∃ b a r, l = b :: a :: r := by
            match l, HM9.out with
            | b :: a :: r, _ => exact ⟨b, a, r, rfl⟩
            | [_], h => simp at h; omega
            | [], h => simp at h; omega
          obtain ⟨i, hi⟩ : ∃ i, i + 2 = m := ⟨m - 2, by omega⟩
          obtain ⟨n, hn⟩ : ∃ n, n + 1 = m := ⟨m - 1, by omega⟩
          have hrl : r.length + 2 = m := by have := HM9.out; simpa using this
          have g1 : (b' :: a :: r).reverse[i]? = some a := by
            simp only [List.reverse_cons, List.append_assoc]
            rw [List.getElem?_append_right (by simp; omega)]
            simp only [List.length_reverse]
            rw [show i - r.length = 0 by omega]; rfl
          have g2 : (b' :: a :: r).reverse[n]? = some b' := by
            simp only [List.reverse_cons, List.append_assoc]
            rw [List.getElem?_append_right (by simp; omega)]
            simp only [List.length_reverse]
            rw [show n - r.length = 1 by omega]; rfl
          obtain ⟨b1, rfl, -, -, -, hb1l, -, ⟨ca0, ca1, ca2⟩, -⟩ := HO2.out.at3 i (lt_of_get g1) rfl
          obtain ⟨b2, e2, -, -, -, -, -, ⟨cb0, cb1, cb2⟩, -⟩ := HO2.out.at3 n (lt_of_get g2) rfl
          obtain rfl : b1 = b2 := by simpa using e2
          rw [show (b' :: a :: r).reverse[i]'(lt_of_get g1) = a from by have := List.getElem?_eq_getElem (lt_of_get g1); rw [g1] at this; exact (Option.some.inj this).symm] at ca0 ca1
          rw [show (b' :: a :: r).reverse[n]'(lt_of_get g2) = b' from by have := List.getElem?_eq_getElem (lt_of_get g2); rw [g2] at this; exact (Option.some.inj this).symm] at cb0 cb1
          obtain ⟨cx0, cx1, cx2⟩ := bk3c KX2.out
          have j1 : IntKind.i64.wrap ((m : Int) - 2) = (i : Int) := by rw [IntWalk.i64_in _ (by omega)]; omega
          have j2 : IntKind.i64.wrap ((m : Int) - 1) = (n : Int) := by rw [IntWalk.i64_in _ (by omega)]; omega
          have j4 : (1 : Int) < (m : Int) := by omega
          have j5 : (0 : Int) ≤ (i : Int) := by omega
          have j6 : (i : Int) < (m : Int) := by omega
          have j7 : (0 : Int) ≤ (n : Int) := by omega
          have j8 : (n : Int) < (m : Int) := by omega
          have HII := Lib.hid hn
          obtain ⟨t, ht⟩ : ∃ t, turnP a b' (x1, x2) = t := ⟨_, rfl⟩
          have HTT := Lib.hid ht
          have CT := Lib.hid (fun W => i_turn a b' (x1, x2) (HBD.out a (HM.out a (by simp))) (HBD.out b' (HM.out b' (by simp))) HXB.out W)
          obtain ⟨a1, a2⟩ := a
          obtain ⟨d1, d2⟩ := b'
          simp only at ca0 ca1 cb0 cb1
          have hbr : Below w2.heap.size w2 w2 := Below.refl _ _
          have j9 : decide ((1 : Int) < (m : Int)) = true := decide_eq_true j4
          clear g1 g2 e2 hi hn ht hl hrl
          go_wp2_with fail
          go_region_held3 (fun w' => w'.cell? ⟨b1, i * 3, none⟩ = some (.int .i64 a1) ∧ w'.cell? ⟨b1, i * 3 + 1, none⟩ = some (.int .i64 a2) ∧ w'.cell? ⟨b1, i * 3 + 2, none⟩ = some (.int .i64 0) ∧ w'.cell? ⟨b1, n * 3, none⟩ = some (.int .i64 d1) ∧ w'.cell? ⟨b1, n * 3 + 1, none⟩ = some (.int .i64 d2) ∧ w'.cell? ⟨b1, n * 3 + 2, none⟩ = some (.int .i64 0) ∧ w'.cell? ⟨wk.heap.size, 0, none⟩ = some (.int .i64 x1) ∧ w'.cell? ⟨wk.heap.size, 1, none⟩ = some (.int .i64 x2) ∧ w'.cell? ⟨wk.heap.size, 2, none⟩ = some (.int .i64 0) ∧ Below w2.heap.size w2 w')
            (first
              | with_reducible exact keep9D ca0 ca1 ca2 cb0 cb1 cb2 cx0 cx1 cx2 hbr
              | (go_split_ands; with_reducible exact keep9E hb1l hb1l hb1l hb1l hb1l hb1l hkl hkl hkl (by assumption) (by assumption) (by assumption) (by assumption) (by assumption) (by assumption) (by assumption) (by assumption) (by assumption) (by assumption) (by assumption))
              | go_keep)
            (first | (go_at_call 125; refine (CT.out _).mono ?_; rintro e w3 ⟨rfl, hb3⟩; rw [HTT.out]))
          rename_i hH
          have hB := hH.2.2.2.2.2.2.2.2.2
          have HB3 := Lib.hid (HB2.out.trans (hB.mono HB2.out.size))
          have HO3 := Lib.hid (HO2.out.below hB)
          have KX3 := Lib.hid (KX2.out.below hB)
          clear hH hB hbr ca0 ca1 ca2 cb0 cb1 cb2 cx0 cx1 cx2 hb1l
          by_cases ht : t ≤ 0
          · have j11 : (n : Int) ≤ (gc : Int) := by omega
            go_wp2
            have hcut := HO3.out.cut encP_len (m := n) (by rw [List.length_reverse, HM9.out]; have := HII.out; omega)
            have e5 : ((d1, d2) :: (a1, a2) :: r).reverse.take n = ((a1, a2) :: r).reverse := by
              have h1 := HM9.out
              have h2 := HII.out
              simp only [List.length_cons] at h1
              rw [List.reverse_cons, List.take_append_of_le_length (by simp; omega), List.take_of_length_le (by simp; omega)]
            rw [e5] at hcut
            refine ⟨⟨(a1, a2) :: r, hcut, ?_, by have := HL2.out; simp only [List.length_cons] at this ⊢; omega, fun p hp => HM.out p (List.mem_cons_of_mem _ hp), KX3.out, HB3.out⟩, by simp [slen]; have := HII.out; omega⟩
            rw [← HP.out, popR, if_pos (by rw [HTT.out]; exact ht)]
          · have HPX := Lib.hid (show popR ((d1, d2) :: (a1, a2) :: r) (x1, x2) = (d1, d2) :: (a1, a2) :: r by rw [popR, if_neg (by rw [HTT.out]; exact ht)])
            obtain ⟨l, hl9⟩ : ∃ l, (d1, d2) :: (a1, a2) :: r = l := ⟨_, rfl⟩
            rw [hl9] at HP HO3 HPX HM9 HL2
            clear hl9
            obtain ⟨cx0, cx1, cx2⟩ := bk3c KX3.out
            go_wp2_with (at_builtin; go_must (refine list_app_np rfl _ _ rfl w.heap.size wk.heap.size (.slice (some ⟨b1, 0, none⟩) m gc) l.reverse (x1, x2) rfl (HO3.out.below (below1 _ _)) _ rfl (heap_alloc_new _ _) (by have := HL2.out; rw [List.length_reverse]; omega) (by have := HB3.out.size; simp; omega) ?_; intro g8 c8 w8 ho8 hb8))
            have HO8 := Lib.hid ho8
            have B8 := Lib.hid (show Below w.heap.size w w8 from (HB3.out.trans ((below1 _ _).mono HB3.out.size)).trans ((Below.refl w.heap.size _).grown hb8 (by have := HB3.out.size; simp; omega) (fun q hq => (HO3.out.1.lt q hq).1)))
            clear ho8 hb8
            go_wp2
            refine ⟨⟨k + 1, by omega, by go_num, ?_, B8.out⟩, by simp [RowKit.intOf]; omega⟩
            have h := HO8.out
            rw [List.length_reverse, HM9.out] at h
            rw [bendR_take hlt, HXE.out, ← HP.out, HPX.out, List.reverse_cons]
            simpa [HM9.out] using h
        · have HPX := Lib.hid (show popR l (x1, x2) = l from by
            match l, HM9.out with
            | [], _ => rfl
            | [_], _ => rfl
            | _ :: _ :: _, h => simp at h; omega)
          have j4 : ¬ (1 : Int) < (m : Int) := by omega
          have j9 : decide ((1 : Int) < (m : Int)) = false := decide_eq_false j4
          clear hl
          go_wp2_with fail
          go_quiet (fail)
          refine egen ?_
          intro w4 hw4
          have b4 : Below w2.heap.size w2 w4 := by rw [hw4]; exact below_drewN' (Below.refl _ _) _
          have HB4 := Lib.hid (HB2.out.trans (b4.mono HB2.out.size))
          have HO4 := Lib.hid (HO2.out.below b4)
          have KX4 := Lib.hid (KX2.out.below b4)
          clear hw4 b4 hkl
          obtain ⟨cx0, cx1, cx2⟩ := bk3c KX4.out
          go_wp2_with (at_builtin; go_must (refine list_app_np rfl _ _ rfl w.heap.size wk.heap.size (.slice ga m gc) l.reverse (x1, x2) rfl (HO4.out.below (below1 _ _)) _ rfl (heap_alloc_new _ _) (by have := HL2.out; rw [List.length_reverse]; omega) (by have := HB4.out.size; simp; omega) ?_; intro g8 c8 w8 ho8 hb8))
          have HO8 := Lib.hid ho8
          have B8 := Lib.hid (show Below w.heap.size w w8 from (HB4.out.trans ((below1 _ _).mono HB4.out.size)).trans ((Below.refl w.heap.size _).grown hb8 (by have := HB4.out.size; simp; omega) (fun q hq => (HO4.out.1.lt q hq).1)))
          clear ho8 hb8
          go_wp2
          refine ⟨⟨k + 1, by omega, by go_num, ?_, B8.out⟩, by simp [RowKit.intOf]; omega⟩
          have h := HO8.out
          rw [List.length_reverse, HM9.out] at h
          rw [bendR_take hlt, HXE.out, ← HP.out, HPX.out, List.reverse_cons]
          simpa [HM9.out] using h
    · obtain rfl : k = ps.length := by omega
      rw [List.take_length] at HKO hoc ⊢
      have HD := Lib.hid (show bendL ps = ((bendR ps).tail).reverse from rfl)
      obtain ⟨m, hm⟩ : ∃ m, (bendR ps).length = m := ⟨_, rfl⟩
      rw [hm] at HKO hoc ⊢
      have HM := Lib.hid hm
      clear hm
      by_cases h0 : 0 < m
      · obtain ⟨n, hn⟩ : ∃ n, n + 1 = m := ⟨m - 1, by omega⟩
        have HN := Lib.hid hn
        obtain ⟨b, rfl, -⟩ := HKO.out.at3 0 (by rw [List.length_reverse, HM.out]; omega) rfl
        have hcut := HKO.out.cut encP_len (m := n) (by rw [List.length_reverse, HM.out]; have := HN.out; omega)
        have e5 : (bendR ps).reverse.take n = bendL ps := by
          have h1 := HM.out
          have h2 := HN.out
          rw [HD.out]
          match hq : bendR ps with
          | [] => rw [hq] at h1; simp at h1; omega
          | y :: t =>
            rw [hq] at h1
            simp only [List.length_cons] at h1
            rw [List.tail_cons, List.reverse_cons, List.take_append_of_le_length (by simp; omega), List.take_of_length_le (by simp; omega)]
        rw [e5] at hcut
        have HCUT := Lib.hid hcut
        have j1 : IntKind.i64.wrap ((m : Int) - 1) = (n : Int) := by rw [IntWalk.i64_in _ (by omega)]; omega
        clear hcut e5
        by_cases hn0 : 0 < n
        · have j2 : (0 : Int) < (n : Int) := by omega
          have j5 : (0 : Int) ≤ (n : Int) := by omega
          have j6 : (n : Int) ≤ (oc : Int) := by omega
          clear hn
          go_wp2
          go_ret
          exact ⟨⟨_, rfl, HCUT.out⟩, HKB.out⟩
        · obtain rfl : n = 0 := by omega
          have j6 : (0 : Int) ≤ (oc : Int) := by omega
          clear hn
          go_wp2
          go_ret
          exact ⟨⟨_, rfl, HCUT.out⟩, HKB.out⟩
      · obtain rfl : m = 0 := by omega
        have HE := Lib.hid (show bendL ps = [] by rw [HD.out, List.eq_nil_of_length_eq_zero HM.out]; rfl)
        have ho := HKO.out
        rw [List.eq_nil_of_length_eq_zero HM.out] at ho
        have j1 : IntKind.i64.wrap (((0 : Nat) : Int) - 1) = -1 := by rw [IntWalk.i64_in _ (by omega)]; omega
        have j3 : IntKind.i64.wrap (-1) = -1 := by rw [IntWalk.i64_in _ (by omega)]
        rcases ho.1.2 with ⟨h, -⟩ | ⟨g, cp, cr, h, -⟩
        · simp only [Value.slice.injEq] at h
          obtain ⟨rfl, -, rfl⟩ := h
          have HO := Lib.hid ho
          clear ho
          go_wp2
          go_ret
          exact ⟨⟨_, rfl, by rw [HE.out]; exact HO.out⟩, HKB.out⟩
        · simp only [Value.slice.injEq] at h
          obtain ⟨rfl, -, rfl⟩ := h
          have HO := Lib.hid ho
          clear ho
          go_wp2
          go_ret
          exact ⟨⟨_, rfl, by rw [HE.out]; exact HO.out⟩, HKB.out⟩
end Go.Proofs.Ytoekgcafhcamjaa
/- The program's vectorsOf: the first numbers of each element as new rows. -/
namespace Go.Proofs.Ytoekgcafhcamjaa
open Go Go.RowKit Go.Lib

/-- Three numbers. -/
abbrev T3 := Int × Int × Int
def rowT (t : T3) : List Int := [t.1, t.2.1, t.2.2]
/-- A slice of arrays of three numbers reads as a list of triples. -/
def Rd3 (w : World) (v : Value) (l : List T3) : Prop :=
  ∃ (a : Option Addr) (c : Nat), v = .slice a l.length c ∧ l.length ≤ c ∧ c ≤ maxLen ∧ ∀ (j : Nat) (hj : j < l.length), ∃ b o : Nat, a = some ⟨b, o, none⟩ ∧ b < w.heap.size ∧
    w.cell? ⟨b, o + j * 3, none⟩ = some (.int .i64 l[j].1) ∧ w.cell? ⟨b, o + j * 3 + 1, none⟩ = some (.int .i64 l[j].2.1) ∧ w.cell? ⟨b, o + j * 3 + 2, none⟩ = some (.int .i64 l[j].2.2)
theorem Rd3.below {w w' : World} {v : Value} {l : List T3} (h : Rd3 w v l) (hb : Below w.heap.size w w') : Rd3 w' v l := by
  obtain ⟨a, c, h1, h2, h3, h4⟩ := h
  refine ⟨a, c, h1, h2, h3, fun j hj => ?_⟩
  obtain ⟨b, o, e, hl, k0, k1, k2⟩ := h4 j hj
  exact ⟨b, o, e, Nat.lt_of_lt_of_le hl hb.size, (hb.cell (p := ⟨b, o + j * 3, none⟩) hl).trans k0, (hb.cell (p := ⟨b, o + j * 3 + 1, none⟩) hl).trans k1, (hb.cell (p := ⟨b, o + j * 3 + 2, none⟩) hl).trans k2⟩
theorem owr_made3 {T e : TypeId} {base : Nat} {w : World} {v : Value} {n : Nat} (h : w.ownsRow base T 1 v n (List.replicate n (.slice none 0 0))) : OwR T e base w.heap.size w v (List.replicate n []) := by
  have key : ∀ (i : Nat) (u : Value), (List.replicate n (Value.slice none 0 0))[i]? = some u → u = .slice none 0 0 := fun i u hu => by
    rw [List.getElem?_replicate] at hu
    split at hu
    · exact (Option.some.inj hu).symm
    · cases hu
  refine ⟨List.replicate n (.slice none 0 0), by simp, OwnV.of_owns h, ?_, ?_, ?_⟩
  · intro i u zs hu hz
    have hz2 : zs = [] := by
      rw [List.getElem?_replicate] at hz
      split at hz
      · exact (Option.some.inj hz).symm
      · cases hz
    rw [key i u hu, hz2]
    exact OwnV.nil
  · intro i j u u' b _ hu _ hub
    rw [key i u hu] at hub
    cases hub
  · intro i u b hu hub
    rw [key i u hu] at hub
    cases hub
theorem made_nils3 (n : Nat) : (madeCells #[Value.slice none 0 0] (n * 1)).toList = List.replicate n (.slice none 0 0) := by
  refine List.ext_getElem? fun i => ?_
  unfold madeCells
  rw [Array.getElem?_toList, Array.getElem?_map, List.getElem?_replicate]
  by_cases hi : i < n
  · simp [hi]
    rw [show i % 1 = 0 by omega]
    rfl
  · simp [hi]
/-- The first n numbers of each. -/
def cutT (n : Nat) (l : List T3) : List (List Int) := l.map fun t => (rowT t).take n
/-- The first k are there, the others nil. -/
def fillT (n : Nat) (l : List T3) (k : Nat) : List (List Int) := cutT n (l.take k) ++ List.replicate (l.length - k) []
theorem fillT_zero (n : Nat) (l : List T3) : fillT n l 0 = List.replicate l.length [] := by simp [fillT, cutT]
theorem fillT_all (n : Nat) (l : List T3) : fillT n l l.length = cutT n l := by simp [fillT]
theorem fillT_len (n : Nat) (l : List T3) (k : Nat) (h : k ≤ l.length) : (fillT n l k).length = l.length := by simp [fillT, cutT]; omega
theorem fillT_step (n : Nat) (l : List T3) (k : Nat) (h : k < l.length) : (fillT n l k).set k ((rowT l[k]).take n) = fillT n l (k + 1) := by
  unfold fillT cutT
  rw [List.set_append_right _ _ (by simp; omega), List.length_map, List.length_take, Nat.min_eq_left (by omega), Nat.sub_self]
  rw [show l.length - k = (l.length - (k + 1)) + 1 by omega, List.replicate_succ, List.set_cons_zero, List.take_succ_eq_append_getElem h, List.map_append]
  simp
theorem bk3t {w : World} {b : Nat} {x y z : Value} {T : TypeId} (h : Bk w b #[x, y, z] T) : w.cell? ⟨b, 0, none⟩ = some x ∧ w.cell? ⟨b, 1, none⟩ = some y ∧ w.cell? ⟨b, 2, none⟩ = some z := ⟨h.cell 0 rfl, h.cell 1 rfl, h.cell 2 rfl⟩
theorem sl_cut1 {w : World} {B : Nat} {x y z : Int} {T : TypeId} (hb : Bk w B #[.int .i64 x, .int .i64 y, .int .i64 z] T) : Sl w (.slice (some ⟨B, 0, none⟩) 1 3) (intVals [x]) := by
  obtain ⟨h0, h1, h2⟩ := bk3t hb
  refine .inr ⟨by simp [intVals], B, 0, 3, by simp [intVals], by simp [intVals], by simp [intVals, maxLen], hb.lt, fun i u hi => ?_⟩
  match i, hi with
  | 0, hi => obtain rfl := Option.some.inj hi; exact h0
  | _ + 1, hi => simp [intVals] at hi
set_option maxRecDepth 100000 in
set_option maxHeartbeats 1600000 in
theorem i_vecs1 (l : List T3) (hlen : l.length ≤ 1048576) (v : Value) (w : World) (hv : Rd3 w v l) :
    Calls Try.prog 61 #[v, .int .i64 1] w (MadeR w (cutT 1 l)) := by
  obtain ⟨a, c, rfl, hvc, hvm, hvr⟩ := hv
  have HV := Lib.hid hvr
  unfold maxLen at hvm
  obtain ⟨i0, hi', hz0, hz1, hz2⟩ := info_parts info_row
  clear hvr
  go_enter Try.func61, Try.ntmps61
  go_wp2_with (at_make; refine wpList_make_full _ rfl _ _ 28 rfl w.heap.size 24 i0 _ 1 Try.underlying28 hi' hz0 hz1 .i64 .i64 _ _ l.length rfl rfl rfl rfl (by rw [hz2]; omega) (by unfold maxLen; omega) (by simp) ?_; intro w1 hown hgrow; have hbel : Below w.heap.size w w1 := (Below.refl _ _).grown hgrow (Nat.le_refl _) (fun q hq => by cases hq))
  rw [show (Value.slice none 0 0).cells = #[Value.slice none 0 0] from rfl, made_nils3] at hown
  have O1 := Lib.hid (show OwR 24 3 w.heap.size w1.heap.size w1 (.slice (some ⟨w.heap.size, 0, none⟩) l.length l.length) (fillT 1 l 0) by rw [fillT_zero]; exact owr_made3 hown)
  have B1 := Lib.hid hbel
  clear hown hgrow hbel hi' hz0 hz1 hz2
  go_loopw [13] (fun i wr => ∃ k : Nat, k ≤ l.length ∧ i = .int .i64 k ∧ OwR 24 3 w.heap.size wr.heap.size wr (.slice (some ⟨w.heap.size, 0, none⟩) l.length l.length) (fillT 1 l k) ∧ Below w.heap.size w wr) (fun i _ => l.length - (RowKit.intOf i).toNat)
  case atStart => exact ⟨0, Nat.zero_le _, rfl, O1.out, B1.out⟩
  case round =>
    obtain ⟨k, hk, rfl, ho, hb⟩ := hrel
    have HO := Lib.hid ho
    have HB := Lib.hid hb
    clear ho hb
    by_cases hlt : k < l.length
    · have i1 : (0 : Int) ≤ (k : Int) := by omega
      have i2 : (k : Int) < (l.length : Int) := by omega
      obtain ⟨b, o, rfl, hb2, q0, q1, q2⟩ := HV.out k hlt
      rw [← HB.out.cell (p := ⟨b, o + k * 3, none⟩) hb2] at q0
      rw [← HB.out.cell (p := ⟨b, o + k * 3 + 1, none⟩) hb2] at q1
      rw [← HB.out.cell (p := ⟨b, o + k * 3 + 2, none⟩) hb2] at q2
      have FS := Lib.hid (fillT_step 1 l k hlt)
      have FL := Lib.hid (fillT_len 1 l k hk)
      obtain ⟨x, hx⟩ : ∃ x, l[k] = x := ⟨_, rfl⟩
      rw [hx] at q0 q1 q2 FS
      obtain ⟨x1, x2, x3⟩ := x
      simp only at q0 q1 q2
      rw [show (rowT (x1, x2, x3)).take 1 = [x1] from rfl] at FS
      clear hx
      have KX := Lib.hid (Bk.new wr #[.int .i64 x1, .int .i64 x2, .int .i64 x3] 65)
      have BX := Lib.hid (below1 wr (.cells #[.int .i64 x1, .int .i64 x2, .int .i64 x3] 65))
      have hw : w.heap.size ≤ wr.heap.size := HB.out.size
      go_wp2_with fail
      refine (i_clone [x1] _ 1 3 _ (by simp) (by simp) (sl_cut1 KX.out)).mono ?_
      rintro e w2 ⟨⟨u, rfl, hu⟩, hb2'⟩
      obtain ⟨ga, gc, rfl, _, _⟩ := hu.form (by simp [intVals])
      rw [World.size_alloc] at hu
      have hb3 : Below wr.heap.size wr w2 := BX.out.trans (hb2'.mono BX.out.size)
      have O2 := Lib.hid (OwR.putNew FL.out.symm HO.out hb3 hw k (by rw [FL.out]; exact hlt) (hu.mono (by omega) (Nat.le_refl _)))
      rw [FS.out] at O2
      have B3 := Lib.hid ((HB.out.trans (hb3.mono hw)).setCell (p := ⟨w.heap.size, k, none⟩) (Nat.le_refl _) (.slice (some ⟨ga, 0, none⟩) (intVals [x1]).length gc))
      obtain ⟨b4, u4, e4, _, _, _, hc, hf, _⟩ := (HO.out.below hb3).at k (by rw [FL.out]; exact hlt) rfl
      simp only [Option.some.injEq, Addr.mk.injEq, and_true] at e4
      subst e4
      clear hu hb2' hb3 q0 q1 q2
      go_wp2
      exact ⟨⟨k + 1, by omega, by go_num, O2.out, B3.out⟩, by simp [RowKit.intOf]; omega⟩
    · obtain rfl : k = l.length := by omega
      have h := HO.out
      rw [fillT_all] at h
      have HE := Lib.hid h
      clear h
      go_wp2
      go_ret
      exact ⟨⟨_, rfl, HE.out⟩, HB.out⟩
theorem sl_cut2 {w : World} {B : Nat} {x y z : Int} {T : TypeId} (hb : Bk w B #[.int .i64 x, .int .i64 y, .int .i64 z] T) : Sl w (.slice (some ⟨B, 0, none⟩) 2 3) (intVals [x, y]) := by
  obtain ⟨h0, h1, h2⟩ := bk3t hb
  refine .inr ⟨by simp [intVals], B, 0, 3, by simp [intVals], by simp [intVals], by simp [intVals, maxLen], hb.lt, fun i u hi => ?_⟩
  match i, hi with
  | 0, hi => obtain rfl := Option.some.inj hi; exact h0
  | 1, hi => obtain rfl := Option.some.inj hi; exact h1
  | _ + 2, hi => simp [intVals] at hi
set_option maxRecDepth 100000 in
set_option maxHeartbeats 1600000 in
theorem i_vecs2 (l : List T3) (hlen : l.length ≤ 1048576) (v : Value) (w : World) (hv : Rd3 w v l) :
    Calls Try.prog 61 #[v, .int .i64 2] w (MadeR w (cutT 2 l)) := by
  obtain ⟨a, c, rfl, hvc, hvm, hvr⟩ := hv
  have HV := Lib.hid hvr
  unfold maxLen at hvm
  obtain ⟨i0, hi', hz0, hz1, hz2⟩ := info_parts info_row
  clear hvr
  go_enter Try.func61, Try.ntmps61
  go_wp2_with (at_make; refine wpList_make_full _ rfl _ _ 28 rfl w.heap.size 24 i0 _ 1 Try.underlying28 hi' hz0 hz1 .i64 .i64 _ _ l.length rfl rfl rfl rfl (by rw [hz2]; omega) (by unfold maxLen; omega) (by simp) ?_; intro w1 hown hgrow; have hbel : Below w.heap.size w w1 := (Below.refl _ _).grown hgrow (Nat.le_refl _) (fun q hq => by cases hq))
  rw [show (Value.slice none 0 0).cells = #[Value.slice none 0 0] from rfl, made_nils3] at hown
  have O1 := Lib.hid (show OwR 24 3 w.heap.size w1.heap.size w1 (.slice (some ⟨w.heap.size, 0, none⟩) l.length l.length) (fillT 2 l 0) by rw [fillT_zero]; exact owr_made3 hown)
  have B1 := Lib.hid hbel
  clear hown hgrow hbel hi' hz0 hz1 hz2
  go_loopw [13] (fun i wr => ∃ k : Nat, k ≤ l.length ∧ i = .int .i64 k ∧ OwR 24 3 w.heap.size wr.heap.size wr (.slice (some ⟨w.heap.size, 0, none⟩) l.length l.length) (fillT 2 l k) ∧ Below w.heap.size w wr) (fun i _ => l.length - (RowKit.intOf i).toNat)
  case atStart => exact ⟨0, Nat.zero_le _, rfl, O1.out, B1.out⟩
  case round =>
    obtain ⟨k, hk, rfl, ho, hb⟩ := hrel
    have HO := Lib.hid ho
    have HB := Lib.hid hb
    clear ho hb
    by_cases hlt : k < l.length
    · have i1 : (0 : Int) ≤ (k : Int) := by omega
      have i2 : (k : Int) < (l.length : Int) := by omega
      obtain ⟨b, o, rfl, hb2, q0, q1, q2⟩ := HV.out k hlt
      rw [← HB.out.cell (p := ⟨b, o + k * 3, none⟩) hb2] at q0
      rw [← HB.out.cell (p := ⟨b, o + k * 3 + 1, none⟩) hb2] at q1
      rw [← HB.out.cell (p := ⟨b, o + k * 3 + 2, none⟩) hb2] at q2
      have FS := Lib.hid (fillT_step 2 l k hlt)
      have FL := Lib.hid (fillT_len 2 l k hk)
      obtain ⟨x, hx⟩ : ∃ x, l[k] = x := ⟨_, rfl⟩
      rw [hx] at q0 q1 q2 FS
      obtain ⟨x1, x2, x3⟩ := x
      simp only at q0 q1 q2
      rw [show (rowT (x1, x2, x3)).take 2 = [x1, x2] from rfl] at FS
      clear hx
      have KX := Lib.hid (Bk.new wr #[.int .i64 x1, .int .i64 x2, .int .i64 x3] 65)
      have BX := Lib.hid (below1 wr (.cells #[.int .i64 x1, .int .i64 x2, .int .i64 x3] 65))
      have hw : w.heap.size ≤ wr.heap.size := HB.out.size
      go_wp2_with fail
      refine (i_clone [x1, x2] _ 2 3 _ (by simp) (by simp) (sl_cut2 KX.out)).mono ?_
      rintro e w2 ⟨⟨u, rfl, hu⟩, hb2'⟩
      obtain ⟨ga, gc, rfl, _, _⟩ := hu.form (by simp [intVals])
      rw [World.size_alloc] at hu
      have hb3 : Below wr.heap.size wr w2 := BX.out.trans (hb2'.mono BX.out.size)
      have O2 := Lib.hid (OwR.putNew FL.out.symm HO.out hb3 hw k (by rw [FL.out]; exact hlt) (hu.mono (by omega) (Nat.le_refl _)))
      rw [FS.out] at O2
      have B3 := Lib.hid ((HB.out.trans (hb3.mono hw)).setCell (p := ⟨w.heap.size, k, none⟩) (Nat.le_refl _) (.slice (some ⟨ga, 0, none⟩) (intVals [x1, x2]).length gc))
      obtain ⟨b4, u4, e4, _, _, _, hc, hf, _⟩ := (HO.out.below hb3).at k (by rw [FL.out]; exact hlt) rfl
      simp only [Option.some.injEq, Addr.mk.injEq, and_true] at e4
      subst e4
      clear hu hb2' hb3 q0 q1 q2
      go_wp2
      exact ⟨⟨k + 1, by omega, by go_num, O2.out, B3.out⟩, by simp [RowKit.intOf]; omega⟩
    · obtain rfl : k = l.length := by omega
      have h := HO.out
      rw [fillT_all] at h
      have HE := Lib.hid h
      clear h
      go_wp2
      go_ret
      exact ⟨⟨_, rfl, HE.out⟩, HB.out⟩
theorem sl_cut3 {w : World} {B : Nat} {x y z : Int} {T : TypeId} (hb : Bk w B #[.int .i64 x, .int .i64 y, .int .i64 z] T) : Sl w (.slice (some ⟨B, 0, none⟩) 3 3) (intVals [x, y, z]) := by
  obtain ⟨h0, h1, h2⟩ := bk3t hb
  refine .inr ⟨by simp [intVals], B, 0, 3, by simp [intVals], by simp [intVals], by simp [intVals, maxLen], hb.lt, fun i u hi => ?_⟩
  match i, hi with
  | 0, hi => obtain rfl := Option.some.inj hi; exact h0
  | 1, hi => obtain rfl := Option.some.inj hi; exact h1
  | 2, hi => obtain rfl := Option.some.inj hi; exact h2
  | _ + 3, hi => simp [intVals] at hi
set_option maxRecDepth 100000 in
set_option maxHeartbeats 1600000 in
theorem i_vecs3 (l : List T3) (hlen : l.length ≤ 1048576) (v : Value) (w : World) (hv : Rd3 w v l) :
    Calls Try.prog 61 #[v, .int .i64 3] w (MadeR w (cutT 3 l)) := by
  obtain ⟨a, c, rfl, hvc, hvm, hvr⟩ := hv
  have HV := Lib.hid hvr
  unfold maxLen at hvm
  obtain ⟨i0, hi', hz0, hz1, hz2⟩ := info_parts info_row
  clear hvr
  go_enter Try.func61, Try.ntmps61
  go_wp2_with (at_make; refine wpList_make_full _ rfl _ _ 28 rfl w.heap.size 24 i0 _ 1 Try.underlying28 hi' hz0 hz1 .i64 .i64 _ _ l.length rfl rfl rfl rfl (by rw [hz2]; omega) (by unfold maxLen; omega) (by simp) ?_; intro w1 hown hgrow; have hbel : Below w.heap.size w w1 := (Below.refl _ _).grown hgrow (Nat.le_refl _) (fun q hq => by cases hq))
  rw [show (Value.slice none 0 0).cells = #[Value.slice none 0 0] from rfl, made_nils3] at hown
  have O1 := Lib.hid (show OwR 24 3 w.heap.size w1.heap.size w1 (.slice (some ⟨w.heap.size, 0, none⟩) l.length l.length) (fillT 3 l 0) by rw [fillT_zero]; exact owr_made3 hown)
  have B1 := Lib.hid hbel
  clear hown hgrow hbel hi' hz0 hz1 hz2
  go_loopw [13] (fun i wr => ∃ k : Nat, k ≤ l.length ∧ i = .int .i64 k ∧ OwR 24 3 w.heap.size wr.heap.size wr (.slice (some ⟨w.heap.size, 0, none⟩) l.length l.length) (fillT 3 l k) ∧ Below w.heap.size w wr) (fun i _ => l.length - (RowKit.intOf i).toNat)
  case atStart => exact ⟨0, Nat.zero_le _, rfl, O1.out, B1.out⟩
  case round =>
    obtain ⟨k, hk, rfl, ho, hb⟩ := hrel
    have HO := Lib.hid ho
    have HB := Lib.hid hb
    clear ho hb
    by_cases hlt : k < l.length
    · have i1 : (0 : Int) ≤ (k : Int) := by omega
      have i2 : (k : Int) < (l.length : Int) := by omega
      obtain ⟨b, o, rfl, hb2, q0, q1, q2⟩ := HV.out k hlt
      rw [← HB.out.cell (p := ⟨b, o + k * 3, none⟩) hb2] at q0
      rw [← HB.out.cell (p := ⟨b, o + k * 3 + 1, none⟩) hb2] at q1
      rw [← HB.out.cell (p := ⟨b, o + k * 3 + 2, none⟩) hb2] at q2
      have FS := Lib.hid (fillT_step 3 l k hlt)
      have FL := Lib.hid (fillT_len 3 l k hk)
      obtain ⟨x, hx⟩ : ∃ x, l[k] = x := ⟨_, rfl⟩
      rw [hx] at q0 q1 q2 FS
      obtain ⟨x1, x2, x3⟩ := x
      simp only at q0 q1 q2
      rw [show (rowT (x1, x2, x3)).take 3 = [x1, x2, x3] from rfl] at FS
      clear hx
      have KX := Lib.hid (Bk.new wr #[.int .i64 x1, .int .i64 x2, .int .i64 x3] 65)
      have BX := Lib.hid (below1 wr (.cells #[.int .i64 x1, .int .i64 x2, .int .i64 x3] 65))
      have hw : w.heap.size ≤ wr.heap.size := HB.out.size
      go_wp2_with fail
      refine (i_clone [x1, x2, x3] _ 3 3 _ (by simp) (by simp) (sl_cut3 KX.out)).mono ?_
      rintro e w2 ⟨⟨u, rfl, hu⟩, hb2'⟩
      obtain ⟨ga, gc, rfl, _, _⟩ := hu.form (by simp [intVals])
      rw [World.size_alloc] at hu
      have hb3 : Below wr.heap.size wr w2 := BX.out.trans (hb2'.mono BX.out.size)
      have O2 := Lib.hid (OwR.putNew FL.out.symm HO.out hb3 hw k (by rw [FL.out]; exact hlt) (hu.mono (by omega) (Nat.le_refl _)))
      rw [FS.out] at O2
      have B3 := Lib.hid ((HB.out.trans (hb3.mono hw)).setCell (p := ⟨w.heap.size, k, none⟩) (Nat.le_refl _) (.slice (some ⟨ga, 0, none⟩) (intVals [x1, x2, x3]).length gc))
      obtain ⟨b4, u4, e4, _, _, _, hc, hf, _⟩ := (HO.out.below hb3).at k (by rw [FL.out]; exact hlt) rfl
      simp only [Option.some.injEq, Addr.mk.injEq, and_true] at e4
      subst e4
      clear hu hb2' hb3 q0 q1 q2
      go_wp2
      exact ⟨⟨k + 1, by omega, by go_num, O2.out, B3.out⟩, by simp [RowKit.intOf]; omega⟩
    · obtain rfl : k = l.length := by omega
      have h := HO.out
      rw [fillT_all] at h
      have HE := Lib.hid h
      clear h
      go_wp2
      go_ret
      exact ⟨⟨_, rfl, HE.out⟩, HB.out⟩
end Go.Proofs.Ytoekgcafhcamjaa
/- Plain facts on the sides of a polygon. -/
namespace Go.Proofs.Ytoekgcafhcamjaa

abbrev S2 := P2 × P2
def sideP (ps : List P2) (k : Nat) : S2 := (ps.getD k (0, 0), ps.getD ((k + 1) % ps.length) (0, 0))
def sidesP (ps : List P2) : List S2 := (List.range ps.length).map (sideP ps)
theorem sidesP_len (ps : List P2) : (sidesP ps).length = ps.length := by simp [sidesP]
theorem sidesP_get (ps : List P2) (k : Nat) (h : k < (sidesP ps).length) : (sidesP ps)[k] = sideP ps k := by simp [sidesP]
def crossS (s : S2) : Int := s.1.1 * s.2.2 - s.1.2 * s.2.1
def stepS (s : S2) : Int := gcdI (s.2.1 - s.1.1) (s.2.2 - s.1.2)
def areaL (l : List S2) : Int := (l.map crossS).sum
def boundL (l : List S2) : Int := (l.map stepS).sum
theorem turn_zero (a b : P2) : turnP (0, 0) a b = crossS (a, b) := by unfold turnP crossS; simp
theorem area_take {l : List S2} {k : Nat} (h : k < l.length) : areaL (l.take (k + 1)) = areaL (l.take k) + crossS l[k] := by
  unfold areaL
  rw [List.take_succ_eq_append_getElem h, List.map_append, List.sum_append]; simp
theorem bound_take {l : List S2} {k : Nat} (h : k < l.length) : boundL (l.take (k + 1)) = boundL (l.take k) + stepS l[k] := by
  unfold boundL
  rw [List.take_succ_eq_append_getElem h, List.map_append, List.sum_append]; simp
/-- All ends within bounds. -/
def BdS (l : List S2) : Prop := ∀ s ∈ l, BdP 50 s.1 ∧ BdP 50 s.2
theorem crossS_bd {s : S2} (h : BdP 50 s.1 ∧ BdP 50 s.2) : -5000 ≤ crossS s ∧ crossS s ≤ 5000 := by
  unfold BdP at h
  have h1 := mul_bd (x := s.1.1) (y := s.2.2) (m := 50) (n := 50) h.1.1.1 h.1.1.2 h.2.2.1 h.2.2.2
  have h2 := mul_bd (x := s.1.2) (y := s.2.1) (m := 50) (n := 50) h.1.2.1 h.1.2.2 h.2.1.1 h.2.1.2
  unfold crossS
  omega
theorem area_bd {l : List S2} (h : BdS l) : ∀ k, k ≤ l.length → -(5000 * (k : Int)) ≤ areaL (l.take k) ∧ areaL (l.take k) ≤ 5000 * (k : Int) := by
  intro k
  induction k with
  | zero => intro _; simp [areaL]
  | succ k ih =>
    intro hk
    have h1 := ih (by omega)
    have h2 := crossS_bd (h l[k] (List.getElem_mem _))
    rw [area_take (by omega)]
    omega
theorem gcdI_le {a b n : Int} (hn : 0 ≤ n) (ha : -n ≤ a ∧ a ≤ n) (hb : -n ≤ b ∧ b ≤ n) : gcdI a b ≤ n := by
  unfold gcdI
  by_cases h : a = 0
  · subst h
    rw [Int.gcd_zero_left]; omega
  · have h1 : Int.gcd a b ∣ a.natAbs := Nat.gcd_dvd_left ..
    have h2 := Nat.le_of_dvd (by omega) h1
    omega
theorem stepS_bd {s : S2} (h : BdP 50 s.1 ∧ BdP 50 s.2) : 0 ≤ stepS s ∧ stepS s ≤ 100 := by
  unfold BdP at h
  unfold stepS
  exact ⟨gcdI_nonneg _ _, gcdI_le (by omega) (by omega) (by omega)⟩
theorem bound_bd {l : List S2} (h : BdS l) : ∀ k, k ≤ l.length → 0 ≤ boundL (l.take k) ∧ boundL (l.take k) ≤ 100 * (k : Int) := by
  intro k
  induction k with
  | zero => intro _; simp [boundL]
  | succ k ih =>
    intro hk
    have h1 := ih (by omega)
    have h2 := stepS_bd (h l[k] (List.getElem_mem _))
    rw [bound_take (by omega)]
    omega
theorem all_two (a b : Int) : allG [a, b] = gcdI a b := by
  show gcdI (gcdI 0 a) b = gcdI a b
  unfold gcdI
  rw [Int.gcd_zero_left]
  simp [Int.gcd]
/-- Where a point lies beside the sides. -/
def sgnI (t : Int) : Int := if t = 0 then 0 else if t < 0 then -1 else 1
def placeL (l : List S2) (x : P2) : Int := l.foldl (fun m s => min m (sgnI (turnP s.1 s.2 x))) 1
theorem place_take {l : List S2} {k : Nat} (x : P2) (h : k < l.length) : placeL (l.take (k + 1)) x = min (placeL (l.take k) x) (sgnI (turnP l[k].1 l[k].2 x)) := by
  unfold placeL
  rw [List.take_succ_eq_append_getElem h, List.foldl_append]; rfl
theorem place_rng (l : List S2) (x : P2) : -1 ≤ placeL l x ∧ placeL l x ≤ 1 := by
  unfold placeL
  have key : ∀ (l : List S2) (m : Int), -1 ≤ m ∧ m ≤ 1 → -1 ≤ l.foldl (fun m s => min m (sgnI (turnP s.1 s.2 x))) m ∧ l.foldl (fun m s => min m (sgnI (turnP s.1 s.2 x))) m ≤ 1 := by
    intro l
    induction l with
    | nil => intro m h; exact h
    | cons s l ih =>
      intro m h
      rw [List.foldl_cons]
      refine ih _ ?_
      unfold sgnI
      split
      · omega
      · split <;> omega
  exact key l 1 (by omega)
theorem place_le (l : List S2) (x : P2) (m : Int) : l.foldl (fun m s => min m (sgnI (turnP s.1 s.2 x))) m ≤ m := by
  induction l generalizing m with
  | nil => exact Int.le_refl _
  | cons s l ih =>
    rw [List.foldl_cons]
    have := ih (min m (sgnI (turnP s.1 s.2 x)))
    omega
theorem place_out {l : List S2} {k : Nat} (x : P2) (h : k < l.length) (ht : turnP l[k].1 l[k].2 x < 0) : placeL l x = -1 := by
  have h1 := place_take x h
  have h2 := place_rng l x
  have h3 : placeL l x ≤ placeL (l.take (k + 1)) x := by
    unfold placeL
    conv => lhs; rw [← List.take_append_drop (k + 1) l, List.foldl_append]
    exact place_le _ x _
  have h4 : sgnI (turnP l[k].1 l[k].2 x) = -1 := by unfold sgnI; rw [if_neg (by omega), if_pos ht]
  rw [h4] at h1
  omega
end Go.Proofs.Ytoekgcafhcamjaa
