/- The model's hull of points in order. -/
import Derived.Test.YtckpifcdlmfabaaPgT
import Derived.Test.YtckpifcdlmfabaaPgR
import Derived.Test.YtckpifcdlmfabaaPgB
import Derived.Test.YtckpifcdlmfabaaPgM
namespace Go.Proofs.Ytckpifcdlmfabaa
open Go.RowKit Go.Lib

/-- What l7Hull leaves. -/
def HullO (w : World) (pts : List P2) (e : Ending) (w' : World) : Prop := (∃ u, e = .returned u ∧ RdO w w.heap.size w' u pts) ∧ Below w.heap.size w w'
/-- The corners of the first p chains. -/
def preL (S : List P2) : Nat → List P2
  | 0 => []
  | 1 => bendL S
  | _ => cornL S
set_option maxRecDepth 100000 in
set_option maxHeartbeats 8000000 in
theorem s_hull (S : List P2) (h1 : 1 ≤ S.length) (h2 : S.length ≤ 200) (hbd : ∀ p ∈ S, BdP 50 p) (v : Value) (w : World) (hv : Rw w v (S.map rowOf)) :
    Calls Try.prog 67 #[v] w (HullO w (cornL S)) := by
  obtain ⟨va, vc, rfl, hvm, hvo⟩ := hv.shape
  have HV := Lib.hid (show ∀ (i : Nat) (hi : i < S.length), ∃ b off : Nat, ∃ u, va = some ⟨b, off, none⟩ ∧ (S.map rowOf).length ≤ vc ∧ b < w.heap.size ∧ w.cell? ⟨b, off + i, none⟩ = some u ∧ Sl w u (intVals (rowOf S[i])) from fun i hi => hvo i _ (by rw [List.getElem?_map, List.getElem?_eq_getElem hi]; rfl))
  rw [List.length_map] at hvm HV ⊢
  unfold maxLen at hvm
  have HBD := Lib.hid hbd
  clear hv hvo hbd
  go_enter Try.func67, Try.ntmps67
  go_wp2
  go_loopw [3, 4] (fun o i wr => ∃ p : Nat, p ≤ 2 ∧ i = .int .i64 p ∧ RdO w w.heap.size wr o (preL S p) ∧ Below w.heap.size w wr) (fun _ i _ => 2 - (RowKit.intOf i).toNat)
  case atStart => exact ⟨0, by omega, rfl, RdO.empty (Nat.le_refl _), below1 _ _⟩
  case round =>
    obtain ⟨p, hp, rfl, ho, hb⟩ := hrel
    rename World => w1
    have HB := Lib.hid hb
    have HO := Lib.hid ho
    obtain ⟨oa, oc, rfl, _, hom⟩ := ho.shape
    unfold maxLen at hom
    clear ho hb
    by_cases hp2 : p < 2
    · have i0 : (p : Int) < 2 := by omega
      obtain ⟨pre, hpre⟩ : ∃ pre, preL S p = pre := ⟨_, rfl⟩
      obtain ⟨L, hL⟩ : ∃ L, (if p = 1 then S.reverse else S) = L := ⟨_, rfl⟩
      have HPN := Lib.hid (show preL S (p + 1) = pre ++ bendL L by
        rcases (by omega : p = 0 ∨ p = 1) with rfl | rfl
        · rw [← hpre, ← hL]; rfl
        · rw [← hpre, ← hL]; rfl)
      have HPL := Lib.hid (show pre.length ≤ 200 by
        rcases (by omega : p = 0 ∨ p = 1) with rfl | rfl
        · rw [← hpre]; simp [preL]
        · rw [← hpre]; have := bendL_len S; simp only [preL]; omega)
      have HLN := Lib.hid (show L.length = S.length by rw [← hL]; split <;> simp)
      have HLS := Lib.hid (show ∀ q ∈ L, q ∈ S by rw [← hL]; split <;> simp)
      have HLD := Lib.hid hL
      rw [hpre] at HO ⊢
      clear hpre hL
      go_wp2_with fail
      go_loopw [3, 6] (fun o i wr => ∃ k : Nat, k ≤ S.length ∧ i = .int .i64 k ∧ RdO w w.heap.size wr o (pre ++ (bendR (L.take k)).reverse) ∧ Below w.heap.size w wr) (fun _ i _ => S.length - (RowKit.intOf i).toNat)
      case atStart => exact ⟨0, Nat.zero_le _, rfl, by simpa [bendR] using HO.out, HB.out⟩
      case round =>
        obtain ⟨k, hk, rfl, ho, hb⟩ := hrel
        rename World => wk
        have HKO := Lib.hid ho
        have HKB := Lib.hid hb
        clear ho hb
        have i1 : (0 : Int) ≤ (k : Int) := by omega
        by_cases hlt : k < S.length
        · have i2 : (k : Int) < (S.length : Int) := by omega
          obtain ⟨b, off, xu0, rfl, hc, hlt2, hcell0, hsx0⟩ := HV.out k hlt
          rw [← HKB.out.cell (p := ⟨b, off + k, none⟩) hlt2] at hcell0
          have hkL : k < L.length := by have := HLN.out; omega
          have HQ := Lib.hid (bend_take_ok (L := L) k)
          by_cases hp1 : p = 1
          · have i10 : ((p : Int) == 1) = true := by rw [hp1]; rfl
            have i12 : decide ((p : Int) = 1) = true := decide_eq_true (by omega)
            have hSr : S.reverse = L := by have := HLD.out; rwa [if_pos hp1] at this
            obtain ⟨b', off', xu, e9, _, _, hcell, hsx⟩ := HV.out (S.length - 1 - k) (by omega)
            simp only [Option.some.injEq, Addr.mk.injEq, and_true] at e9
            obtain ⟨rfl, rfl⟩ := e9
            rw [← HKB.out.cell (p := ⟨b, off + (S.length - 1 - k), none⟩) hlt2] at hcell
            obtain ⟨x, hx⟩ : ∃ x, L[k] = x := ⟨_, rfl⟩
            have hxs : S[S.length - 1 - k] = x := by rw [← hx]; simp only [← hSr, List.getElem_reverse]
            rw [hxs] at hsx
            have HXE := Lib.hid hx
            have HXB := Lib.hid ((HBD.out x (by rw [← hxs]; exact List.getElem_mem _)).wide (m := 1000) (by omega))
            have HX := Lib.hid hsx
            have i3 : IntKind.i64.wrap ((S.length : Int) - 1) = (S.length : Int) - 1 := by rw [IntWalk.i64_in _ (by omega)]
            have i4 : IntKind.i64.wrap ((S.length : Int) - 1 - (k : Int)) = ((S.length - 1 - k : Nat) : Int) := by rw [IntWalk.i64_in _ (by omega)]; omega
            have i5 : (0 : Int) ≤ ((S.length - 1 - k : Nat) : Int) := by omega
            have i6 : ((S.length - 1 - k : Nat) : Int) < (S.length : Int) := by omega
            obtain ⟨ya, yc, rfl, _⟩ := hsx.shape
            clear hx hxs hsx hsx0 hSr hp1
            go_wp2_with fail
            go_loopw [3] (fun o wr => ∃ l : List P2, RdO w w.heap.size wr o (pre ++ l.reverse) ∧ popR l x = popR (bendR (L.take k)) x ∧ l.length ≤ 200 ∧ (∀ p ∈ l, p ∈ S) ∧ Below w.heap.size w wr) (fun o _ => slen o)
            case atStart => exact ⟨_, HKO.out, rfl, by have := HQ.out.2; have := HLN.out; omega, fun p hp => HLS.out p (HQ.out.1 p hp), HKB.out⟩
            case round =>
              obtain ⟨l, ho, hp', hl, hm, hb⟩ := hrel
              rename World => w2
              have HP := Lib.hid hp'
              have HM := Lib.hid hm
              have HO2 := Lib.hid ho
              have HB2 := Lib.hid hb
              have HL2 := Lib.hid hl
              obtain ⟨ga, gc, rfl, hgc, hgm⟩ := ho.shape
              unfold maxLen at hgm
              have hlen : (pre ++ l.reverse).length = pre.length + l.length := by simp
              obtain ⟨m, hm9⟩ : ∃ m, (pre ++ l.reverse).length = m := ⟨_, rfl⟩
              rw [hm9] at HO2 hgc hlen ⊢
              have HLN2 := Lib.hid hlen
              have HM9 := Lib.hid hm9
              clear hp' hm ho hb hm9 hcell0 hcell
              by_cases h2 : 2 ≤ l.length
              · obtain ⟨b', a, r, rfl⟩ : ∃ b a r, l = b :: a :: r := by
                  match l, h2 with
                  | b :: a :: r, _ => exact ⟨b, a, r, rfl⟩
                  | [_], h => simp at h
                  | [], h => simp at h
                simp only [List.length_cons] at hlen hl
                have g1 : (pre ++ (b' :: a :: r).reverse)[m - 2]? = some a := by
                  simp only [List.reverse_cons, List.append_assoc]
                  rw [List.getElem?_append_right (by omega), List.getElem?_append_right (by simp; omega)]
                  simp only [List.length_reverse]
                  rw [show m - 2 - pre.length - r.length = 0 by omega]; rfl
                have g2 : (pre ++ (b' :: a :: r).reverse)[m - 1]? = some b' := by
                  simp only [List.reverse_cons, List.append_assoc]
                  rw [List.getElem?_append_right (by omega), List.getElem?_append_right (by simp; omega)]
                  simp only [List.length_reverse]
                  rw [show m - 1 - pre.length - r.length = 1 by omega]; rfl
                obtain ⟨b1, xa, rfl, q1, q2, hca, hsa⟩ := HO2.out.at (m - 2) (lt_of_get g1)
                obtain ⟨b2, xb, e2, _, _, hcb, hsb⟩ := HO2.out.at (m - 1) (lt_of_get g2)
                obtain rfl : b1 = b2 := by simpa using e2
                rw [show (pre ++ (b' :: a :: r).reverse)[m - 2]'(lt_of_get g1) = a from by have := List.getElem?_eq_getElem (lt_of_get g1); rw [g1] at this; exact (Option.some.inj this).symm] at hsa
                rw [show (pre ++ (b' :: a :: r).reverse)[m - 1]'(lt_of_get g2) = b' from by have := List.getElem?_eq_getElem (lt_of_get g2); rw [g2] at this; exact (Option.some.inj this).symm] at hsb
                have HSA := Lib.hid hsa
                have HSB := Lib.hid hsb
                obtain ⟨i, hi⟩ : ∃ i, i + 2 = m := ⟨m - 2, by omega⟩
                obtain ⟨n, hn⟩ : ∃ n, n + 1 = m := ⟨m - 1, by omega⟩
                rw [show m - 2 = i by omega] at hca
                rw [show m - 1 = n by omega] at hcb
                have hpl := HPL.out
                have j1 : IntKind.i64.wrap ((m : Int) - 2) = (i : Int) := by rw [IntWalk.i64_in _ (by omega)]; omega
                have j2 : IntKind.i64.wrap ((m : Int) - 1) = (n : Int) := by rw [IntWalk.i64_in _ (by omega)]; omega
                have j3 : IntKind.i64.wrap ((pre.length : Int) + 2) = (pre.length : Int) + 2 := by rw [IntWalk.i64_in _ (by omega)]
                have j4 : (pre.length : Int) + 2 ≤ (m : Int) := by omega
                have j5 : (0 : Int) ≤ (i : Int) := by omega
                have j6 : (i : Int) < (m : Int) := by omega
                have j7 : (0 : Int) ≤ (n : Int) := by omega
                have j8 : (n : Int) < (m : Int) := by omega
                have HII := Lib.hid hn
                obtain ⟨t, ht⟩ : ∃ t, turnP a b' x = t := ⟨_, rfl⟩
                have HTT := Lib.hid ht
                have hbr : Below w2.heap.size w2 w2 := Below.refl _ _
                have hb1l : b1 < w2.heap.size := q2
                clear g1 g2 hsa hsb e2 q1 q2 hi hn ht hlen h2 hl hpl
                go_wp2_with fail
                go_region_held3 (fun w' => w'.cell? ⟨b1, i, none⟩ = some xa ∧ w'.cell? ⟨b1, n, none⟩ = some xb ∧ Below w2.heap.size w2 w')
                  (first
                    | with_reducible exact keepP2 hca hcb hbr
                    | (go_split_ands; with_reducible exact keepQ2 hb1l hb1l (by assumption) (by assumption) (by assumption) (by assumption))
                    | go_keep)
                  (first | (go_at_call 111; refine (s_turn7 a b' x (HBD.out a (HM.out a (by simp))) (HBD.out b' (HM.out b' (by simp))) HXB.out _ _ _ _ (HSA.out.below HB2.out.drew) (HSB.out.below HB2.out.drew) (HX.out.below HB2.out.drew)).mono ?_; rintro e w3 ⟨rfl, hb3⟩; rw [HTT.out]))
                rename_i hH
                have HB3 := Lib.hid (HB2.out.trans (hH.2.2.mono HB2.out.size))
                have HO3 := Lib.hid (HO2.out.below hH.2.2)
                clear hH hbr hca hcb hb1l
                by_cases ht : t ≤ 0
                · have j11 : (n : Int) ≤ (gc : Int) := by omega
                  go_wp2
                  have hcut := HO3.out.cut (m := n) (by rw [HM9.out]; have := HII.out; omega)
                  have e5 : (pre ++ (b' :: a :: r).reverse).take n = pre ++ (a :: r).reverse := by
                    have h1 := HLN2.out
                    have h2 := HII.out
                    simp only [List.length_cons] at h1
                    rw [List.reverse_cons, ← List.append_assoc, List.take_append_of_le_length (by simp; omega), List.take_of_length_le (by simp; omega)]
                  rw [e5] at hcut
                  refine ⟨⟨a :: r, hcut, ?_, by have := HL2.out; simp only [List.length_cons] at this ⊢; omega, fun p hp => HM.out p (List.mem_cons_of_mem _ hp), HB3.out⟩, by simp [slen]; have := HII.out; omega⟩
                  rw [← HP.out, popR, if_pos (by rw [HTT.out]; exact ht)]
                · have HPX := Lib.hid (show popR (b' :: a :: r) x = b' :: a :: r by rw [popR, if_neg (by rw [HTT.out]; exact ht)])
                  obtain ⟨l, hl9⟩ : ∃ l, b' :: a :: r = l := ⟨_, rfl⟩
                  rw [hl9] at HP HO3 HPX HM9 HLN2 HL2
                  clear hl9
                  have hkl := HLN.out
                  go_wp2_with (at_builtin; go_must (refine list_app_pt rfl _ _ rfl w w.heap.size (.slice (some ⟨b1, 0, none⟩) m gc) _ (pre ++ l.reverse) x rfl (HO3.out.below (below1 _ _)) HX.out _ rfl (heap_alloc_new _ _) (by have := HM9.out; have := HLN2.out; have := HL2.out; have := HPL.out; omega) (by have := HB3.out.size; simp; omega) ?_; intro g8 c8 w8 ho8 hb8))
                  have HO8 := Lib.hid ho8
                  have HB8 := Lib.hid ((HB3.out.trans ((below1 _ _).mono HB3.out.size)).trans hb8)
                  clear ho8 hb8
                  go_wp2
                  refine ⟨⟨k + 1, by omega, by go_num, ?_, HB8.out⟩, by simp [RowKit.intOf]; omega⟩
                  have h := HO8.out
                  simp only [List.length_append, List.length_reverse] at h
                  rw [bendR_take hkL, HXE.out, ← HP.out, HPX.out, List.reverse_cons, ← List.append_assoc]
                  exact h
              · have HPX := Lib.hid (show popR l x = l from by
                  match l, h2 with
                  | [], _ => rfl
                  | [_], _ => rfl
                  | _ :: _ :: _, h => simp at h)
                have hpl := HPL.out
                have j3 : IntKind.i64.wrap ((pre.length : Int) + 2) = (pre.length : Int) + 2 := by rw [IntWalk.i64_in _ (by omega)]
                have j4 : decide ((pre.length : Int) + 2 ≤ (m : Int)) = false := decide_eq_false (by omega)
                have HO3 := HO2
                have HB3 := HB2
                clear h2 hlen hl hpl
                go_wp2_with fail
                go_quiet (fail)
                refine egen ?_
                intro w4 hw4
                have HB4 := Lib.hid (show Below w.heap.size w w4 by rw [hw4]; exact below_drewN' HB3.out _)
                have HO4 := Lib.hid (show RdO w w.heap.size w4 (.slice ga m gc) (pre ++ l.reverse) by rw [hw4]; exact HO3.out.below (below_drewN' (Below.refl _ _) _))
                clear hw4 HB3 HO3
                have hkl := HLN.out
                go_wp2_with (at_builtin; go_must (refine list_app_pt rfl _ _ rfl w w.heap.size (.slice ga m gc) _ (pre ++ l.reverse) x rfl (HO4.out.below (below1 _ _)) HX.out _ rfl (heap_alloc_new _ _) (by have := HM9.out; have := HLN2.out; have := HL2.out; have := HPL.out; omega) (by have := HB4.out.size; simp; omega) ?_; intro g8 c8 w8 ho8 hb8))
                have HO8 := Lib.hid ho8
                have HB8 := Lib.hid ((HB4.out.trans ((below1 _ _).mono HB4.out.size)).trans hb8)
                clear ho8 hb8
                go_wp2
                refine ⟨⟨k + 1, by omega, by go_num, ?_, HB8.out⟩, by simp [RowKit.intOf]; omega⟩
                have h := HO8.out
                simp only [List.length_append, List.length_reverse] at h
                rw [bendR_take hkL, HXE.out, ← HP.out, HPX.out, List.reverse_cons, ← List.append_assoc]
                exact h
          · have i9 : ¬ (p : Int) = 1 := by omega
            have i10 : ((p : Int) == 1) = false := beq_eq_false_iff_ne.2 i9
            have i12 : decide ((p : Int) = 1) = false := decide_eq_false i9
            have hSr : S = L := by have := HLD.out; rwa [if_neg hp1] at this
            obtain ⟨x, hx⟩ : ∃ x, L[k] = x := ⟨_, rfl⟩
            have hxs : S[k] = x := by rw [← hx]; simp only [← hSr]
            rw [hxs] at hsx0
            have HXE := Lib.hid hx
            have HXB := Lib.hid ((HBD.out x (by rw [← hxs]; exact List.getElem_mem _)).wide (m := 1000) (by omega))
            have HX := Lib.hid hsx0
            obtain ⟨ya, yc, rfl, _⟩ := hsx0.shape
            clear hx hxs hsx0 hSr hp1
            go_wp2_with fail
            go_loopw [3] (fun o wr => ∃ l : List P2, RdO w w.heap.size wr o (pre ++ l.reverse) ∧ popR l x = popR (bendR (L.take k)) x ∧ l.length ≤ 200 ∧ (∀ p ∈ l, p ∈ S) ∧ Below w.heap.size w wr) (fun o _ => slen o)
            case atStart => exact ⟨_, HKO.out, rfl, by have := HQ.out.2; have := HLN.out; omega, fun p hp => HLS.out p (HQ.out.1 p hp), HKB.out⟩
            case round =>
              obtain ⟨l, ho, hp', hl, hm, hb⟩ := hrel
              rename World => w2
              have HP := Lib.hid hp'
              have HM := Lib.hid hm
              have HO2 := Lib.hid ho
              have HB2 := Lib.hid hb
              have HL2 := Lib.hid hl
              obtain ⟨ga, gc, rfl, hgc, hgm⟩ := ho.shape
              unfold maxLen at hgm
              have hlen : (pre ++ l.reverse).length = pre.length + l.length := by simp
              obtain ⟨m, hm9⟩ : ∃ m, (pre ++ l.reverse).length = m := ⟨_, rfl⟩
              rw [hm9] at HO2 hgc hlen ⊢
              have HLN2 := Lib.hid hlen
              have HM9 := Lib.hid hm9
              clear hp' hm ho hb hm9 hcell0 
              by_cases h2 : 2 ≤ l.length
              · obtain ⟨b', a, r, rfl⟩ : ∃ b a r, l = b :: a :: r := by
                  match l, h2 with
                  | b :: a :: r, _ => exact ⟨b, a, r, rfl⟩
                  | [_], h => simp at h
                  | [], h => simp at h
                simp only [List.length_cons] at hlen hl
                have g1 : (pre ++ (b' :: a :: r).reverse)[m - 2]? = some a := by
                  simp only [List.reverse_cons, List.append_assoc]
                  rw [List.getElem?_append_right (by omega), List.getElem?_append_right (by simp; omega)]
                  simp only [List.length_reverse]
                  rw [show m - 2 - pre.length - r.length = 0 by omega]; rfl
                have g2 : (pre ++ (b' :: a :: r).reverse)[m - 1]? = some b' := by
                  simp only [List.reverse_cons, List.append_assoc]
                  rw [List.getElem?_append_right (by omega), List.getElem?_append_right (by simp; omega)]
                  simp only [List.length_reverse]
                  rw [show m - 1 - pre.length - r.length = 1 by omega]; rfl
                obtain ⟨b1, xa, rfl, q1, q2, hca, hsa⟩ := HO2.out.at (m - 2) (lt_of_get g1)
                obtain ⟨b2, xb, e2, _, _, hcb, hsb⟩ := HO2.out.at (m - 1) (lt_of_get g2)
                obtain rfl : b1 = b2 := by simpa using e2
                rw [show (pre ++ (b' :: a :: r).reverse)[m - 2]'(lt_of_get g1) = a from by have := List.getElem?_eq_getElem (lt_of_get g1); rw [g1] at this; exact (Option.some.inj this).symm] at hsa
                rw [show (pre ++ (b' :: a :: r).reverse)[m - 1]'(lt_of_get g2) = b' from by have := List.getElem?_eq_getElem (lt_of_get g2); rw [g2] at this; exact (Option.some.inj this).symm] at hsb
                have HSA := Lib.hid hsa
                have HSB := Lib.hid hsb
                obtain ⟨i, hi⟩ : ∃ i, i + 2 = m := ⟨m - 2, by omega⟩
                obtain ⟨n, hn⟩ : ∃ n, n + 1 = m := ⟨m - 1, by omega⟩
                rw [show m - 2 = i by omega] at hca
                rw [show m - 1 = n by omega] at hcb
                have hpl := HPL.out
                have j1 : IntKind.i64.wrap ((m : Int) - 2) = (i : Int) := by rw [IntWalk.i64_in _ (by omega)]; omega
                have j2 : IntKind.i64.wrap ((m : Int) - 1) = (n : Int) := by rw [IntWalk.i64_in _ (by omega)]; omega
                have j3 : IntKind.i64.wrap ((pre.length : Int) + 2) = (pre.length : Int) + 2 := by rw [IntWalk.i64_in _ (by omega)]
                have j4 : (pre.length : Int) + 2 ≤ (m : Int) := by omega
                have j5 : (0 : Int) ≤ (i : Int) := by omega
                have j6 : (i : Int) < (m : Int) := by omega
                have j7 : (0 : Int) ≤ (n : Int) := by omega
                have j8 : (n : Int) < (m : Int) := by omega
                have HII := Lib.hid hn
                obtain ⟨t, ht⟩ : ∃ t, turnP a b' x = t := ⟨_, rfl⟩
                have HTT := Lib.hid ht
                have hbr : Below w2.heap.size w2 w2 := Below.refl _ _
                have hb1l : b1 < w2.heap.size := q2
                clear g1 g2 hsa hsb e2 q1 q2 hi hn ht hlen h2 hl hpl
                go_wp2_with fail
                go_region_held3 (fun w' => w'.cell? ⟨b1, i, none⟩ = some xa ∧ w'.cell? ⟨b1, n, none⟩ = some xb ∧ Below w2.heap.size w2 w')
                  (first
                    | with_reducible exact keepP2 hca hcb hbr
                    | (go_split_ands; with_reducible exact keepQ2 hb1l hb1l (by assumption) (by assumption) (by assumption) (by assumption))
                    | go_keep)
                  (first | (go_at_call 111; refine (s_turn7 a b' x (HBD.out a (HM.out a (by simp))) (HBD.out b' (HM.out b' (by simp))) HXB.out _ _ _ _ (HSA.out.below HB2.out.drew) (HSB.out.below HB2.out.drew) (HX.out.below HB2.out.drew)).mono ?_; rintro e w3 ⟨rfl, hb3⟩; rw [HTT.out]))
                rename_i hH
                have HB3 := Lib.hid (HB2.out.trans (hH.2.2.mono HB2.out.size))
                have HO3 := Lib.hid (HO2.out.below hH.2.2)
                clear hH hbr hca hcb hb1l
                by_cases ht : t ≤ 0
                · have j11 : (n : Int) ≤ (gc : Int) := by omega
                  go_wp2
                  have hcut := HO3.out.cut (m := n) (by rw [HM9.out]; have := HII.out; omega)
                  have e5 : (pre ++ (b' :: a :: r).reverse).take n = pre ++ (a :: r).reverse := by
                    have h1 := HLN2.out
                    have h2 := HII.out
                    simp only [List.length_cons] at h1
                    rw [List.reverse_cons, ← List.append_assoc, List.take_append_of_le_length (by simp; omega), List.take_of_length_le (by simp; omega)]
                  rw [e5] at hcut
                  refine ⟨⟨a :: r, hcut, ?_, by have := HL2.out; simp only [List.length_cons] at this ⊢; omega, fun p hp => HM.out p (List.mem_cons_of_mem _ hp), HB3.out⟩, by simp [slen]; have := HII.out; omega⟩
                  rw [← HP.out, popR, if_pos (by rw [HTT.out]; exact ht)]
                · have HPX := Lib.hid (show popR (b' :: a :: r) x = b' :: a :: r by rw [popR, if_neg (by rw [HTT.out]; exact ht)])
                  obtain ⟨l, hl9⟩ : ∃ l, b' :: a :: r = l := ⟨_, rfl⟩
                  rw [hl9] at HP HO3 HPX HM9 HLN2 HL2
                  clear hl9
                  have hkl := HLN.out
                  go_wp2_with (at_builtin; go_must (refine list_app_pt rfl _ _ rfl w w.heap.size (.slice (some ⟨b1, 0, none⟩) m gc) _ (pre ++ l.reverse) x rfl (HO3.out.below (below1 _ _)) HX.out _ rfl (heap_alloc_new _ _) (by have := HM9.out; have := HLN2.out; have := HL2.out; have := HPL.out; omega) (by have := HB3.out.size; simp; omega) ?_; intro g8 c8 w8 ho8 hb8))
                  have HO8 := Lib.hid ho8
                  have HB8 := Lib.hid ((HB3.out.trans ((below1 _ _).mono HB3.out.size)).trans hb8)
                  clear ho8 hb8
                  go_wp2
                  refine ⟨⟨k + 1, by omega, by go_num, ?_, HB8.out⟩, by simp [RowKit.intOf]; omega⟩
                  have h := HO8.out
                  simp only [List.length_append, List.length_reverse] at h
                  rw [bendR_take hkL, HXE.out, ← HP.out, HPX.out, List.reverse_cons, ← List.append_assoc]
                  exact h
              · have HPX := Lib.hid (show popR l x = l from by
                  match l, h2 with
                  | [], _ => rfl
                  | [_], _ => rfl
                  | _ :: _ :: _, h => simp at h)
                have hpl := HPL.out
                have j3 : IntKind.i64.wrap ((pre.length : Int) + 2) = (pre.length : Int) + 2 := by rw [IntWalk.i64_in _ (by omega)]
                have j4 : decide ((pre.length : Int) + 2 ≤ (m : Int)) = false := decide_eq_false (by omega)
                have HO3 := HO2
                have HB3 := HB2
                clear h2 hlen hl hpl
                go_wp2_with fail
                go_quiet (fail)
                refine egen ?_
                intro w4 hw4
                have HB4 := Lib.hid (show Below w.heap.size w w4 by rw [hw4]; exact below_drewN' HB3.out _)
                have HO4 := Lib.hid (show RdO w w.heap.size w4 (.slice ga m gc) (pre ++ l.reverse) by rw [hw4]; exact HO3.out.below (below_drewN' (Below.refl _ _) _))
                clear hw4 HB3 HO3
                have hkl := HLN.out
                go_wp2_with (at_builtin; go_must (refine list_app_pt rfl _ _ rfl w w.heap.size (.slice ga m gc) _ (pre ++ l.reverse) x rfl (HO4.out.below (below1 _ _)) HX.out _ rfl (heap_alloc_new _ _) (by have := HM9.out; have := HLN2.out; have := HL2.out; have := HPL.out; omega) (by have := HB4.out.size; simp; omega) ?_; intro g8 c8 w8 ho8 hb8))
                have HO8 := Lib.hid ho8
                have HB8 := Lib.hid ((HB4.out.trans ((below1 _ _).mono HB4.out.size)).trans hb8)
                clear ho8 hb8
                go_wp2
                refine ⟨⟨k + 1, by omega, by go_num, ?_, HB8.out⟩, by simp [RowKit.intOf]; omega⟩
                have h := HO8.out
                simp only [List.length_append, List.length_reverse] at h
                rw [bendR_take hkL, HXE.out, ← HP.out, HPX.out, List.reverse_cons, ← List.append_assoc]
                exact h
        · obtain rfl : k = S.length := by omega
          have HF := Lib.hid (show L.take S.length = L by rw [← HLN.out, List.take_length])
          rw [HF.out] at HKO
          obtain ⟨ga, gc, rfl, hgc, hgm⟩ := HKO.out.shape
          unfold maxLen at hgm
          obtain ⟨y, t, hyt⟩ := bend_full (L := L) (by have := HLN.out; omega)
          have HYT := Lib.hid hyt
          obtain ⟨m, hm9⟩ : ∃ m, (pre ++ (bendR L).reverse).length = m := ⟨_, rfl⟩
          have hm8 : m = pre.length + t.length + 1 := by rw [← hm9, hyt]; simp; omega
          rw [hm9] at HKO hgc ⊢
          have HM9 := Lib.hid hm9
          have HM8 := Lib.hid hm8
          obtain ⟨b, x, rfl, -⟩ := HKO.out.at 0 (by omega)
          obtain ⟨i, hi⟩ : ∃ i, i + 1 = m := ⟨m - 1, by omega⟩
          have HII := Lib.hid hi
          have j1 : IntKind.i64.wrap ((m : Int) - 1) = (i : Int) := by rw [IntWalk.i64_in _ (by omega)]; omega
          have j5 : (0 : Int) ≤ (i : Int) := by omega
          have j6 : (i : Int) ≤ (gc : Int) := by omega
          clear hyt hm9 hm8 hi
          go_wp2
          have hcut := HKO.out.cut (m := i) (by rw [HM9.out]; have := HII.out; omega)
          have e5 : (pre ++ (bendR L).reverse).take i = preL S (p + 1) := by
            have h1 := HM8.out
            have h2 := HII.out
            rw [HPN.out, HYT.out]
            unfold bendL
            rw [HYT.out, List.tail_cons, List.reverse_cons, ← List.append_assoc, List.take_append_of_le_length (by simp; omega), List.take_of_length_le (by simp; omega)]
          rw [e5] at hcut
          exact ⟨⟨p + 1, by omega, by go_num, hcut, HKB.out⟩, by simp [RowKit.intOf]; omega⟩
    · obtain rfl : p = 2 := by omega
      have h9 := HO.out
      go_wp2
      go_ret
      exact ⟨⟨_, rfl, h9⟩, HB.out⟩
end Go.Proofs.Ytckpifcdlmfabaa
