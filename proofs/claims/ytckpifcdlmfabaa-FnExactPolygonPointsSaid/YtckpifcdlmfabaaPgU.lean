/- The program's HullOf. -/
import Derived.Test.YtckpifcdlmfabaaPgP
namespace Go.Proofs.Ytckpifcdlmfabaa
open Go Go.RowKit Go.Lib

def fillP (l : List (List Int)) (k : Nat) : List P2 := (l.take k).map ptOf ++ List.replicate (l.length - k) (0, 0)
theorem fillP_zero (l : List (List Int)) : fillP l 0 = List.replicate l.length (0, 0) := by simp [fillP]
theorem fillP_all (l : List (List Int)) : fillP l l.length = l.map ptOf := by simp [fillP]
theorem fillP_len (l : List (List Int)) (k : Nat) (h : k ≤ l.length) : (fillP l k).length = l.length := by simp [fillP]; omega
theorem fillP_step (l : List (List Int)) (k : Nat) (h : k < l.length) : (fillP l k).set k (ptOf l[k]) = fillP l (k + 1) := by
  unfold fillP
  rw [List.set_append_right _ _ (by simp; omega), List.length_map, List.length_take, Nat.min_eq_left (by omega), Nat.sub_self]
  rw [show l.length - k = (l.length - (k + 1)) + 1 by omega, List.replicate_succ, List.set_cons_zero, List.take_succ_eq_append_getElem h, List.map_append]
  simp
theorem splice_two {x : List Int} (h : x.length = 2) : splice [Value.int .i64 0, .int .i64 0, .int .i64 0] 0 (intVals x) = [.int .i64 (ptOf x).1, .int .i64 (ptOf x).2, .int .i64 0] := by
  match x, h with
  | [a, b], _ => rfl
theorem flat_pt {l : List (List Int)} (h : flatR l = true) : ∀ p ∈ l.map ptOf, BdP 50 p := by
  intro p hp
  obtain ⟨v, hv, rfl⟩ := List.mem_map.1 hp
  obtain ⟨h1, h2⟩ := flatR_t h v hv
  match v, h1 with
  | [a, b], _ =>
    have h3 := small_get h2 0 (by simp)
    have h4 := small_get h2 1 (by simp)
    exact ⟨h3, h4⟩
theorem hullR_none {l : List (List Int)} (h : hullP l = ([], false)) : hullR l = ([], false) := by unfold hullR; rw [h]; rfl
theorem gotr_mk {w : World} {r r' : List (List Int) × Bool} {e : Ending} {w' : World} (h : r' = r) (g : GotR w r e w') : GotR w r' e w' := by subst h; exact g
set_option maxRecDepth 100000 in
set_option maxHeartbeats 3200000 in
theorem i_hullof (l : List (List Int)) (v : Value) (w : World) (hv : Rw w v l) :
    Calls Try.prog 26 #[v] w (GotR w (hullR l)) := by
  have HV := Lib.hid hv
  obtain ⟨a, c, rfl, hm, hopen⟩ := hv.shape
  unfold maxLen at hm
  have HO := Lib.hid hopen
  clear hv hopen
  by_cases c1 : 200 < l.length
  case pos =>
    have HE := Lib.hid (hullR_none (l := l) (by unfold hullP; rw [if_pos (.inl c1)]))
    have i1 : (200 : Int) < (l.length : Int) := by omega
    go_enter Try.func26, Try.ntmps26
    go_wp2
    go_ret2
    exact gotr_mk HE.out ⟨⟨_, rfl, OwR.nil⟩, Below.refl _ _⟩
  by_cases c2 : flatR l = true
  case neg =>
    have HE := Lib.hid (hullR_none (l := l) (by unfold hullP; rw [if_pos (.inr c2)]))
    have C2 := Lib.hid (bool_f c2)
    have i1 : ¬ (200 : Int) < (l.length : Int) := by omega
    clear c2
    go_enter Try.func26, Try.ntmps26
    go_wp2_with fail
    refine (i_containscn l _ _ HV.out).mono ?_
    rintro e w1 ⟨rfl, hb⟩
    rw [C2.out]
    have HB := Lib.hid hb
    go_wp2
    go_ret2
    exact gotr_mk HE.out ⟨⟨_, rfl, OwR.nil⟩, HB.out⟩
  have C2 := Lib.hid c2
  have i1 : ¬ (200 : Int) < (l.length : Int) := by omega
  obtain ⟨i0, hi', hz0, hz1, hz2⟩ := info_parts info_nums
  clear c2
  go_enter Try.func26, Try.ntmps26
  go_wp2_with fail
  refine (i_containscn l _ _ HV.out).mono ?_
  rintro e w0 ⟨rfl, hb⟩
  rw [C2.out]
  have HB0 := Lib.hid hb
  clear hb
  go_wp2_with (at_make; refine wpList_make_full _ rfl _ _ 79 rfl w0.heap.size 57 i0 _ 3 Try.underlying79 hi' hz0 hz1 .i64 .i64 _ _ l.length rfl rfl rfl rfl (by rw [hz2]; omega) (by unfold maxLen; omega) (by simp) ?_; intro w1 hown hgrow; have hbel : Below w0.heap.size w0 w1 := (Below.refl _ _).grown hgrow (Nat.le_refl _) (fun q hq => by cases hq))
  rw [show (Value.agg #[.int .i64 0, .int .i64 0, .int .i64 0]).cells = #[Value.int .i64 0, .int .i64 0, .int .i64 0] from rfl] at hown
  have hlt1 : w0.heap.size < w1.heap.size := by have := (hown.lt _ rfl).2; simpa using this
  have O1 := Lib.hid (show OwP w0.heap.size w1.heap.size w1 (.slice (some ⟨w0.heap.size, 0, none⟩) l.length l.length) (fillP l 0) by rw [fillP_zero]; exact OwE.zeros3 hown (Nat.le_refl _) hlt1)
  have B1 := Lib.hid hbel
  have HL1 := Lib.hid hlt1
  clear hown hgrow hbel hi' hz0 hz1 hz2 hlt1
  go_loopw [20] (fun i wr => ∃ k : Nat, k ≤ l.length ∧ i = .int .i64 k ∧ OwP w0.heap.size wr.heap.size wr (.slice (some ⟨w0.heap.size, 0, none⟩) l.length l.length) (fillP l k) ∧ Below w0.heap.size w0 wr) (fun i _ => l.length - (RowKit.intOf i).toNat)
  case atStart => exact ⟨0, Nat.zero_le _, rfl, O1.out, B1.out⟩
  case round =>
    obtain ⟨k, hk, rfl, ho, hb⟩ := hrel
    have HK := Lib.hid ho
    have HB := Lib.hid (HB0.out.trans (hb.mono HB0.out.size))
    have HB9 := Lib.hid hb
    clear ho hb
    by_cases hlt : k < l.length
    · have i2 : (0 : Int) ≤ (k : Int) := by omega
      have i3 : (k : Int) < (l.length : Int) := by omega
      obtain ⟨b, off, u, rfl, hc, hlt2, hcell, hsu⟩ := HO.out k _ (List.getElem?_eq_getElem hlt)
      rw [← HB.out.cell (p := ⟨b, off + k, none⟩) hlt2] at hcell
      have FS := Lib.hid (fillP_step l k hlt)
      have FL := Lib.hid (fillP_len l k hk)
      have h2 := (flatR_t C2.out l[k] (List.getElem_mem hlt)).1
      obtain ⟨x, hx⟩ : ∃ x, l[k] = x := ⟨_, rfl⟩
      rw [hx] at hsu FS h2
      have HU := Lib.hid (hsu.below HB.out)
      obtain ⟨ua, uc, rfl, _, _⟩ := hsu.shape
      have S2 := Lib.hid (splice_two h2)
      have H2 := Lib.hid h2
      obtain ⟨p, hp⟩ : ∃ p, ptOf x = p := ⟨_, rfl⟩
      rw [hp] at FS S2
      obtain ⟨p1, p2⟩ := p
      simp only at S2
      clear hx hsu h2 hp
      go_wp2_with fail
      refine (i_num x p1 p2 0 S2.out (by have := H2.out; omega) (by have := H2.out; omega) _ _ HU.out).mono ?_
      rintro e w2 ⟨rfl, hb2⟩
      have K2 := Lib.hid (HK.out.below hb2)
      have B2 := Lib.hid (HB9.out.trans (hb2.mono HB9.out.size))
      obtain ⟨b4, e4, -, -, -, -, -, ⟨q0, q1, q2⟩, qf⟩ := K2.out.at3 k (by rw [FL.out]; exact hlt) rfl
      simp only [Option.some.injEq, Addr.mk.injEq, and_true] at e4
      subst e4
      have f0 := qf (k * 3)
      have f1 := qf (k * 3 + 1)
      have f2 := qf (k * 3 + 2)
      have O3 := Lib.hid (K2.out.put3 k (by rw [FL.out]; exact hlt) (p1, p2))
      rw [FS.out] at O3
      have B3 := Lib.hid (((B2.out.setCell (p := ⟨w0.heap.size, k * 3, none⟩) (Nat.le_refl _) (.int .i64 p1)).setCell (p := ⟨w0.heap.size, k * 3 + 1, none⟩) (Nat.le_refl _) (.int .i64 p2)).setCell (p := ⟨w0.heap.size, k * 3 + 2, none⟩) (Nat.le_refl _) (.int .i64 0))
      have Z3 := Lib.hid hb2.size
      clear hb2 qf
      go_wp2
      exact ⟨⟨k + 1, by omega, by go_num, O3.out.mono (Nat.le_refl _) (by have := Z3.out; simp [World.setCell]; omega), B3.out⟩, by simp [RowKit.intOf]; omega⟩
    · obtain rfl : k = l.length := by omega
      have h := HK.out
      rw [fillP_all] at h
      have HP := Lib.hid h
      have HF := Lib.hid (flat_pt C2.out)
      clear h
      go_wp2_with fail
      refine (i_corners (l.map ptOf) w0.heap.size wr.heap.size w0.heap.size l.length l.length wr (by simp) (by omega) HF.out (Nat.le_refl _) HP.out).mono ?_
      rintro e w2 ⟨⟨D, u, rfl, d1, d2, d3, d4⟩, g2⟩
      have HR := Lib.hid (hull_prog (by omega) C2.out d3 d1)
      have ML := cornL_len D
      rw [d2, List.length_map] at ML
      obtain ⟨ua, uc, rfl, _, _⟩ := d4.shape
      have O2 := Lib.hid d4
      have B2 := Lib.hid (HB.out.trans ((Below.refl w.heap.size wr).grown g2 HB.out.size (fun q hq => by have := Option.some.inj hq; have := HB0.out.size; omega)))
      have HC := Lib.hid (show ∀ r, cornR D = r → hullR l = (r.1.map rowOf, r.2) from fun r hr => by unfold hullR; rw [HR.out, hr])
      obtain ⟨m, hm9⟩ : ∃ m, (cornL D).length = m := ⟨_, rfl⟩
      have HM := Lib.hid hm9
      rw [hm9] at O2 ML ⊢
      clear d1 d2 d3 d4 g2 hm9
      by_cases m1 : m < 3
      · have j1 : (m : Int) < 3 := by omega
        have HE := Lib.hid (HC.out _ (show cornR D = ([], false) by unfold cornR; rw [if_pos (.inl (by rw [HM.out]; exact m1))]))
        go_wp2
        go_ret2
        exact gotr_mk HE.out ⟨⟨_, rfl, OwR.nil⟩, B2.out⟩
      · have j1 : ¬ (m : Int) < 3 := by omega
        by_cases m2 : 12 < m
        · have j2 : (12 : Int) < (m : Int) := by omega
          have HE := Lib.hid (HC.out _ (show cornR D = ([], false) by unfold cornR; rw [if_pos (.inr (by rw [HM.out]; exact m2))]))
          go_wp2
          go_ret2
          exact gotr_mk HE.out ⟨⟨_, rfl, OwR.nil⟩, B2.out⟩
        · have j2 : ¬ (12 : Int) < (m : Int) := by omega
          have HE := Lib.hid (HC.out _ (show cornR D = (cornL D, true) by unfold cornR; rw [if_neg (by rw [HM.out]; omega)]))
          go_wp2_with fail
          refine (i_plane2 (cornL D) (by rw [HM.out]; omega) wr.heap.size w2.heap.size _ w2 O2.out).mono ?_
          rintro e w3 ⟨⟨u3, rfl, h3⟩, b3⟩
          have O3 := Lib.hid (h3.mono B2.out.size (Nat.le_refl _))
          have B3 := Lib.hid (B2.out.trans (b3.mono B2.out.size))
          clear h3 b3
          go_wp2
          go_ret2
          exact gotr_mk HE.out ⟨⟨_, rfl, O3.out⟩, B3.out⟩
end Go.Proofs.Ytckpifcdlmfabaa
