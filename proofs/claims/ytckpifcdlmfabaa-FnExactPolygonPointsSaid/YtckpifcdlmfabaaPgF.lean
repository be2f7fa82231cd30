/- The model's HullOf. -/
import Derived.Test.YtckpifcdlmfabaaPgC
import Derived.Test.YtckpifcdlmfabaaPgQ
import Derived.Test.YtckpifcdlmfabaaPgH
namespace Go.Proofs.Ytckpifcdlmfabaa
open Go.RowKit Go.Lib

theorem hullR_empty {l : List (List Int)} (h : hullP l = ([], false)) : hullR l = ([], false) := by unfold hullR; rw [h]; rfl
theorem gotR_mk {w : World} {r r' : List (List Int) × Bool} {e : Ending} {w' : World} (h : r' = r) (g : GotR w r e w') : GotR w r' e w' := by subst h; exact g
theorem sort_bd {l : List (List Int)} (h : flatR l = true) : ∀ p ∈ sortL l, BdP 50 p := by
  intro p hp
  have hp := ((sortL_strict h).2 p).1 hp
  obtain ⟨v, hv, rfl⟩ := List.mem_map.1 hp
  obtain ⟨h1, h2⟩ := flatR_t h v hv
  match v, h1 with
  | [a, b], _ =>
    have h3 := small_get h2 0 (by simp)
    have h4 := small_get h2 1 (by simp)
    exact ⟨h3, h4⟩
theorem fold_take {l : List (List Int)} {k : Nat} (h : k < l.length) : (l.take (k + 1)).foldl putL [] = putL ((l.take k).foldl putL []) l[k] := by
  rw [List.take_succ_eq_append_getElem h, List.foldl_append]; rfl
theorem fold_two {l : List (List Int)} (h : flatR l = true) (k : Nat) : ∀ q ∈ (l.take k).foldl putL [], q.length = 2 := by
  intro q hq
  have hl : ∀ q ∈ l.take k, q.length = 2 := fun q hq => (flatR_t h q (List.mem_of_mem_take hq)).1
  rcases ((foldL_put (n := 2) (l.take k) [] hl (fun q hq => by cases hq) List.Pairwise.nil).2 q).1 hq with h | h
  · cases h
  · exact hl q h
set_option maxRecDepth 100000 in
set_option maxHeartbeats 3200000 in
theorem s_hullof (l : List (List Int)) (v : Value) (w : World) (hv : Rw w v l) :
    Calls Try.prog 24 #[v] w (GotR w (hullR l)) := by
  have HV := Lib.hid hv
  obtain ⟨a, c, rfl, hm, hopen⟩ := hv.shape
  unfold maxLen at hm
  have HO := Lib.hid hopen
  clear hv hopen
  by_cases c1 : 200 < l.length
  case pos =>
    have HE := Lib.hid (hullR_empty (l := l) (by unfold hullP; rw [if_pos (.inl c1)]))
    have i1 : (200 : Int) < (l.length : Int) := by omega
    go_enter Try.func24, Try.ntmps24
    go_wp2
    go_ret2
    exact gotR_mk HE.out ⟨⟨_, rfl, owr_none0 (owns_none (Nat.le_refl _))⟩, below1 _ _⟩
  by_cases c2 : flatR l = true
  case neg =>
    have HE := Lib.hid (hullR_empty (l := l) (by unfold hullP; rw [if_pos (.inr c2)]))
    have C2 := Lib.hid (bool_f c2)
    have i1 : ¬ (200 : Int) < (l.length : Int) := by omega
    clear c2
    go_enter Try.func24, Try.ntmps24
    go_wp2_with fail
    refine (s_flat l _ _ HV.out).mono ?_
    rintro e w1 ⟨rfl, hb⟩
    rw [C2.out]
    have HB := Lib.hid hb
    clear hb
    go_wp2
    go_ret2
    exact gotR_mk HE.out ⟨⟨_, rfl, owr_none0 (owns_none HB.out.size)⟩, HB.out.trans ((below1 _ _).mono HB.out.size)⟩
  have C2 := Lib.hid c2
  have i1 : ¬ (200 : Int) < (l.length : Int) := by omega
  clear c2
  go_enter Try.func24, Try.ntmps24
  go_wp2_with fail
  refine (s_flat l _ _ HV.out).mono ?_
  rintro e w0 ⟨rfl, hb⟩
  rw [C2.out]
  have HB0 := Lib.hid hb
  clear hb
  go_wp2_with fail
  go_loopw [4, 5] (fun o i wr => ∃ k : Nat, k ≤ l.length ∧ i = .int .i64 k ∧ OwR 46 3 w.heap.size wr.heap.size wr o ((l.take k).foldl putL []) ∧ Below w.heap.size w wr) (fun _ i _ => l.length - (RowKit.intOf i).toNat)
  case atStart => exact ⟨0, Nat.zero_le _, rfl, owr_none0 (owns_none HB0.out.size), HB0.out.trans ((below1 _ _).mono HB0.out.size)⟩
  case round =>
    obtain ⟨k, hk, rfl, ho, hb⟩ := hrel
    rename World => wr
    have HK := Lib.hid ho
    have HB := Lib.hid hb
    obtain ⟨oa, oc, rfl, hom, _⟩ := ho.rw.shape
    clear ho hb hom
    have hlen := foldL_len (l.take k) []
    rw [List.length_take, List.length_nil] at hlen
    obtain ⟨S, hS⟩ : ∃ S, (l.take k).foldl putL [] = S := ⟨_, rfl⟩
    have HS := Lib.hid hS
    have H2 := Lib.hid (fold_two C2.out k)
    rw [hS] at HK H2 hlen ⊢
    clear hS
    by_cases hlt : k < l.length
    · have i2 : (0 : Int) ≤ (k : Int) := by omega
      have i3 : (k : Int) < (l.length : Int) := by omega
      obtain ⟨b, off, u, rfl, hc, hlt2, hcell, hsu⟩ := HO.out k _ (List.getElem?_eq_getElem hlt)
      rw [← HB.out.cell (p := ⟨b, off + k, none⟩) hlt2] at hcell
      have HU := Lib.hid (hsu.below HB.out)
      have h2 := (flatR_t C2.out l[k] (List.getElem_mem hlt)).1
      have HF := Lib.hid (fold_take hlt)
      rw [HS.out] at HF
      have HL := Lib.hid h2
      obtain ⟨ua, uc, rfl, _⟩ := hsu.shape
      clear hsu h2
      go_wp2_with fail
      refine (s_putl S l[k] _ _ w.heap.size wr.heap.size wr HK.out HU.out (fun q hq => by rw [H2.out q hq, HL.out]) (by have := HL.out; omega) HB.out.size (Nat.le_refl _) (by omega)).mono ?_
      rintro e w2 ⟨⟨u2, rfl, h2, _⟩, g2⟩
      have O2 := Lib.hid h2
      have B2 := Lib.hid (HB.out.trans ((Below.refl w.heap.size wr).grown g2 HB.out.size (fun q hq => (HK.out.place0 hq))))
      obtain ⟨a2, c2, rfl, _, _⟩ := h2.rw.shape
      clear h2 g2 hcell
      go_wp2
      exact ⟨⟨k + 1, by omega, by go_num, by rw [HF.out]; exact O2.out, B2.out⟩, by simp [RowKit.intOf]; omega⟩
    · obtain rfl : k = l.length := by omega
      have HT := Lib.hid (show l.foldl putL [] = S by rw [← HS.out, List.take_length])
      have HR := Lib.hid (show S = (sortL l).map rowOf by rw [sortL_rows C2.out, HT.out])
      have HZ := Lib.hid (show S.length = (sortL l).length by rw [HR.out, List.length_map])
      obtain ⟨m, hm9⟩ : ∃ m, S.length = m := ⟨_, rfl⟩
      have HM := Lib.hid hm9
      rw [hm9] at HK hlen ⊢
      clear hm9
      by_cases m1 : m < 3
      · have j1 : (m : Int) < 3 := by omega
        have HE := Lib.hid (hullR_empty (l := l) (by unfold hullP; rw [if_neg (by rintro (c | c); omega; exact c C2.out), if_pos (by rw [← HZ.out, HM.out]; exact m1)]))
        go_wp2
        go_ret2
        exact gotR_mk HE.out ⟨⟨_, rfl, owr_none0 (owns_none HB.out.size)⟩, HB.out.trans ((below1 _ _).mono HB.out.size)⟩
      · have j1 : ¬ (m : Int) < 3 := by omega
        have HP := Lib.hid (show hullP l = cornR (sortL l) by unfold hullP; rw [if_neg (by rintro (c | c); omega; exact c C2.out), if_neg (by rw [← HZ.out, HM.out]; exact m1)])
        have hl3 : (sortL l).length = m := by rw [← HZ.out, HM.out]
        have HK2 := Lib.hid (show Rw wr (.slice oa m oc) ((sortL l).map rowOf) by rw [← HR.out]; exact HK.out.rw)
        have HBD := Lib.hid (sort_bd C2.out)
        have HC := Lib.hid (show ∀ r, cornR (sortL l) = r → hullR l = (r.1.map rowOf, r.2) from fun r hr => by unfold hullR; rw [HP.out, hr])
        obtain ⟨T, hT⟩ : ∃ T, sortL l = T := ⟨_, rfl⟩
        rw [hT] at HK2 HBD HC hl3
        have ML := cornL_len T
        have HL3 := Lib.hid hl3
        clear hT hl3
        go_wp2_with fail
        refine (s_hull T (by have := HL3.out; omega) (by have := HL3.out; omega) HBD.out _ wr HK2.out).mono ?_
        rintro e w2 ⟨⟨u, rfl, h2⟩, hb2⟩
        have O2 := Lib.hid (h2.rw hb2)
        have B2 := Lib.hid (HB.out.trans (hb2.mono HB.out.size))
        obtain ⟨ua, uc, rfl, _, _⟩ := h2.shape
        rw [HL3.out] at ML
        obtain ⟨n, hn9⟩ : ∃ n, (cornL T).length = n := ⟨_, rfl⟩
        have HN := Lib.hid hn9
        rw [hn9] at O2 ML ⊢
        clear h2 hb2 hn9
        by_cases m2 : n < 3
        · have j2 : (n : Int) < 3 := by omega
          have HE := Lib.hid (HC.out _ (show cornR T = ([], false) by unfold cornR; rw [if_pos (.inl (by rw [HN.out]; exact m2))]))
          go_wp2
          go_ret2
          exact gotR_mk HE.out ⟨⟨_, rfl, owr_none0 (owns_none B2.out.size)⟩, B2.out.trans ((below1 _ _).mono B2.out.size)⟩
        · have j2 : ¬ (n : Int) < 3 := by omega
          by_cases m3 : 12 < n
          · have j3 : (12 : Int) < (n : Int) := by omega
            have HE := Lib.hid (HC.out _ (show cornR T = ([], false) by unfold cornR; rw [if_pos (.inr (by rw [HN.out]; exact m3))]))
            go_wp2
            go_ret2
            exact gotR_mk HE.out ⟨⟨_, rfl, owr_none0 (owns_none B2.out.size)⟩, B2.out.trans ((below1 _ _).mono B2.out.size)⟩
          · have j3 : ¬ (12 : Int) < (n : Int) := by omega
            have HE := Lib.hid (HC.out _ (show cornR T = (cornL T, true) by unfold cornR; rw [if_neg (by rw [HN.out]; omega)]))
            go_wp2_with fail
            refine (s_copy ((cornL T).map rowOf) _ w2 O2.out (by rw [List.length_map, HN.out]; omega) (fun r hr => by obtain ⟨p, _, rfl⟩ := List.mem_map.1 hr; simp [rowOf])).mono ?_
            rintro e w3 ⟨⟨u3, rfl, h3⟩, b3⟩
            have O3 := Lib.hid (h3.mono B2.out.size (Nat.le_refl _))
            have B3 := Lib.hid (B2.out.trans (b3.mono B2.out.size))
            clear h3 b3
            go_wp2
            go_ret2
            exact gotR_mk HE.out ⟨⟨_, rfl, O3.out⟩, B3.out⟩
end Go.Proofs.Ytckpifcdlmfabaa
