/- The model's series of a cone. -/
import Derived.Test.YtjijgagdaolkcaaMbe
import Derived.Test.YtjijgagdaolkcaaMaw
import Derived.Test.YtjijgagdaolkcaaMav
import Derived.Test.YtjijgagdaolkcaaHfB
import Derived.Test.YtjijgagdaolkcaaMeet
import Derived.Deep.DeepCutAuto
import Derived.Tactics2
import Derived.Test.YtjijgagdaolkcaaVecI
import Derived.Test.YtjijgagdaolkcaaMay
namespace Go.Proofs.Ytjijgagdaolkcaa
open Go Go.RowKit Go.Lib Go.Joins

theorem T_genT {P : Program} {md : Region.Mode} {ops : Array Oper} {Q : Exit → Act → World → Prop} {S : World → Prop} {z : Nat → Bool} {f : Nat} {listed : Array Bool} {a : Act} {w : World} (h : ∀ W, W = w → wpAnyT P md ops Q S z f listed a W) : wpAnyT P md ops Q S z f listed a w := h w rfl
/-- A part of rows. -/
theorem Rw.part {W : World} {L : List (List Int)} {b off n c : Nat} (h : Rw W (.slice (some ⟨b, off, none⟩) n c) L) (i m : Nat) (hi : i + m ≤ L.length) (hm : 0 < m) : Rw W (.slice (some ⟨b, off + i, none⟩) m (c - i)) ((L.drop i).take m) := by
  obtain ⟨vs, h1, h2, h3⟩ := h
  have hl : ((vs.drop i).take m).length = m := by rw [List.length_take, List.length_drop]; omega
  refine ⟨(vs.drop i).take m, by rw [hl, List.length_take, List.length_drop]; omega, ?_, ?_⟩
  · rcases h2 with ⟨h0, _⟩ | ⟨h0, b', off', c', e, hc, hM, hlt, hx⟩
    · rw [h0] at h1; simp only [List.length_nil] at h1; omega
    · simp only [Value.slice.injEq, Option.some.injEq, Addr.mk.injEq, and_true] at e
      obtain ⟨⟨rfl, rfl⟩, _, rfl⟩ := e
      refine .inr ⟨fun e0 => by rw [e0] at hl; simp only [List.length_nil] at hl; omega, b, off + i, c - i, by rw [hl], by rw [hl]; omega, by rw [hl]; omega, hlt, fun j x hj => ?_⟩
      have hj' := lt_of_get hj
      rw [hl] at hj'
      rw [List.getElem?_take_of_lt hj', List.getElem?_drop] at hj
      rw [Nat.add_assoc]
      exact hx _ _ hj
  · intro j u zs hu hz
    have hj' := lt_of_get hu
    rw [hl] at hj'
    rw [List.getElem?_take_of_lt hj', List.getElem?_drop] at hu hz
    exact h3 _ _ _ hu hz
/-- An empty slice in a block of its own. -/
def Em (m : Nat) (W : World) (N : Nat) : Prop := m ≤ N ∧ W.ownsRow N 3 1 (.slice (some ⟨N, 0, none⟩) 0 0) 0 (intVals [])
theorem Em.new {m : Nat} {W : World} (h : m ≤ W.heap.size) : Em m (W.alloc (.cells #[] 3)) W.heap.size := ⟨h, owns_none (Nat.le_refl _)⟩
theorem Em.below {m N : Nat} {W W' : World} (h : Em m W N) (hb : Below W.heap.size W W') : Em m W' N := ⟨h.1, owns_below h.2 hb⟩
theorem Em.lt {m N : Nat} {W : World} (h : Em m W N) : N < W.heap.size := (h.2.lt N rfl).2
/-- append(empty, numbers...) at an operation. -/
theorem wp_app_em {o : Oper} {a : Act} {w : World} {K : Act → World → Prop} {Q : Exit → Act → World → Prop} (s x : Operand)
    (ho : o.op = .call { callee := .builtin .append, args := #[s, x], argTypes := #[24, 24] })
    (m N : Nat) (ys : List Int) (u : Value) (hs : a.eval s = .slice (some ⟨N, 0, none⟩) 0 0) (he : Em m w N) (hx : a.eval x = u) (hu : Sl w u (intVals ys)) (h0 : 0 < ys.length) (hn : ys.length ≤ 1099511627776)
    (k : ∀ g cap w', OwnV 3 g (g + 1) w' (.slice (some ⟨g, 0, none⟩) ys.length cap) (intVals ys) → m ≤ g → g < w'.heap.size → (g = N ∨ g = w.heap.size) → Kept N (N + 1) w w' → K (a.put o.dst (.slice (some ⟨g, 0, none⟩) ys.length cap)) w') : o.wp Try.prog a w K Q := by
  obtain ⟨i0, hi, hz0, hz1, hz2⟩ := info_parts info_int'
  obtain ⟨ad, c, rfl, _, hopen⟩ := hu.shape
  rw [intVals_len] at hopen hx hu
  obtain ⟨b, off, rfl, hc, hlt, hcell⟩ := hopen h0
  obtain ⟨hl, hc2⟩ := hu.addr
  have hN := he.lt
  refine wp_append_lies w s x 24 ho N 3 i0 _ 1 8 Try.underlying24 hi hz0 hz1 hz2 rfl (by omega) (.slice (some ⟨N, 0, none⟩) 0 0) 0 (intVals []) hs he.2 ⟨b, off, none⟩ ys.length c (intVals ys) hx (by rw [hl, Nat.mul_one]) hc2 (by intro q hq; obtain ⟨z, _, rfl⟩ := List.mem_map.1 hq; rfl) h0 (by unfold maxLen; omega) (by omega) (by omega) w.heap.size rfl ?_
  intro g cap w' k1 k2 k3 k4
  rw [Nat.zero_add] at k1 ⊢
  have k3' : g = N ∨ g = w.heap.size := k3.elim (fun h => .inl (by simpa [Value.ownBlock] using h.symm)) .inr
  have hm : m ≤ g := by have := he.1; rcases k3' with h | h <;> omega
  refine k g cap w' ?_ hm k4 k3' ⟨k2.os, k2.tape, k2.output, k2.size, fun j hj ho => k2.block j hj fun e => ?_⟩
  · have k5 : w'.ownsRow N 3 1 (.slice (some ⟨g, 0, none⟩) ys.length cap) ys.length (intVals ys) := k1
    rcases OwnV.of_owns k5 with ⟨e, _⟩ | ⟨g', cap', cur, e, q1, q2, q3⟩
    · have := congrArg List.length e; rw [intVals_len] at this; simp only [List.length_nil] at this; omega
    · simp only [Value.slice.injEq, Option.some.injEq, Addr.mk.injEq, and_true] at e
      obtain ⟨rfl, e2, rfl⟩ := e
      exact .inr ⟨g, cap, cur, by rw [e2], Nat.le_refl _, Nat.lt_succ_self _, q3⟩
  · have : N = j := by simpa [Value.ownBlock] using e.symm
    omega
theorem pair_part {L : List (List Int)} {k : Nat} (h : k + 2 ≤ L.length) : (L.drop k).take 2 = [L.getD k [], L.getD (k + 1) []] := by
  refine List.ext_getElem? fun j => ?_
  rw [List.getElem?_take]
  rcases (by omega : j = 0 ∨ j = 1 ∨ 2 ≤ j) with rfl | rfl | hj
  · rw [if_pos (by omega), List.getElem?_drop, Nat.add_zero, List.getElem?_cons_zero, List.getD_eq_getElem?_getD, List.getElem?_eq_getElem (by omega)]; rfl
  · rw [if_pos (by omega), List.getElem?_drop, List.getElem?_cons_succ, List.getElem?_cons_zero, List.getD_eq_getElem?_getD, List.getElem?_eq_getElem (by omega)]; rfl
  · rw [if_neg (by omega), List.getElem?_eq_none (by simpa using hj)]
theorem one_part {L : List (List Int)} {k : Nat} (h : k + 1 ≤ L.length) : (L.drop k).take 1 = [L.getD k []] := by
  refine List.ext_getElem? fun j => ?_
  rw [List.getElem?_take]
  rcases (by omega : j = 0 ∨ 1 ≤ j) with rfl | hj
  · rw [if_pos (by omega), List.getElem?_drop, Nat.add_zero, List.getElem?_cons_zero, List.getD_eq_getElem?_getD, List.getElem?_eq_getElem (by omega)]; rfl
  · rw [if_neg (by omega), List.getElem?_eq_none (by simpa using hj)]
theorem OwT.empty {lo : Nat} {w : World} {T : TypeId} (h : lo ≤ w.heap.size) (hT : T = 49) : OwT lo (w.alloc (.cells #[] T)).heap.size (w.alloc (.cells #[] T)) (.slice (some ⟨w.heap.size, 0, none⟩) 0 0) [] := by
  subst hT
  have hz := owns_none (w := w) (base := lo) (e := 49) h
  refine ⟨[], fun _ => lo, fun _ => lo, ⟨rfl, ?_⟩, fun b hb => (hz.lt b hb).2, fun i hi' => absurd hi' (Nat.not_lt_zero _), fun i b hi' => absurd hi' (Nat.not_lt_zero _), fun i j hi' => absurd hi' (Nat.not_lt_zero _)⟩
  rcases hz.2 with h2 | ⟨g, cap, cur, e, h3, h4, h5, h6, h7, h8⟩
  · cases h2.1
  · exact .inr ⟨g, cap, cur, e, h3, h4, h5, h6, by simp only [Value.slice.injEq] at e; have := e.2.2; simpa [← this] using h7, by simp⟩
/-- append(terms, term) at an operation. -/
theorem wp_app_term {o : Oper} {a : Act} {w : World} {K' : Act → World → Prop} {Q : Exit → Act → World → Prop} (s x : Operand)
    (ho : o.op = .call { callee := .builtin .append, args := #[s, x], argTypes := #[45, 45] })
    (lo m : Nat) (v : Value) (l : List Tm) (y : Tm) (z u g' : Value) (hv : a.eval s = v) (hown : OwT lo m w v l) (hy : ETm m w.heap.size w [z, u, g'] y)
    (H : Nat) (hx : a.eval x = .slice (some ⟨H, 0, none⟩) 1 1) (hnew : w.heap[H]? = some (.cells #[z, u, g'] 49 (0, 0)))
    (hn : l.length ≤ 1099511627776) (hlm : lo ≤ m) (hm : m ≤ w.heap.size)
    (kk : ∀ g cap w', OwT lo w'.heap.size w' (.slice (some ⟨g, 0, none⟩) (l.length + 1) cap) (l ++ [y]) → Kept lo m w w' → K' (a.put o.dst (.slice (some ⟨g, 0, none⟩) (l.length + 1) cap)) w') : o.wp Try.prog a w K' Q := by
  obtain ⟨i0, hi, hz0, hz1, hz2⟩ := info_parts info_term
  have hone : ∀ c ∈ [z, u, g'], c.oneCell' = true := by
    obtain ⟨u2, g2, _, _, _, _, e, o1, ⟨vs, _, o2, _⟩, _⟩ := hy
    simp only [List.cons.injEq, and_true] at e
    obtain ⟨rfl, rfl, rfl⟩ := e
    intro c hc
    simp only [List.mem_cons, List.not_mem_nil, or_false] at hc
    rcases hc with rfl | rfl | rfl
    · rfl
    · exact own_one o1
    · exact own_one o2
  obtain ⟨fs, A, B, hown⟩ := hown
  refine wp_append_lies w s x 45 ho lo 49 i0 _ 3 56 Try.underlying45 hi hz0 hz1 hz2 rfl (by omega) v l.length fs hv hown.own ⟨H, 0, none⟩ 1 1 [z, u, g'] hx (by rfl) (World.news_of_block (cs := #[z, u, g']) hnew) hone (by omega) (by unfold maxLen; omega) (by omega) (by omega) w.heap.size rfl ?_
  intro g cap w' k1 k2 k3 k4
  refine kk g cap w' ⟨_, _, _, hown.snoc keepsT hlm rfl hy (Nat.le_refl _) hm (Nat.le_refl _) k1 k2 ?_⟩ ⟨k2.os, k2.tape, k2.output, k2.size, fun j hj ho => k2.block j hj fun e => ?_⟩
  · intro b hb
    have hgb : g = b := by simpa [Value.ownBlock] using hb
    subst hgb
    rcases k3 with h | h
    · exact .inl h
    · exact .inr (by omega)
  · have h1 := hown.lt j e.symm
    have h2 := (hown.own.lt j e.symm).1
    omega

theorem seriesR_f {c : Cn} {s : List Int} (h : ¬ (coneR c = true ∧ planeR s = true ∧ 2 * (splitR c).length - 3 ≤ 60)) : seriesR c s = ([], false) := if_neg h
theorem seriesR_e {c : Cn} {s : List Int} (h1 : coneR c = true) (h2 : planeR s = true) (h3 : 2 * (splitR c).length - 3 ≤ 60) : seriesR c s = (pairsT s (splitR c) ((splitR c).length - 1) ++ onesT s (splitR c) ((splitR c).length - 2), true) := if_pos ⟨h1, h2, h3⟩
theorem split_none {c : Cn} (h : coneR c = false) : splitR c = [] := by unfold splitR; rw [h]; rfl
theorem split_some {c : Cn} (h : coneR c = true) : 0 < (splitR c).length := by
  unfold splitR
  rw [if_pos h, List.length_map]
  exact raysF_pos _ _
theorem split_rows (c : Cn) : ∀ r ∈ splitR c, r.length ≤ 1048576 := by
  intro r hr
  unfold splitR at hr
  split at hr
  · obtain ⟨p, _, rfl⟩ := List.mem_map.1 hr
    simp [rowOf]
  · cases hr
theorem got_none {w w1 : World} {r : List Tm × Bool} (hr : r = ([], false)) (hb : Below w.heap.size w w1) : GotTs w r (.returned (.tuple #[.slice (some ⟨w1.heap.size, 0, none⟩) 0 0, .bool false])) (w1.alloc (.cells #[] 49)) := by
  subst hr
  exact ⟨⟨_, rfl, OwT.empty hb.size rfl⟩, hb.alloc hb.size _⟩

set_option maxRecDepth 100000 in
set_option maxHeartbeats 6400000 in
theorem s_series (c : Cn) (s : List Int) (v a : Value) (w : World) (hv : Cv w v c) (hx : Sl w a (intVals s)) :
    Calls Try.prog 34 #[v, a] w (GotTs w (seriesR c s)) := by
  have HC := Lib.hid hv
  have HX0 := Lib.hid hx
  obtain ⟨u, t, rfl, _, _⟩ := hv
  obtain ⟨xa, xc, rfl, xm, _⟩ := hx.shape
  simp only [intVals_len] at xm HX0 ⊢
  unfold maxLen at xm
  have K0 := Lib.hid (Bk.new w #[u, t] 26)
  have B0 := Lib.hid (below1 w (.cells #[u, t] 26))
  have LR := Lib.hid (split_rows c)
  have ES := Lib.hid (fun h1 h2 h3 => seriesR_e (c := c) (s := s) h1 h2 h3)
  have EF := Lib.hid (fun h => seriesR_f (c := c) (s := s) h)
  have EN := Lib.hid (fun h => split_none (c := c) h)
  have EP := Lib.hid (fun h => split_some (c := c) h)
  have L18 := splitR_len c
  have CSP := Lib.hid (fun v W (h : Cv W v c) => s_split c v W h)
  generalize seriesR c s = R at ES EF ⊢
  generalize splitR c = L at CSP LR ES EF EN EP L18
  clear hx
  obtain ⟨⟨l0, l1⟩, -⟩ := K0.out.two
  go_enter Try.func34, Try.ntmps34
  go_wp2_with fail
  refine (CSP.out _ _ (HC.out.below B0.out)).mono ?_
  rintro e w1 ⟨⟨sv, rfl, ho⟩, hb1⟩
  obtain ⟨la, lc, rfl, lm, _⟩ := ho.rw.shape
  have BW1 := Lib.hid (B0.out.trans (hb1.mono B0.out.size))
  have HL1 := Lib.hid ho
  clear hb1 ho lm l0 l1
  by_cases hn : L.length = 0
  · have E := Lib.hid (EF.out (fun h => by have := EP.out h.1; omega))
    have i0 : (L.length : Int) = 0 := by omega
    have i1 : ((L.length : Int) == 0) = true := by rw [beq_iff_eq]; omega
    go_wp2_with fail
    go_ret2
    exact got_none E.out BW1.out
  have i0 : ¬ (L.length : Int) = 0 := by omega
  have i1 : ((L.length : Int) == 0) = false := by rw [beq_eq_false_iff_ne]; omega
  have C1 := Lib.hid (show coneR c = true by
    cases h : coneR c
    · rw [EN.out h] at hn; exact absurd rfl hn
    · rfl)
  go_wp2_with fail
  refine (s_isv s _ _ (HX0.out.below BW1.out)).mono ?_
  rintro e w2 ⟨rfl, hb⟩
  have B2 := Lib.hid (BW1.out.trans (hb.mono BW1.out.size))
  have HL2 := Lib.hid (HL1.out.below hb)
  have SB := Lib.hid hb.size
  clear hb
  cases h2 : isV s
  · have E := Lib.hid (EF.out (fun h => by have := h.2.1; unfold planeR at this; rw [h2] at this; exact absurd this (by simp)))
    clear h2
    go_wp2_with fail
    go_ret2
    exact got_none E.out B2.out
  by_cases h3 : s.length = 2
  case neg =>
    have E := Lib.hid (EF.out (fun h => by have := h.2.1; unfold planeR at this; rw [decide_eq_false h3] at this; exact absurd this (by simp)))
    have i3 : ((s.length : Int) == 2) = false := by rw [beq_eq_false_iff_ne]; omega
    have i3p : ¬ (s.length : Int) = 2 := by omega
    clear h2 h3
    go_wp2_with fail
    go_ret2
    exact got_none E.out B2.out
  have PX := Lib.hid (show planeR s = true by unfold planeR; rw [h2, decide_eq_true h3]; rfl)
  have i3 : ((s.length : Int) == 2) = true := by rw [beq_iff_eq]; omega
  have i3p : (s.length : Int) = 2 := by omega
  have SL := Lib.hid (show 0 < s.length ∧ s.length ≤ 1099511627776 by omega)
  clear h2 h3
  have e5 : IntKind.i64.wrap (2 * (L.length : Int)) = 2 * (L.length : Int) := IntWalk.i64_in _ (by omega)
  have e6 : IntKind.i64.wrap (2 * (L.length : Int) - 3) = 2 * (L.length : Int) - 3 := IntWalk.i64_in _ (by omega)
  by_cases h60 : 2 * L.length - 3 ≤ 60
  case neg =>
    have E := Lib.hid (EF.out (fun h => h60 h.2.2))
    have i6 : (60 : Int) < 2 * (L.length : Int) - 3 := by omega
    clear h60
    go_wp2_with fail
    go_ret2
    exact got_none E.out B2.out
  have i6 : ¬ (60 : Int) < 2 * (L.length : Int) - 3 := by omega
  have i6b : 2 * (L.length : Int) - 3 ≤ 60 := by omega
  have E := Lib.hid (ES.out C1.out PX.out h60)
  obtain ⟨lb, lc', e0, ll1, ll2⟩ : ∃ lb lc', (Value.slice la L.length lc) = .slice (some ⟨lb, 0, none⟩) L.length lc' ∧ L.length ≤ lc ∧ L.length ≤ 31 := by
    obtain ⟨vs, v1, v2, _⟩ := HL2.out
    obtain ⟨lb, cap, e, _, _⟩ := v2.form (by omega)
    rw [v1] at e
    rcases v2 with ⟨e2, _⟩ | ⟨g, cap2, cur, e2, _, _, _, hc, _⟩
    · rw [e2] at v1; simp only [List.length_nil] at v1; omega
    · simp only [Value.slice.injEq] at e e2
      exact ⟨lb, cap, by rw [e.1, e.2.2], by omega, by omega⟩
  simp only [Value.slice.injEq, true_and] at e0
  obtain ⟨rfl, rfl⟩ := e0
  have HXW := Lib.hid (HX0.out.below B2.out)
  go_wp2_with fail
  go_loopw [7, 8] (fun q i wr => ∃ k : Nat, k + 1 ≤ L.length ∧ i = .int .i64 k ∧ OwT w2.heap.size wr.heap.size wr q (pairsT s L k) ∧ Below w2.heap.size w2 wr) (fun _ i _ => L.length - (RowKit.intOf i).toNat)
  case atStart => exact ⟨0, by omega, rfl, OwT.empty (Nat.le_refl _) rfl, below1 w2 _⟩
  case round =>
    obtain ⟨k, hk, rfl, ho, hbr⟩ := hrel
    by_cases hlt : k + 1 < L.length
    · skip
      have HL := Lib.hid (HL2.out.below hbr)
      have HO := Lib.hid ho
      have HBr := Lib.hid hbr
      have LW := Lib.hid hbr.size
      obtain ⟨PT, hPT⟩ : ∃ PT, (L.drop k).take 2 = PT := ⟨_, rfl⟩
      have PL := Lib.hid (show PT.length = 2 by rw [← hPT, List.length_take, List.length_drop]; omega)
      have NX := Lib.hid (show pairsT s L (k + 1) = (pairsT s L k) ++ [(1, s, PT)] by rw [pairs_next, ← hPT, pair_part (by omega)])
      have RP := Lib.hid (show Rw wr (.slice (some ⟨lb, k, none⟩) 2 (lc - k)) PT by rw [← hPT]; have h := HL.out.rw.part k 2 (by omega) (by omega); rw [Nat.zero_add] at h; exact h)
      have RQ := Lib.hid (show ∀ r ∈ PT, r.length ≤ 1048576 by rw [← hPT]; exact fun r hr => LR.out r (List.mem_of_mem_drop (List.mem_of_mem_take hr)))
      have CC := Lib.hid (fun W (hb : Below wr.heap.size wr W) => s_copy PT (.slice (some ⟨lb, k, none⟩) 2 (lc - k)) W (RP.out.below hb) (by rw [PL.out]; omega) RQ.out)
      have HX := Lib.hid (HXW.out.below hbr)
      have LN := Lib.hid (show (pairsT s L k).length ≤ 200 by rw [pairs_len]; omega)
      have e1 : IntKind.i64.wrap ((k : Int) + 1) = (k : Int) + 1 := IntWalk.i64_in _ (by omega)
      have e2 : IntKind.i64.wrap ((k : Int) + 2) = (k : Int) + 2 := IntWalk.i64_in _ (by omega)
      have i1 : (0 : Int) ≤ (k : Int) := by omega
      have i2 : (k : Int) ≤ (k : Int) + 2 := by omega
      have i3 : (k : Int) + 2 ≤ (lc : Int) := by omega
      have i4 : (k : Int) + 1 < (L.length : Int) := by omega
      have i5 : ¬ lc = k := by omega
      have i6 : (0 : Int) ≤ (k : Int) + 2 := by omega
      have i7 : (k : Int) + 2 ≤ (L.length : Int) := by omega
      clear ho hbr hPT
      go_wp2_with fail
      refine T_begin (z := fun k => 12 < k) (S := fun (_ : World) => True) (by kernel_rfl) ?_
      show wpAnyT _ _ _ _ _ _ 14 _ _ _
      refine T_take (i := 0) (v := u7) rfl (by kernel_rfl) (by kernel_rfl) (by kernel_rfl) (by kernel_rfl) (fun _ _ _ h => h) trivial (by kernel_rfl) (fun w' _ => by go_simp; try omega) ?_
      refine T_take (i := 2) (v := .slice xa s.length xc) rfl (by kernel_rfl) (by kernel_rfl) (by kernel_rfl) (by kernel_rfl) (fun _ _ _ h => h) trivial (by kernel_rfl) (fun w' _ => by go_simp; try omega) ?_
      refine T_take (i := 4) (v := .slice (some ⟨lb, 0, none⟩) L.length lc) rfl (by kernel_rfl) (by kernel_rfl) (by kernel_rfl) (by kernel_rfl) (fun _ _ _ h => h) trivial (by kernel_rfl) (fun w' _ => by go_simp; try omega) ?_
      refine T_take (i := 5) (v := .int .i64 k) rfl (by kernel_rfl) (by kernel_rfl) (by kernel_rfl) (by kernel_rfl) (fun _ _ _ h => h) trivial (by kernel_rfl) (fun w' _ => by go_simp; try omega) ?_
      refine T_take (i := 6) (v := .int .i64 k) rfl (by kernel_rfl) (by kernel_rfl) (by kernel_rfl) (by kernel_rfl) (fun _ _ _ h => h) trivial (by kernel_rfl) (fun w' _ => by go_simp; try omega) ?_
      refine T_take (i := 7) (v := .int .i64 ((k : Int) + 2)) rfl (by kernel_rfl) (by kernel_rfl) (by kernel_rfl) (by kernel_rfl) (fun _ _ _ h => h) trivial (by kernel_rfl) (fun w' _ => by go_simp; try omega) ?_
      refine T_take (i := 8) (v := .slice (some ⟨lb, k, none⟩) 2 (lc - k)) rfl (by kernel_rfl) (by kernel_rfl) (by kernel_rfl) (by kernel_rfl) (fun _ _ _ h => h) trivial (by kernel_rfl) (fun w' _ => by go_simp; try omega) ?_
      refine T_step (i := 1) rfl (by kernel_rfl) rfl (by kernel_rfl) ?_
      intro K hK
      go_simp
      refine hK.out _ _ trivial ?_
      clear hK K
      refine T_genT ?_
      intro Wa hWa
      have hba : Below wr.heap.size wr Wa := by rw [hWa]; exact ((Below.refl _ _).alloc (Nat.le_refl _) _).drew
      have HE := Lib.hid (show Em wr.heap.size Wa wr.heap.size by rw [hWa]; exact Em.new (Nat.le_refl _))
      have HB := Lib.hid hba
      clear hWa hba
      refine T_step (i := 3) rfl (by kernel_rfl) rfl (by kernel_rfl) ?_
      intro K hK
      refine wp_app_em _ _ (by rfl) wr.heap.size wr.heap.size s (.slice xa s.length xc) (by rfl) HE.out (by rfl) (HX.out.below HB.out) SL.out.1 SL.out.2 ?_
      intro g cap Wb hou hmg hgl hgn hka
      have HU := Lib.hid hou
      refine hK.out _ _ trivial ?_
      clear hK K hou
      have hbb : Below wr.heap.size Wa Wb := hka.below HE.out.1 HB.out.size
      have HB2 := Lib.hid (HB.out.trans hbb)
      clear hbb hka
      refine T_step (i := 9) rfl (by kernel_rfl) rfl (by kernel_rfl) ?_
      intro K hK
      go_simp
      refine (CC.out _ HB2.out).mono ?_
      rintro e' Wc ⟨⟨rv, rfl, ho⟩, hbc⟩
      obtain ⟨ra, rc, rfl, _, _⟩ := ho.rw.shape
      rw [PL.out] at ho ⊢
      obtain ⟨gp, hgp⟩ : ∃ gp, gp = Wb.heap.size := ⟨_, rfl⟩
      obtain ⟨gq, hgq⟩ : ∃ gq, gq = Wc.heap.size := ⟨_, rfl⟩
      have HG := Lib.hid (show OwR 24 3 gp gq Wc (.slice ra 2 rc) PT by rw [hgp, hgq]; exact ho)
      refine hK.out _ _ trivial ?_
      clear hK K ho
      have HB3 := Lib.hid (HB2.out.trans (hbc.mono HB2.out.size))
      have HU2 := Lib.hid (HU.out.below hbc)
      have hz1 := HB3.out.size; have hz2 := HB2.out.size; have hz3 := hbc.size
      clear hbc
      refine T_take (i := 10) (v := .agg #[.int .i64 1, .slice (some ⟨g, 0, none⟩) s.length cap, .slice ra 2 rc]) rfl (by kernel_rfl) (by kernel_rfl) (by kernel_rfl) (by kernel_rfl) (fun _ _ _ h => h) trivial (by kernel_rfl) (fun w' _ => by go_simp; try omega) ?_
      refine T_step (i := 11) rfl (by kernel_rfl) rfl (by kernel_rfl) ?_
      intro K hK
      go_simp
      refine hK.out _ _ trivial ?_
      clear hK K
      refine T_genT ?_
      intro Wz hWz
      have hbz : Below Wc.heap.size Wc Wz := by rw [hWz]; exact below1 Wc _
      have HNew := Lib.hid (show Wz.heap[Wc.heap.size]? = some (.cells #[.int .i64 1, .slice (some ⟨g, 0, none⟩) s.length cap, .slice ra 2 rc] 49 (0, 0)) by rw [hWz]; exact heap_alloc_new Wc _)
      have HEt := Lib.hid (show ETm wr.heap.size Wz.heap.size Wz [.int .i64 1, .slice (some ⟨g, 0, none⟩) s.length cap, .slice ra 2 rc] (1, s, PT) from ⟨_, _, g, g + 1, gp, gq, rfl, HU2.out.below hbz, HG.out.below hbz, by have := hbz.size; omega, by have := hbz.size; omega, by omega⟩)
      have HBz := Lib.hid (HB3.out.trans (hbz.mono HB3.out.size))
      clear hWz hbz
      refine T_step (i := 12) rfl (by kernel_rfl) rfl (by kernel_rfl) ?_
      intro K hK
      refine wp_app_term _ _ (by rfl) w2.heap.size wr.heap.size u7 (pairsT s L k) (1, s, PT) _ _ _ (by rfl) (OwL.below keepsT HO.out HBz.out) HEt.out Wc.heap.size (by rfl) HNew.out (by have := LN.out; omega) LW.out HBz.out.size ?_
      intro g9 cap9 w9 ho9 hk9
      have F9 := Lib.hid (And.intro (show OwT w2.heap.size w9.heap.size w9 _ (pairsT s L (k + 1)) by have h := ho9; rw [← NX.out] at h; exact h) (show Below w2.heap.size wr w9 from (HBz.out.mono LW.out).trans (hk9.below (Nat.le_refl _) (Nat.le_trans LW.out HBz.out.size))))
      refine hK.out _ _ trivial ?_
      clear hK K ho9 hk9
      refine T_last (i := 13) rfl (by kernel_rfl) (by kernel_rfl) rfl (by kernel_rfl) ?_
      go_simp
      go_wp2_with fail
      exact ⟨⟨k + 1, by omega, by go_num, (by first | exact F9.out.1 | simpa only [List.length_append] using F9.out.1), HBr.out.trans (F9.out.2.mono (Nat.le_refl _))⟩, by simp [RowKit.intOf]; omega⟩
    · obtain ⟨w5, hw5⟩ : ∃ q, q = wr := ⟨_, rfl⟩
      subst hw5
      have ek : k = L.length - 1 := by omega
      subst ek
      have F5 := Lib.hid (And.intro ho hbr)
      have i9 : ¬ ((L.length - 1 : Nat) : Int) + 1 < (L.length : Int) := by omega
      have e9 : IntKind.i64.wrap (((L.length - 1 : Nat) : Int) + 1) = ((L.length - 1 : Nat) : Int) + 1 := IntWalk.i64_in _ (by omega)
      clear ho hbr
      go_wp2_with fail
      go_loopw [7, 9] (fun q i wr => ∃ i1 : Nat, 1 ≤ i1 ∧ (i1 = 1 ∨ i1 + 1 ≤ L.length) ∧ i = .int .i64 i1 ∧ OwT w2.heap.size wr.heap.size wr q (pairsT s L (L.length - 1) ++ onesT s L (i1 - 1)) ∧ Below w2.heap.size w2 wr) (fun _ i _ => L.length - (RowKit.intOf i).toNat)
      case atStart => exact ⟨1, by omega, .inl rfl, rfl, by rw [show onesT s L (1 - 1) = [] from rfl, List.append_nil]; exact F5.out.1, F5.out.2⟩
      case round =>
        obtain ⟨i, hi1, hi2, rfl, ho, hbr⟩ := hrel
        by_cases hlt2 : i + 1 < L.length
        · skip
          have HL := Lib.hid (HL2.out.below hbr)
          have HO := Lib.hid ho
          have HBr := Lib.hid hbr
          have LW := Lib.hid hbr.size
          obtain ⟨PT, hPT⟩ : ∃ PT, (L.drop i).take 1 = PT := ⟨_, rfl⟩
          have PL := Lib.hid (show PT.length = 1 by rw [← hPT, List.length_take, List.length_drop]; omega)
          have NX := Lib.hid (show pairsT s L (L.length - 1) ++ onesT s L (i + 1 - 1) = (pairsT s L (L.length - 1) ++ onesT s L (i - 1)) ++ [((-1), s, PT)] by rw [← hPT, one_part (by omega), show i + 1 - 1 = (i - 1) + 1 by omega, ones_next, List.append_assoc, show i - 1 + 1 = i by omega])
          have RP := Lib.hid (show Rw wr (.slice (some ⟨lb, i, none⟩) 1 (lc - i)) PT by rw [← hPT]; have h := HL.out.rw.part i 1 (by omega) (by omega); rw [Nat.zero_add] at h; exact h)
          have RQ := Lib.hid (show ∀ r ∈ PT, r.length ≤ 1048576 by rw [← hPT]; exact fun r hr => LR.out r (List.mem_of_mem_drop (List.mem_of_mem_take hr)))
          have CC := Lib.hid (fun W (hb : Below wr.heap.size wr W) => s_copy PT (.slice (some ⟨lb, i, none⟩) 1 (lc - i)) W (RP.out.below hb) (by rw [PL.out]; omega) RQ.out)
          have HX := Lib.hid (HXW.out.below hbr)
          have LN := Lib.hid (show (pairsT s L (L.length - 1) ++ onesT s L (i - 1)).length ≤ 200 by rw [List.length_append, pairs_len, ones_len]; omega)
          have e1 : IntKind.i64.wrap ((i : Int) + 1) = (i : Int) + 1 := IntWalk.i64_in _ (by omega)
          have e2 : IntKind.i64.wrap ((i : Int) + 2) = (i : Int) + 2 := IntWalk.i64_in _ (by omega)
          have i1 : (0 : Int) ≤ (i : Int) := by omega
          have i2 : (i : Int) ≤ (i : Int) + 1 := by omega
          have i3 : (i : Int) + 1 ≤ (lc : Int) := by omega
          have i4 : (i : Int) + 1 < (L.length : Int) := by omega
          have i5 : ¬ lc = i := by omega
          have i6 : (0 : Int) ≤ (i : Int) + 1 := by omega
          have i7 : (i : Int) + 1 ≤ (L.length : Int) := by omega
          clear ho hbr hPT
          go_wp2_with fail
          refine T_begin (z := fun k => 12 < k) (S := fun (_ : World) => True) (by kernel_rfl) ?_
          show wpAnyT _ _ _ _ _ _ 14 _ _ _
          refine T_take (i := 0) (v := u7) rfl (by kernel_rfl) (by kernel_rfl) (by kernel_rfl) (by kernel_rfl) (fun _ _ _ h => h) trivial (by kernel_rfl) (fun w' _ => by go_simp; try omega) ?_
          refine T_take (i := 2) (v := .slice xa s.length xc) rfl (by kernel_rfl) (by kernel_rfl) (by kernel_rfl) (by kernel_rfl) (fun _ _ _ h => h) trivial (by kernel_rfl) (fun w' _ => by go_simp; try omega) ?_
          refine T_take (i := 4) (v := .slice (some ⟨lb, 0, none⟩) L.length lc) rfl (by kernel_rfl) (by kernel_rfl) (by kernel_rfl) (by kernel_rfl) (fun _ _ _ h => h) trivial (by kernel_rfl) (fun w' _ => by go_simp; try omega) ?_
          refine T_take (i := 5) (v := .int .i64 i) rfl (by kernel_rfl) (by kernel_rfl) (by kernel_rfl) (by kernel_rfl) (fun _ _ _ h => h) trivial (by kernel_rfl) (fun w' _ => by go_simp; try omega) ?_
          refine T_take (i := 6) (v := .int .i64 i) rfl (by kernel_rfl) (by kernel_rfl) (by kernel_rfl) (by kernel_rfl) (fun _ _ _ h => h) trivial (by kernel_rfl) (fun w' _ => by go_simp; try omega) ?_
          refine T_take (i := 7) (v := .int .i64 ((i : Int) + 1)) rfl (by kernel_rfl) (by kernel_rfl) (by kernel_rfl) (by kernel_rfl) (fun _ _ _ h => h) trivial (by kernel_rfl) (fun w' _ => by go_simp; try omega) ?_
          refine T_take (i := 8) (v := .slice (some ⟨lb, i, none⟩) 1 (lc - i)) rfl (by kernel_rfl) (by kernel_rfl) (by kernel_rfl) (by kernel_rfl) (fun _ _ _ h => h) trivial (by kernel_rfl) (fun w' _ => by go_simp; try omega) ?_
          refine T_step (i := 1) rfl (by kernel_rfl) rfl (by kernel_rfl) ?_
          intro K hK
          go_simp
          refine hK.out _ _ trivial ?_
          clear hK K
          refine T_genT ?_
          intro Wa hWa
          have hba : Below wr.heap.size wr Wa := by rw [hWa]; exact ((Below.refl _ _).alloc (Nat.le_refl _) _).drew
          have HE := Lib.hid (show Em wr.heap.size Wa wr.heap.size by rw [hWa]; exact Em.new (Nat.le_refl _))
          have HB := Lib.hid hba
          clear hWa hba
          refine T_step (i := 3) rfl (by kernel_rfl) rfl (by kernel_rfl) ?_
          intro K hK
          refine wp_app_em _ _ (by rfl) wr.heap.size wr.heap.size s (.slice xa s.length xc) (by rfl) HE.out (by rfl) (HX.out.below HB.out) SL.out.1 SL.out.2 ?_
          intro g cap Wb hou hmg hgl hgn hka
          have HU := Lib.hid hou
          refine hK.out _ _ trivial ?_
          clear hK K hou
          have hbb : Below wr.heap.size Wa Wb := hka.below HE.out.1 HB.out.size
          have HB2 := Lib.hid (HB.out.trans hbb)
          clear hbb hka
          refine T_step (i := 9) rfl (by kernel_rfl) rfl (by kernel_rfl) ?_
          intro K hK
          go_simp
          refine (CC.out _ HB2.out).mono ?_
          rintro e' Wc ⟨⟨rv, rfl, ho⟩, hbc⟩
          obtain ⟨ra, rc, rfl, _, _⟩ := ho.rw.shape
          rw [PL.out] at ho ⊢
          obtain ⟨gp, hgp⟩ : ∃ gp, gp = Wb.heap.size := ⟨_, rfl⟩
          obtain ⟨gq, hgq⟩ : ∃ gq, gq = Wc.heap.size := ⟨_, rfl⟩
          have HG := Lib.hid (show OwR 24 3 gp gq Wc (.slice ra 1 rc) PT by rw [hgp, hgq]; exact ho)
          refine hK.out _ _ trivial ?_
          clear hK K ho
          have HB3 := Lib.hid (HB2.out.trans (hbc.mono HB2.out.size))
          have HU2 := Lib.hid (HU.out.below hbc)
          have hz1 := HB3.out.size; have hz2 := HB2.out.size; have hz3 := hbc.size
          clear hbc
          refine T_take (i := 10) (v := .agg #[.int .i64 (-1), .slice (some ⟨g, 0, none⟩) s.length cap, .slice ra 1 rc]) rfl (by kernel_rfl) (by kernel_rfl) (by kernel_rfl) (by kernel_rfl) (fun _ _ _ h => h) trivial (by kernel_rfl) (fun w' _ => by go_simp; try omega) ?_
          refine T_step (i := 11) rfl (by kernel_rfl) rfl (by kernel_rfl) ?_
          intro K hK
          go_simp
          refine hK.out _ _ trivial ?_
          clear hK K
          refine T_genT ?_
          intro Wz hWz
          have hbz : Below Wc.heap.size Wc Wz := by rw [hWz]; exact below1 Wc _
          have HNew := Lib.hid (show Wz.heap[Wc.heap.size]? = some (.cells #[.int .i64 (-1), .slice (some ⟨g, 0, none⟩) s.length cap, .slice ra 1 rc] 49 (0, 0)) by rw [hWz]; exact heap_alloc_new Wc _)
          have HEt := Lib.hid (show ETm wr.heap.size Wz.heap.size Wz [.int .i64 (-1), .slice (some ⟨g, 0, none⟩) s.length cap, .slice ra 1 rc] ((-1), s, PT) from ⟨_, _, g, g + 1, gp, gq, rfl, HU2.out.below hbz, HG.out.below hbz, by have := hbz.size; omega, by have := hbz.size; omega, by omega⟩)
          have HBz := Lib.hid (HB3.out.trans (hbz.mono HB3.out.size))
          clear hWz hbz
          refine T_step (i := 12) rfl (by kernel_rfl) rfl (by kernel_rfl) ?_
          intro K hK
          refine wp_app_term _ _ (by rfl) w2.heap.size wr.heap.size u7 (pairsT s L (L.length - 1) ++ onesT s L (i - 1)) ((-1), s, PT) _ _ _ (by rfl) (OwL.below keepsT HO.out HBz.out) HEt.out Wc.heap.size (by rfl) HNew.out (by have := LN.out; omega) LW.out HBz.out.size ?_
          intro g9 cap9 w9 ho9 hk9
          have F9 := Lib.hid (And.intro (show OwT w2.heap.size w9.heap.size w9 _ (pairsT s L (L.length - 1) ++ onesT s L (i + 1 - 1)) by have h := ho9; rw [← NX.out] at h; exact h) (show Below w2.heap.size wr w9 from (HBz.out.mono LW.out).trans (hk9.below (Nat.le_refl _) (Nat.le_trans LW.out HBz.out.size))))
          refine hK.out _ _ trivial ?_
          clear hK K ho9 hk9
          refine T_last (i := 13) rfl (by kernel_rfl) (by kernel_rfl) rfl (by kernel_rfl) ?_
          go_simp
          go_wp2_with fail
          exact ⟨⟨i + 1, by omega, .inr (by omega), by go_num, (by first | exact F9.out.1 | simpa only [List.length_append] using F9.out.1), HBr.out.trans (F9.out.2.mono (Nat.le_refl _))⟩, by simp [RowKit.intOf]; omega⟩
        · have ei : i - 1 = L.length - 2 := by omega
          rw [ei] at ho
          have F6 := Lib.hid (And.intro ho hbr)
          have i8 : ¬ (i : Int) + 1 < (L.length : Int) := by omega
          have e8 : IntKind.i64.wrap ((i : Int) + 1) = (i : Int) + 1 := IntWalk.i64_in _ (by omega)
          clear ho hbr
          go_wp2_with fail
          go_ret2
          rw [E.out]
          exact ⟨⟨_, rfl, F6.out.1.mono B2.out.size (Nat.le_refl _)⟩, B2.out.trans (F6.out.2.mono B2.out.size)⟩
end Go.Proofs.Ytjijgagdaolkcaa
/- The program's termOf: a term of copies. -/
namespace Go.Proofs.Ytjijgagdaolkcaa
open Go Go.RowKit Go.Lib

/-- append(rows, row) at an operation. -/
theorem wp_app_row {o : Oper} {a : Act} {w : World} {K : Act → World → Prop} {Q : Exit → Act → World → Prop} (s x : Operand)
    (ho : o.op = .call { callee := .builtin .append, args := #[s, x], argTypes := #[28, 28] })
    (base m : Nat) (v u : Value) (zss : List (List Int)) (ys : List Int) (hs : a.eval s = v) (hown : OwR 24 3 base m w v zss) (hu : OwnV 3 m w.heap.size w u (intVals ys))
    (H : Nat) (hx : a.eval x = .slice (some ⟨H, 0, none⟩) 1 1) (hnew : w.heap[H]? = some (.cells #[u] 24 (0, 0)))
    (hn : zss.length ≤ 1099511627776) (hbm : base ≤ m) (hm : m ≤ w.heap.size)
    (k : ∀ g cap w', OwR 24 3 base w'.heap.size w' (.slice (some ⟨g, 0, none⟩) (zss.length + 1) cap) (zss ++ [ys]) → Kept base m w w' → K (a.put o.dst (.slice (some ⟨g, 0, none⟩) (zss.length + 1) cap)) w') : o.wp Try.prog a w K Q := by
  obtain ⟨i0, hi, hz0, hz1, hz2⟩ := info_parts info_row
  have hown' := hown
  obtain ⟨vs, h1, h2, h3, h4, h5⟩ := hown
  refine wp_append_lies w s x 28 ho base 24 i0 _ 1 24 Try.underlying28 hi hz0 hz1 hz2 rfl (by omega) v vs.length vs hs h2.owns ⟨H, 0, none⟩ 1 1 [u] hx rfl (World.news_of_block (cs := #[u]) hnew) (fun q hq => by rw [List.mem_singleton.1 hq]; exact own_one hu) (by omega) (by unfold maxLen; omega) (by omega) (by omega) w.heap.size rfl ?_
  intro g cap w' k1 k2 k3 k4
  rw [h1] at k1 ⊢
  refine k g cap w' ?_ ⟨k2.os, k2.tape, k2.output, k2.size, fun j hj ho => k2.block j hj fun e => ?_⟩
  · refine hown'.snoc hu hbm hm ⟨h1, h2, h3, h4, h5⟩ (by rw [h1]; exact k1) k2 ?_
    intro b hb
    have hgb : g = b := by simpa [Value.ownBlock] using hb
    subst hgb
    rcases k3 with h | h
    · exact .inl h
    · exact .inr (by omega)
  · have := h2.place e.symm
    omega

/-- What the loop keeps: the answer's box, the term's, its copies. -/
def TermI (w : World) (z : Int) (s : List Int) (sv : Value) (m : Nat) (u : Value) (gs : List (List Int)) (wr : World) : Prop :=
  Bk wr w.heap.size #[.int .i64 0, .slice none 0 0, .slice none 0 0] 49 ∧ Bk wr m #[.int .i64 z, sv, u] 49 ∧ OwnV 3 (w.heap.size + 1) m wr sv (intVals s) ∧ OwR 24 3 (m + 1) wr.heap.size wr u gs ∧ Below w.heap.size w wr ∧ m + 1 ≤ wr.heap.size ∧ w.heap.size + 1 ≤ m

set_option maxRecDepth 100000 in
set_option maxHeartbeats 3200000 in
theorem i_termof (z : Int) (s : List Int) (L : List (List Int)) (a v : Value) (w : World) (hs : Sl w a (intVals s)) (hv : Rw w v L) (h0 : 0 < s.length ∧ s.length ≤ 1048576) (hl : L.length ≤ 1048576) (hr : ∀ (i : Nat) (h : i < L.length), 0 < L[i].length ∧ L[i].length ≤ 1048576) :
    Calls Try.prog 86 #[.int .i64 z, a, v] w (MadeT w (z, s, L)) := by
  have HV := Lib.hid hv
  have HS := Lib.hid hs
  have HR := Lib.hid hr
  obtain ⟨va, vc, rfl, vm, _⟩ := hv.shape
  obtain ⟨aa, ac, rfl, am, _⟩ := hs.shape
  simp only [intVals_len] at am HS ⊢
  unfold maxLen at am vm
  have K0 := Lib.hid (Bk.new w #[.int .i64 0, .slice none 0 0, .slice none 0 0] 49)
  have B0 := Lib.hid (below1 w (.cells #[.int .i64 0, .slice none 0 0, .slice none 0 0] 49))
  have Z0 := Lib.hid (show (w.alloc (.cells #[.int .i64 0, .slice none 0 0, .slice none 0 0] 49)).heap.size = w.heap.size + 1 by simp)
  clear hs hv hr
  go_enter Try.func86, Try.ntmps86
  go_wp2_with fail
  refine (i_clone s aa s.length ac _ h0.1 h0.2 (HS.out.below B0.out)).mono ?_
  rintro e w1 ⟨⟨r, rfl, ho⟩, hb⟩
  have S1 := Lib.hid hb.size
  have B1 := Lib.hid (B0.out.trans (hb.mono B0.out.size))
  have K1 := Lib.hid (K0.out.below hb)
  obtain ⟨ra, rc, rfl, _⟩ := ho.shape1
  rw [intVals_len] at ho ⊢
  have BX := Lib.hid (below1 w1 (.cells #[.int .i64 z, .slice ra s.length rc, .slice none 0 0] 49))
  have I0 := Lib.hid (show TermI w z s (.slice ra s.length rc) w1.heap.size (.slice none 0 0) [] (w1.alloc (.cells #[.int .i64 z, .slice ra s.length rc, .slice none 0 0] 49)) from
    ⟨K1.out.below BX.out, Bk.new w1 _ _, by have h := ho.below BX.out; rw [Z0.out] at h; exact h, OwR.nil, B1.out.trans (BX.out.mono B1.out.size), by simp, by have := S1.out; rw [Z0.out] at this; exact this⟩)
  clear hb ho
  go_wp2_with fail
  go_loopw [16] (fun i wr => ∃ (k : Nat) (u : Value), k ≤ L.length ∧ i = .int .i64 k ∧ TermI w z s (.slice ra s.length rc) w1.heap.size u (L.take k) wr) (fun i _ => L.length - (RowKit.intOf i).toNat)
  case atStart => exact ⟨0, _, Nat.zero_le _, rfl, I0.out⟩
  case round =>
    obtain ⟨k, u, hk, rfl, hci⟩ := hrel
    have HC := Lib.hid hci
    clear hci
    obtain ⟨⟨-, -, m2⟩, -, -, mf2⟩ := HC.out.2.1.tri
    by_cases hlt : k < L.length
    · obtain ⟨b, off, y, rfl, hb2, hcell, hsx⟩ := HV.out.row k hlt rfl
      rw [← HC.out.2.2.2.2.1.cell (p := ⟨b, off + k, none⟩) hb2] at hcell
      have HX := Lib.hid (hsx.below HC.out.2.2.2.2.1)
      obtain ⟨ya, yc, rfl, _, _⟩ := hsx.shape
      rw [intVals_len] at hcell HX
      have HRk := Lib.hid (HR.out k hlt)
      have ht : (L.take k).length = k := by rw [List.length_take]; omega
      obtain ⟨ua, uc, rfl, hum, _⟩ := HC.out.2.2.2.1.rw.shape
      rw [ht] at m2 HC
      have HT := Lib.hid ht
      have LW := Lib.hid HC.out.2.2.2.2.2.1
      have CC := Lib.hid (fun W (hb : Below wr.heap.size wr W) => i_clone L[k] ya L[k].length yc W HRk.out.1 HRk.out.2 (HX.out.below hb))
      clear ht hum hsx hb2
      go_wp2_with fail
      refine T_begin (z := fun k => 5 < k) (S := fun (w' : World) => w'.cell? ⟨w1.heap.size, 2, none⟩ = some (.slice ua k uc)) (by kernel_rfl) ?_
      show wpAnyT _ _ _ _ _ _ 8 _ _ _
      have hS0 := Lib.hid (show (fun (w' : World) => w'.cell? ⟨w1.heap.size, 2, none⟩ = some (.slice ua k uc)) wr.drew from m2)
      refine T_take (i := 0) (v := .pointer (some ⟨w1.heap.size, 2, none⟩)) rfl (by kernel_rfl) (by kernel_rfl) (by kernel_rfl) (by kernel_rfl) (fun _ _ _ h => h) hS0.out (by kernel_rfl) (fun w' hS' => by go_simp) ?_
      refine T_take (i := 1) (v := .slice ua k uc) rfl (by kernel_rfl) (by kernel_rfl) (by kernel_rfl) (by kernel_rfl) (fun _ _ _ h => h) hS0.out (by kernel_rfl) (fun w' hS' => by (try dsimp only at hS'); go_simp) ?_
      refine T_take (i := 2) (v := .slice ya L[k].length yc) rfl (by kernel_rfl) (by kernel_rfl) (by kernel_rfl) (by kernel_rfl) (fun _ _ _ h => h) hS0.out (by kernel_rfl) (fun w' hS' => by go_simp) ?_
      refine T_step (i := 3) rfl (by kernel_rfl) rfl (by kernel_rfl) ?_
      intro K hK
      go_simp
      refine (CC.out _ (Below.refl _ _).drew).mono ?_
      rintro e w2 ⟨⟨x, rfl, ho⟩, hb⟩
      have hb : Below wr.heap.size wr w2 := (Below.refl _ _).drew.trans hb
      obtain ⟨xa, xc, rfl, _⟩ := ho.shape1
      rw [intVals_len] at ho ⊢
      have HO := Lib.hid (show OwnV 3 wr.heap.size w2.heap.size w2 _ _ from ho)
      have HB := Lib.hid hb
      have s1 := Lib.hid ((hb.cell (p := ⟨w1.heap.size, 2, none⟩) (by show w1.heap.size < wr.heap.size; have := LW.out; omega)).trans m2)
      clear ho hb m2 hS0 hcell mf2
      refine hK.out _ _ s1.out ?_
      clear hK K
      refine T_step (i := 4) rfl (by kernel_rfl) rfl (by kernel_rfl) ?_
      intro K hK
      go_simp
      have hb3 := below1 w2 (.cells #[.slice xa L[k].length xc] 24)
      have s2 := (hb3.cell (p := ⟨w1.heap.size, 2, none⟩) (by show w1.heap.size < w2.heap.size; have h1 := LW.out; have h2 := HB.out.size; omega)).trans s1.out
      have HB3 := Lib.hid (show Below wr.heap.size wr (w2.alloc (.cells #[.slice xa L[k].length xc] 24)) from HB.out.trans (hb3.mono HB.out.size))
      have HO2 := Lib.hid (HO.out.below hb3)
      have HN := Lib.hid (heap_alloc_new w2 (.cells #[.slice xa L[k].length xc] 24))
      have HRo := Lib.hid (HC.out.2.2.2.1.below HB3.out)
      have HZ := Lib.hid hb3.size
      refine hK.out _ _ s2 ?_
      clear hK K s1 s2 hb3 HO
      refine T_step (i := 5) rfl (by kernel_rfl) rfl (by kernel_rfl) ?_
      intro K hK
      refine wp_app_row _ _ (by rfl) (w1.heap.size + 1) wr.heap.size _ _ (L.take k) L[k] (by rfl) HRo.out (HO2.out.mono (Nat.le_refl _) HZ.out) w2.heap.size (by rfl) HN.out (by have := HT.out; omega) LW.out HB3.out.size ?_
      intro g cap w3 ho hk2
      rw [HT.out, ← List.take_succ_eq_append_getElem hlt] at ho
      rw [HT.out]
      have hs2 : w1.heap.size + 1 ≤ (w2.alloc (.cells #[.slice xa L[k].length xc] 24)).heap.size := Nat.le_trans LW.out HB3.out.size
      have hw1 := HC.out.2.2.2.2.2.2
      have P1 := Lib.hid ((HC.out.1.below HB3.out).kept hk2 (.inl (by omega)))
      have P2 := Lib.hid ((HC.out.2.1.below HB3.out).kept hk2 (.inl (by omega)))
      have P3 := Lib.hid ((HC.out.2.2.1.below HB3.out).kept hk2 (.inl (by omega)))
      have P4 := Lib.hid (HC.out.2.2.2.2.1.trans ((HB3.out.mono HC.out.2.2.2.2.1.size).trans (hk2.below (by omega) (by have := HC.out.2.2.2.2.1.size; have := HB3.out.size; omega))))
      have P5 := Lib.hid ho
      have P6 := Lib.hid (Nat.le_trans hs2 hk2.size)
      have s3 := P2.out.tri.1.2.2
      clear ho hk2 hs2 HRo HO2 HN HZ
      refine hK.out _ _ s3 ?_
      clear hK K s3
      refine T_anytake (i := 6) (v := .pointer (some ⟨w1.heap.size, 2, none⟩)) rfl (by kernel_rfl) (by kernel_rfl) (by kernel_rfl) rfl (fun _ _ _ h => h) rfl (fun w' => by go_simp) ?_
      obtain ⟨⟨-, -, q0⟩, -, -, q1⟩ := P2.out.tri
      refine T_last (i := 7) rfl (by kernel_rfl) (by kernel_rfl) rfl rfl ?_
      go_simp
      go_wp2_with fail
      have W9 := Lib.hid hw1
      have KP := Lib.hid ((Kept.refl w1.heap.size (w1.heap.size + 1) w3).setCell (p := ⟨w1.heap.size, 2, none⟩) (Nat.le_refl _) (Nat.lt_succ_self _) (.slice (some ⟨g, 0, none⟩) (k + 1) cap))
      exact ⟨⟨k + 1, _, by omega, by go_num, P1.out.kept KP.out (.inl (by omega)), P2.out.tri2 _, P3.out.kept KP.out (.inl (Nat.le_refl _)), (P5.out.kept KP.out (.inr (Nat.le_refl _))).mono (Nat.le_refl _) (by simp [World.setCell]), P4.out.setCell (by show w.heap.size ≤ w1.heap.size; omega) _, by simpa [World.setCell] using P6.out, hw1⟩, by simp [RowKit.intOf]; omega⟩
    · obtain rfl : k = L.length := by omega
      obtain ⟨k0, k1, k2, k3, k4, k5, k6⟩ := HC.out
      rw [List.take_length] at k3
      obtain ⟨ua, uc, rfl, hum, _⟩ := k3.rw.shape
      have HA := Lib.hid k3
      have HS2 := Lib.hid k2
      obtain ⟨⟨m0, m1, m2⟩, -⟩ := k1.tri
      obtain ⟨⟨p0, p1, p2⟩, pf0, pf1, pf2⟩ := k0.tri
      clear hum k0 k1 k2 k3
      go_wp2_with fail
      refine bodyPost_ret (v := .agg #[.int .i64 z, .slice ra s.length rc, .slice ua L.length uc]) ?_ rfl ⟨⟨_, rfl, _, _, rfl, ?_⟩, ((k4.setCell (by simp) _).setCell (by simp) _).setCell (by simp) _⟩
      · simp [results, Try.results86, go_sem, p0, p1, p2]
      · have hkk := (((Kept.refl w.heap.size (w.heap.size + 1) wr).setCell (p := ⟨w.heap.size, 0, none⟩) (Nat.le_refl _) (Nat.lt_succ_self _) (.int .i64 z)).setCell (p := ⟨w.heap.size, 1, none⟩) (Nat.le_refl _) (Nat.lt_succ_self _) (.slice ra s.length rc)).setCell (p := ⟨w.heap.size, 2, none⟩) (Nat.le_refl _) (Nat.lt_succ_self _) (.slice ua L.length uc)
        exact ⟨_, _, w.heap.size + 1, w1.heap.size, w1.heap.size + 1, wr.heap.size, rfl, HS2.out.kept hkk (.inr (Nat.le_refl _)), HA.out.kept hkk (.inr (by omega)), ⟨by omega, k6, by simp [World.setCell]; omega⟩, ⟨by omega, k5, by simp [World.setCell]⟩, .inl (by omega)⟩
end Go.Proofs.Ytjijgagdaolkcaa
/- The program's series of a cone. -/
namespace Go.Proofs.Ytjijgagdaolkcaa
open Go Go.RowKit Go.Lib

theorem ETm.one {lo hi : Nat} {w : World} {cs : List Value} {y : Tm} (hy : ETm lo hi w cs y) : ∀ c ∈ cs, c.oneCell' = true := by
  obtain ⟨u2, g2, _, _, _, _, rfl, o1, ⟨vs, _, o2, _⟩, _⟩ := hy
  intro c hc
  simp only [List.mem_cons, List.not_mem_nil, or_false] at hc
  rcases hc with rfl | rfl | rfl
  · rfl
  · exact own_one o1
  · exact own_one o2
/-- append(terms, term) at a plain list of operations. -/
theorem list_app_term {ops : Array Oper} {rest : List Oper} {o : Oper} {a : Act} {w : World} {Q : Exit → Act → World → Prop} (hgd : o.guard = none) (s x : Operand)
    (ho : o.op = .call { callee := .builtin .append, args := #[s, x], argTypes := #[45, 45] })
    (lo m : Nat) (v : Value) (l : List Tm) (y : Tm) (z u g' : Value) (hv : a.eval s = v) (hown : OwT lo m w v l) (hy : ETm m w.heap.size w [z, u, g'] y)
    (H : Nat) (hx : a.eval x = .slice (some ⟨H, 0, none⟩) 1 1) (hnew : w.heap[H]? = some (.cells #[z, u, g'] 49 (0, 0)))
    (hn : l.length ≤ 1099511627776) (hlm : lo ≤ m) (hm : m ≤ w.heap.size)
    (kk : ∀ g cap w', OwT lo w'.heap.size w' (.slice (some ⟨g, 0, none⟩) (l.length + 1) cap) (l ++ [y]) → Kept lo m w w' → wpList Try.prog ops Q rest (a.put o.dst (.slice (some ⟨g, 0, none⟩) (l.length + 1) cap)) w') : wpList Try.prog ops Q (o :: rest) a w := by
  obtain ⟨i0, hi, hz0, hz1, hz2⟩ := info_parts info_term
  have hone := hy.one
  obtain ⟨fs, A, B, hown⟩ := hown
  refine wpList_append_lies w hgd s x 45 ho lo 49 i0 _ 3 56 Try.underlying45 hi hz0 hz1 hz2 rfl (by omega) v l.length fs hv hown.own ⟨H, 0, none⟩ 1 1 [z, u, g'] hx (by rfl) (World.news_of_block (cs := #[z, u, g']) hnew) hone (by omega) (by unfold maxLen; omega) (by omega) (by omega) w.heap.size rfl ?_
  intro g cap w' k1 k2 k3 k4
  refine kk g cap w' ⟨_, _, _, hown.snoc keepsT hlm rfl hy (Nat.le_refl _) hm (Nat.le_refl _) k1 k2 ?_⟩ ⟨k2.os, k2.tape, k2.output, k2.size, fun j hj ho => k2.block j hj fun e => ?_⟩
  · intro b hb
    have hgb : g = b := by simpa [Value.ownBlock] using hb
    subst hgb
    rcases k3 with h | h
    · exact .inl h
    · exact .inr (by omega)
  · have h1 := hown.lt j e.symm
    have h2 := (hown.own.lt j e.symm).1
    omega
/-- One row, two rows in a block made for them. -/
theorem rw_mk1 {w : World} {u : Value} {g : List Int} (h : Sl w u (intVals g)) : Rw (w.alloc (.cells #[u] 24)) (.slice (some ⟨w.heap.size, 0, none⟩) 1 1) [g] := by
  have K := Bk.new w #[u] 24
  have hb := below1 w (.cells #[u] 24)
  refine ⟨[u], rfl, .inr ⟨by simp, w.heap.size, 0, 1, rfl, by simp, by unfold maxLen; simp, K.lt, fun i x hi => ?_⟩, fun i x zs hx hz => ?_⟩
  · match i, hi with
    | 0, hi => simp only [List.getElem?_cons_zero, Option.some.injEq] at hi; subst hi; exact K.cell 0 rfl
  · match i, hx with
    | 0, hx =>
      simp only [List.getElem?_cons_zero, Option.some.injEq] at hx hz
      subst hx; subst hz
      exact h.below hb
theorem rw_mk2 {w : World} {u y : Value} {g k : List Int} (h : Sl w u (intVals g)) (h2 : Sl w y (intVals k)) : Rw (w.alloc (.cells #[u, y] 24)) (.slice (some ⟨w.heap.size, 0, none⟩) 2 2) [g, k] := by
  have K := Bk.new w #[u, y] 24
  have hb := below1 w (.cells #[u, y] 24)
  refine ⟨[u, y], rfl, .inr ⟨by simp, w.heap.size, 0, 2, rfl, by simp, by unfold maxLen; simp, K.lt, fun i x hi => ?_⟩, fun i x zs hx hz => ?_⟩
  · match i, hi with
    | 0, hi => simp only [List.getElem?_cons_zero, Option.some.injEq] at hi; subst hi; exact K.cell 0 rfl
    | 1, hi => simp only [List.getElem?_cons_succ, List.getElem?_cons_zero, Option.some.injEq] at hi; subst hi; exact K.cell 1 rfl
  · match i, hx with
    | 0, hx =>
      simp only [List.getElem?_cons_zero, Option.some.injEq] at hx hz
      subst hx; subst hz
      exact h.below hb
    | 1, hx =>
      simp only [List.getElem?_cons_succ, List.getElem?_cons_zero, Option.some.injEq] at hx hz
      subst hx; subst hz
      exact h2.below hb
theorem split_two {c : Cn} (h : coneR c = true) : 2 ≤ (splitR c).length := by
  obtain ⟨_, _, hd, ht⟩ := coneR_t h
  unfold splitR
  rw [if_pos h, List.length_map, raysL_step ht hd, List.length_cons]
  have : 0 < (raysL (nxP (ptOf c.1) (ptOf c.2)) (ptOf c.2)).length := raysF_pos _ _
  omega
theorem split_len2 (c : Cn) : ∀ (i : Nat) (h : i < (splitR c).length), 0 < (splitR c)[i].length ∧ (splitR c)[i].length ≤ 1048576 := by
  intro i h
  unfold splitR at h ⊢
  split at h
  · rename_i hc
    simp only [hc, if_true] at h ⊢
    rw [List.getElem_map]
    simp [rowOf]
  · simp at h
theorem getD_at {L : List (List Int)} {k : Nat} (h : k < L.length) : L.getD k [] = L[k] := by rw [List.getD_eq_getElem?_getD, List.getElem?_eq_getElem h]; rfl

set_option maxRecDepth 100000 in
set_option maxHeartbeats 6400000 in
theorem i_series (c : Cn) (s : List Int) (v a : Value) (w : World) (hv : Cv w v c) (hx : Sl w a (intVals s)) :
    Calls Try.prog 33 #[v, a] w (GotTs w (seriesR c s)) := by
  have HC := Lib.hid hv
  have HX0 := Lib.hid hx
  obtain ⟨u, t, rfl, _, _⟩ := hv
  have K0 := Lib.hid (Bk.new w #[u, t] 26)
  have B0 := Lib.hid (below1 w (.cells #[u, t] 26))
  clear hx
  have ES := Lib.hid (fun h1 h2 h3 => seriesR_e (c := c) (s := s) h1 h2 h3)
  have EF := Lib.hid (fun h => seriesR_f (c := c) (s := s) h)
  have E2L := Lib.hid (fun h => split_two (c := c) h)
  have LR := Lib.hid (split_len2 c)
  have L18 := splitR_len c
  have CSP := Lib.hid (fun v W (h : Cv W v c) => i_split c v W h)
  generalize seriesR c s = R at ES EF ⊢
  generalize splitR c = L at CSP LR ES EF E2L L18
  obtain ⟨⟨l0, l1⟩, -⟩ := K0.out.two
  go_enter Try.func33, Try.ntmps33
  go_wp2_with fail
  refine (i_cone c _ _ (HC.out.below B0.out)).mono ?_
  rintro e w1 ⟨rfl, hb⟩
  have B1 := Lib.hid (B0.out.trans (hb.mono B0.out.size))
  have K1 := Lib.hid (K0.out.below hb)
  clear hb l0 l1
  cases h1 : coneR c
  · have E := Lib.hid (EF.out (fun h => by rw [h1] at h; exact absurd h.1 (by decide)))
    clear h1
    go_wp2_with fail
    go_ret2
    rw [E.out]
    exact ⟨⟨_, rfl, OwL.nil⟩, B1.out⟩
  have C1 := Lib.hid h1
  have L2 := Lib.hid (E2L.out h1)
  clear h1
  obtain ⟨⟨l0, l1⟩, -⟩ := K1.out.two
  go_wp2_with fail
  refine (i_plane s _ _ (HX0.out.below B1.out)).mono ?_
  rintro e w2 ⟨rfl, hb⟩
  have B2 := Lib.hid (B1.out.trans (hb.mono B1.out.size))
  have K2 := Lib.hid (K1.out.below hb)
  clear hb l0 l1
  cases h2 : (isV s && decide (s.length = 2))
  · have E := Lib.hid (EF.out (fun h => by have k : planeR s = false := h2; rw [k] at h; exact absurd h.2.1 (by decide)))
    clear h2
    go_wp2_with fail
    go_ret2
    rw [E.out]
    exact ⟨⟨_, rfl, OwL.nil⟩, B2.out⟩
  have PX := Lib.hid (show planeR s = true from h2)
  have SL := Lib.hid (show 0 < s.length ∧ s.length ≤ 1048576 by have := (planeR_t PX.out).2.1; omega)
  clear h2
  obtain ⟨⟨l0, l1⟩, -⟩ := K2.out.two
  go_wp2_with fail
  refine (CSP.out _ _ (HC.out.below B2.out)).mono ?_
  rintro e w3 ⟨⟨sv, rfl, ho⟩, hb⟩
  have B3 := Lib.hid (B2.out.trans (hb.mono B2.out.size))
  have hL2 := L2.out
  obtain ⟨lb, lc, rfl, ll⟩ : ∃ lb lc, sv = .slice (some ⟨lb, 0, none⟩) L.length lc ∧ L.length ≤ lc := by
    obtain ⟨vs, v1, v2, _⟩ := ho
    rcases v2 with ⟨e2, _⟩ | ⟨g, cap2, cur, e2, _, _, _, hc, _⟩
    · rw [e2] at v1; simp only [List.length_nil] at v1; omega
    · exact ⟨g, cap2, by rw [e2, v1], by omega⟩
  have HL := Lib.hid ho
  have HX := Lib.hid (HX0.out.below B3.out)
  clear hb ho l0 l1
  have i1 : ¬ lc = 1 := by omega
  have i2 : (1 : Int) ≤ (L.length : Int) := by omega
  have i3 : (1 : Int) ≤ (lc : Int) := by omega
  have i4 : (L.length : Int) ≤ (lc : Int) := by omega
  go_wp2_with fail
  go_loopw [6, 25] (fun q i wr => ∃ k : Nat, k + 1 ≤ L.length ∧ i = .int .i64 k ∧ OwT w3.heap.size wr.heap.size wr q (pairsT s L k) ∧ Below w3.heap.size w3 wr) (fun _ i _ => L.length - (RowKit.intOf i).toNat)
  case atStart => exact ⟨0, by omega, rfl, OwL.nil, Below.refl _ _⟩
  case round =>
    obtain ⟨k, hk, rfl, ho, hbr⟩ := hrel
    by_cases hlt : k + 1 < L.length
    · skip
      have HLr := Lib.hid (HL.out.below hbr)
      have HXr := Lib.hid (HX.out.below hbr)
      have HO := Lib.hid ho
      have HBr := Lib.hid hbr
      obtain ⟨b0, o0, x0, e0, hb0, hc0, hs0⟩ := HLr.out.rw.row k (by omega) rfl
      simp only [Option.some.injEq, Addr.mk.injEq, and_true] at e0
      obtain ⟨rfl, rfl⟩ := e0
      obtain ⟨G0, hG0⟩ : ∃ G, L.getD k [] = G := ⟨_, rfl⟩
      rw [Nat.zero_add] at hc0
      rw [← getD_at (by omega), hG0] at hs0
      have GL0 := Lib.hid (show 0 < G0.length ∧ G0.length ≤ 1048576 by rw [← hG0, getD_at (by omega)]; exact LR.out k (by omega))
      obtain ⟨y0, z0, rfl, _, _⟩ := hs0.shape
      rw [intVals_len] at hs0 hc0
      obtain ⟨b1, o1, x1, e1, hb1, hc1, hs1⟩ := HLr.out.rw.row (k + 1) (by omega) rfl
      simp only [Option.some.injEq, Addr.mk.injEq, and_true] at e1
      obtain ⟨rfl, rfl⟩ := e1
      obtain ⟨G1, hG1⟩ : ∃ G, L.getD (k + 1) [] = G := ⟨_, rfl⟩
      rw [Nat.zero_add, Nat.add_comm k 1] at hc1
      rw [← getD_at (by omega), hG1] at hs1
      have GL1 := Lib.hid (show 0 < G1.length ∧ G1.length ≤ 1048576 by rw [← hG1, getD_at (by omega)]; exact LR.out (k + 1) (by omega))
      obtain ⟨y1, z1, rfl, _, _⟩ := hs1.shape
      rw [intVals_len] at hs1 hc1
      have RM := Lib.hid (show Rw (wr.alloc (.cells #[.slice y0 G0.length z0, .slice y1 G1.length z1] 24)) (.slice (some ⟨wr.heap.size, 0, none⟩) 2 2) [G0, G1] from rw_mk2 hs0 hs1)
      have BM := Lib.hid (below1 wr (.cells #[.slice y0 G0.length z0, .slice y1 G1.length z1] 24))
      have RL := Lib.hid (show ∀ (i : Nat) (h : i < ([G0, G1] : List (List Int)).length), 0 < ([G0, G1] : List (List Int))[i].length ∧ ([G0, G1] : List (List Int))[i].length ≤ 1048576 from fun i h => by
        rcases (by simp at h; omega : i = 0 ∨ i = 1) with rfl | rfl
        · exact GL0.out
        · exact GL1.out)
      have CT := Lib.hid (i_termof 1 s [G0, G1] a (.slice (some ⟨wr.heap.size, 0, none⟩) 2 2) _ (HXr.out.below BM.out) RM.out SL.out (by simp) RL.out)
      have LN := Lib.hid (show (pairsT s L k).length ≤ 4000 by rw [pairs_len]; omega)
      have NX := Lib.hid (show pairsT s L (k + 1) = (pairsT s L k) ++ [(1, s, [G0, G1])] by rw [pairs_next, hG0, hG1])
      have j1 : (0 : Int) ≤ (k : Int) := by omega
      have j2 : (k : Int) < (L.length : Int) := by omega
      have j3 : (k : Int) < ((L.length - 1 : Nat) : Int) := by omega
      clear ho hbr hs1 hG1 hs0 hG0
      go_wp2_with fail
      refine CT.out.mono ?_
      rintro e w5 ⟨⟨_, rfl, xu, xg, rfl, he⟩, hb5⟩
      have HB5 := Lib.hid (show Below wr.heap.size wr w5 from BM.out.trans (hb5.mono BM.out.size))
      obtain ⟨xa, xn, xb, xm, rfl, rfl⟩ := he.shape
      have HE := Lib.hid (he.mono (lo' := wr.heap.size) BM.out.size (Nat.le_refl _))
      have BN := Lib.hid (below1 w5 (.cells #[.int .i64 1, .slice xa s.length xn, .slice xb 2 xm] 49))
      clear hb5 he
      go_wp2_with (at_builtin; go_must (refine list_app_term rfl _ _ rfl w3.heap.size wr.heap.size _ (pairsT s L k) (1, s, [G0, G1]) _ _ _ rfl (OwL.below keepsT HO.out (HB5.out.trans (BN.out.mono HB5.out.size))) ((HE.out.below BN.out).mono (Nat.le_refl _) BN.out.size) w5.heap.size rfl (heap_alloc_new w5 _) (by have := LN.out; omega) HBr.out.size (Nat.le_trans HB5.out.size BN.out.size) ?_; intro g9 cap9 w9 ho9 hk9))
      have F9 := Lib.hid (And.intro (show OwT w3.heap.size w9.heap.size w9 _ (pairsT s L (k + 1)) by have h := ho9; rw [← NX.out] at h; exact h) (HBr.out.trans (((HB5.out.trans (BN.out.mono HB5.out.size)).mono HBr.out.size).trans (hk9.below (Nat.le_refl _) (Nat.le_trans HBr.out.size (Nat.le_trans HB5.out.size BN.out.size))))))
      clear ho9 hk9
      go_wp2_with fail
      exact ⟨⟨k + 1, by omega, by go_num, F9.out.1, F9.out.2⟩, by simp [RowKit.intOf]; omega⟩
    · obtain ⟨w4, hw4⟩ : ∃ q, q = wr := ⟨_, rfl⟩
      subst hw4
      have ek : k = L.length - 1 := by omega
      subst ek
      have F4 := Lib.hid (And.intro ho hbr)
      have k1 : ¬ ((L.length - 1 : Nat) : Int) < ((L.length - 1 : Nat) : Int) := by omega
      have k2 : IntKind.i64.wrap ((L.length : Int) - 1) = ((L.length - 1 : Nat) : Int) := by rw [IntWalk.i64_in _ (by omega)]; omega
      have k3 : (1 : Int) ≤ ((L.length - 1 : Nat) : Int) := by omega
      have k4 : ((L.length - 1 : Nat) : Int) ≤ (lc : Int) := by omega
      have k5 : (0 : Int) ≤ ((L.length - 1 : Nat) : Int) := by omega
      clear ho hbr
      go_wp2_with fail
      go_loopw [6, 48] (fun q i wr => ∃ k : Nat, k + 2 ≤ L.length ∧ i = .int .i64 k ∧ OwT w3.heap.size wr.heap.size wr q (pairsT s L (L.length - 1) ++ onesT s L k) ∧ Below w3.heap.size w3 wr) (fun _ i _ => L.length - (RowKit.intOf i).toNat)
      case atStart => exact ⟨0, by omega, rfl, by rw [show onesT s L 0 = [] from rfl, List.append_nil]; exact F4.out.1, F4.out.2⟩
      case round =>
        obtain ⟨k, hk, rfl, ho, hbr⟩ := hrel
        by_cases hlt : k + 2 < L.length
        · skip
          have HLr := Lib.hid (HL.out.below hbr)
          have HXr := Lib.hid (HX.out.below hbr)
          have HO := Lib.hid ho
          have HBr := Lib.hid hbr
          obtain ⟨b1, o1, x1, e1, hb1, hc1, hs1⟩ := HLr.out.rw.row (k + 1) (by omega) rfl
          simp only [Option.some.injEq, Addr.mk.injEq, and_true] at e1
          obtain ⟨rfl, rfl⟩ := e1
          obtain ⟨G1, hG1⟩ : ∃ G, L.getD (k + 1) [] = G := ⟨_, rfl⟩
          rw [Nat.zero_add, Nat.add_comm k 1] at hc1
          rw [← getD_at (by omega), hG1] at hs1
          have GL1 := Lib.hid (show 0 < G1.length ∧ G1.length ≤ 1048576 by rw [← hG1, getD_at (by omega)]; exact LR.out (k + 1) (by omega))
          obtain ⟨y1, z1, rfl, _, _⟩ := hs1.shape
          rw [intVals_len] at hs1 hc1
          have RM := Lib.hid (show Rw (wr.alloc (.cells #[.slice y1 G1.length z1] 24)) (.slice (some ⟨wr.heap.size, 0, none⟩) 1 1) [G1] from rw_mk1 hs1)
          have BM := Lib.hid (below1 wr (.cells #[.slice y1 G1.length z1] 24))
          have RL := Lib.hid (show ∀ (i : Nat) (h : i < ([G1] : List (List Int)).length), 0 < ([G1] : List (List Int))[i].length ∧ ([G1] : List (List Int))[i].length ≤ 1048576 from fun i h => by
            obtain rfl : i = 0 := by simp at h; omega
            exact GL1.out)
          have CT := Lib.hid (i_termof (-1) s [G1] a (.slice (some ⟨wr.heap.size, 0, none⟩) 1 1) _ (HXr.out.below BM.out) RM.out SL.out (by simp) RL.out)
          have LN := Lib.hid (show (pairsT s L (L.length - 1) ++ onesT s L k).length ≤ 4000 by rw [List.length_append, pairs_len, ones_len]; omega)
          have NX := Lib.hid (show pairsT s L (L.length - 1) ++ onesT s L (k + 1) = (pairsT s L (L.length - 1) ++ onesT s L k) ++ [((-1), s, [G1])] by rw [ones_next, hG1, List.append_assoc])
          have j1 : (0 : Int) ≤ (k : Int) := by omega
          have j2 : (k : Int) < (L.length : Int) := by omega
          have j3 : (k : Int) < ((L.length - 2 : Nat) : Int) := by omega
          have j4 : (k : Int) < ((L.length - 1 - 1 : Nat) : Int) := by omega
          clear ho hbr hs1 hG1
          go_wp2_with fail
          refine CT.out.mono ?_
          rintro e w5 ⟨⟨_, rfl, xu, xg, rfl, he⟩, hb5⟩
          have HB5 := Lib.hid (show Below wr.heap.size wr w5 from BM.out.trans (hb5.mono BM.out.size))
          obtain ⟨xa, xn, xb, xm, rfl, rfl⟩ := he.shape
          have HE := Lib.hid (he.mono (lo' := wr.heap.size) BM.out.size (Nat.le_refl _))
          have BN := Lib.hid (below1 w5 (.cells #[.int .i64 (-1), .slice xa s.length xn, .slice xb 1 xm] 49))
          clear hb5 he
          go_wp2_with (at_builtin; go_must (refine list_app_term rfl _ _ rfl w3.heap.size wr.heap.size _ (pairsT s L (L.length - 1) ++ onesT s L k) ((-1), s, [G1]) _ _ _ rfl (OwL.below keepsT HO.out (HB5.out.trans (BN.out.mono HB5.out.size))) ((HE.out.below BN.out).mono (Nat.le_refl _) BN.out.size) w5.heap.size rfl (heap_alloc_new w5 _) (by have := LN.out; omega) HBr.out.size (Nat.le_trans HB5.out.size BN.out.size) ?_; intro g9 cap9 w9 ho9 hk9))
          have F9 := Lib.hid (And.intro (show OwT w3.heap.size w9.heap.size w9 _ (pairsT s L (L.length - 1) ++ onesT s L (k + 1)) by have h := ho9; rw [← NX.out] at h; exact h) (HBr.out.trans (((HB5.out.trans (BN.out.mono HB5.out.size)).mono HBr.out.size).trans (hk9.below (Nat.le_refl _) (Nat.le_trans HBr.out.size (Nat.le_trans HB5.out.size BN.out.size))))))
          clear ho9 hk9
          go_wp2_with fail
          exact ⟨⟨k + 1, by omega, by go_num, (by first | exact F9.out.1 | simpa only [List.length_append] using F9.out.1), F9.out.2⟩, by simp [RowKit.intOf]; omega⟩
        · have ei : k = L.length - 2 := by omega
          subst ei
          have F6 := Lib.hid (And.intro ho hbr)
          have k6 : ¬ ((L.length - 2 : Nat) : Int) < ((L.length - 2 : Nat) : Int) := by omega
          have k7 : ¬ ((L.length - 2 : Nat) : Int) < ((L.length - 1 - 1 : Nat) : Int) := by omega
          have LL := Lib.hid (show (pairsT s L (L.length - 1) ++ onesT s L (L.length - 2)).length = 2 * L.length - 3 by rw [List.length_append, pairs_len, ones_len]; omega)
          obtain ⟨fa, fc, rfl, _, _⟩ := OwL.shape ho
          rw [LL.out] at F6 ⊢
          clear ho hbr
          by_cases h60 : 2 * L.length - 3 ≤ 60
          · have E := Lib.hid (ES.out C1.out PX.out h60)
            have k8 : ¬ (60 : Int) < ((2 * L.length - 3 : Nat) : Int) := by omega
            go_wp2_with fail
            go_ret2
            rw [E.out]
            exact ⟨⟨_, rfl, F6.out.1.mono B3.out.size (Nat.le_refl _)⟩, B3.out.trans (F6.out.2.mono B3.out.size)⟩
          · have E := Lib.hid (EF.out (fun h => h60 h.2.2))
            have k8 : (60 : Int) < ((2 * L.length - 3 : Nat) : Int) := by omega
            go_wp2_with fail
            go_ret2
            rw [E.out]
            exact ⟨⟨_, rfl, OwL.nil⟩, B3.out.trans (F6.out.2.mono B3.out.size)⟩
end Go.Proofs.Ytjijgagdaolkcaa
