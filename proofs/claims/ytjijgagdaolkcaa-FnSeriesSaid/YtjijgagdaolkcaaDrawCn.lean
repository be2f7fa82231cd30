/- A drawn cone (l9Draw, l9Bent) and the draws of FnCones. -/
import Derived.Test.YtjijgagdaolkcaaMaw
import Derived.Test.YtjijgagdaolkcaaMay
import Derived.Test.YtjijgagdaolkcaaDrawVec
import Derived.Test.YtjijgagdaolkcaaMag
namespace Go.Proofs.Ytjijgagdaolkcaa
open Go Go.RowKit Go.Lib

/-- A cone was drawn: two lists of the call's own. -/
def DrewCn (base p : Nat) (w : World) (e : Ending) (w' : World) : Prop :=
  (∃ (c : Cn) (u t : Value), e = .returned (.agg #[u, t]) ∧ OwC w.heap.size w'.heap.size w' u t c) ∧ CurAt base w' p ∧ Kept p (p + 1) w w'
/-- Both are stored into the answer's block, which this call made. -/
theorem drew_ret {base p : Nat} {w W : World} {u t : Value} {c : Cn} (hp : p < w.heap.size) (hc : CurAt base W p) (hk : Kept p (p + 1) w W) (ho : OwC (w.heap.size + 1) W.heap.size W u t c) :
    DrewCn base p w (.returned (.agg #[u, t])) ((W.setCell ⟨w.heap.size, 0, none⟩ u).setCell ⟨w.heap.size, 1, none⟩ t) := by
  have hb : Below w.heap.size W ((W.setCell ⟨w.heap.size, 0, none⟩ u).setCell ⟨w.heap.size, 1, none⟩ t) := ((Below.refl _ _).setCell (p := ⟨w.heap.size, 0, none⟩) (Nat.le_refl _) _).setCell (p := ⟨w.heap.size, 1, none⟩) (Nat.le_refl _) _
  refine ⟨⟨c, u, t, rfl, ?_⟩, hc.belowB hb hp, hk.andB hb⟩
  exact (ho.kept (((Kept.refl w.heap.size (w.heap.size + 1) W).setCell (p := ⟨w.heap.size, 0, none⟩) (Nat.le_refl _) (Nat.lt_succ_self _) _).setCell (p := ⟨w.heap.size, 1, none⟩) (Nat.le_refl _) (Nat.lt_succ_self _) _) (.inr (Nat.le_refl _))).mono (Nat.le_succ _) (by simp [World.setCell])
theorem prim_bd {zs : List Int} (hl : zs.length = 2) (hb : Bd zs 6) : ∃ p : P2, primL zs = rowOf p ∧ BdP 4000 p := by
  match zs, hl with
  | [a, b], _ =>
    have h0 := hb 0 (by simp)
    have h1 := hb 1 (by simp)
    simp only [List.getElem_cons_zero, List.getElem_cons_succ] at h0 h1
    refine ⟨(a.tdiv (max (allG [a, b]) 1), b.tdiv (max (allG [a, b]) 1)), rfl, ?_⟩
    have q1 := Int.natAbs_tdiv_le_natAbs a (max (allG [a, b]) 1)
    have q2 := Int.natAbs_tdiv_le_natAbs b (max (allG [a, b]) 1)
    unfold BdP
    simp only
    omega
theorem own_apart {e : TypeId} {lo m hi : Nat} {w w' : World} {u t : Value} {xs ys : List Value} (hu : OwnV e lo m w u xs) (ht : OwnV e m hi w' t ys) : ∀ b, u.ownBlock = some b → t.ownBlock ≠ some b := fun b h1 h2 => by
  have := (hu.place h1).2.1
  have := (ht.place h2).1
  omega
theorem drew_new {base p : Nat} {w wr : World} {x y : Value} (hp : p < w.heap.size) (hc : CurAt base wr p) (hk : Kept p (p + 1) w wr) (hs : w.heap.size + 1 ≤ wr.heap.size) :
    DrewCn base p w (.returned (.agg #[.slice (some ⟨wr.heap.size, 0, none⟩) 2 2, .slice (some ⟨wr.heap.size + 1, 0, none⟩) 2 2])) ((((wr.setCell ⟨w.heap.size, 0, none⟩ x).setCell ⟨w.heap.size, 1, none⟩ y).alloc (.cells #[.int .i64 1, .int .i64 0] 3)).alloc (.cells #[.int .i64 2, .int .i64 5] 3)) := by
  obtain ⟨W, hW⟩ : ∃ W, (wr.setCell ⟨w.heap.size, 0, none⟩ x).setCell ⟨w.heap.size, 1, none⟩ y = W := ⟨_, rfl⟩
  have hz : W.heap.size = wr.heap.size := by rw [← hW]; simp [World.setCell]
  have hb : Below w.heap.size wr W := by rw [← hW]; exact ((Below.refl _ _).setCell (p := ⟨w.heap.size, 0, none⟩) (Nat.le_refl _) _).setCell (p := ⟨w.heap.size, 1, none⟩) (Nat.le_refl _) _
  rw [hW, ← hz]
  have hb2 := below2 W (.cells #[.int .i64 1, .int .i64 0] 3) (.cells #[.int .i64 2, .int .i64 5] 3)
  have K2 := Bk.pair W #[.int .i64 1, .int .i64 0] #[.int .i64 2, .int .i64 5] 3 3
  exact ⟨⟨([1, 0], [2, 5]), _, _, rfl, own_two K2.1 (by omega) K2.1.lt, own_two K2.2 (by omega) K2.2.lt, fun b h1 h2 => by cases h1; simp [Value.ownBlock] at h2⟩, (hc.belowB hb hp).below hb2, (hk.andB hb).then_below hb2⟩
set_option maxRecDepth 100000 in
set_option maxHeartbeats 3200000 in
theorem d_cone (base p : Nat) (w : World) (hc : CurAt base w p) :
    Calls Try.prog 89 #[.pointer (some ⟨p, 0, none⟩)] w (DrewCn base p w) := by
  have hp := hc.lt
  have K0 := Lib.hid (Bk.new w #[.slice none 0 0, .slice none 0 0] 26)
  have B0 := Lib.hid (below1 w (.cells #[.slice none 0 0, .slice none 0 0] 26))
  have C0 := Lib.hid (hc.below B0.out)
  clear hc
  go_enter Try.func89, Try.ntmps89
  go_wp2_with fail
  go_loopw [3] (fun i wr => ∃ k : Nat, k ≤ 6 ∧ i = .int .i64 k ∧ Bk wr w.heap.size #[.slice none 0 0, .slice none 0 0] 26 ∧ CurAt base wr p ∧ Kept p (p + 1) w wr) (fun i _ => 6 - (RowKit.intOf i).toNat)
  case atStart => exact ⟨0, Nat.zero_le _, rfl, K0.out, C0.out, Kept.of_below B0.out⟩
  case round =>
    obtain ⟨k, hk, rfl, hbk, hcur, hkp⟩ := hrel
    have KB := Lib.hid hbk
    have HC := Lib.hid hcur
    have HK := Lib.hid hkp
    have hpr : p < wr.heap.size := hcur.lt
    have SL := Lib.hid (show w.heap.size + 1 ≤ wr.heap.size from hbk.lt)
    clear hbk hcur hkp
    by_cases hlt : k < 6
    · go_wp2_with fail
      refine (d_draw base p 2 6 (by omega) (by omega) (by omega) _ HC.out).mono ?_
      rintro e w1 ⟨⟨uv, zs, rfl, ⟨hl1, hb1⟩, ho1⟩, hc1, hk1⟩
      have HC1 := Lib.hid hc1
      have HK1 := Lib.hid (HK.out.trans hk1)
      have KB1 := Lib.hid (KB.out.kept hk1 (by omega))
      have HO1 := Lib.hid ho1
      have L1 := Lib.hid (And.intro hl1 hb1)
      have S1 := Lib.hid hk1.size
      obtain ⟨ua, uc, rfl, _⟩ := ho1.shape1
      rw [intVals_len, hl1] at HO1 ⊢
      clear ho1 hc1 hk1 hl1 hb1
      go_wp2_with fail
      refine (d_draw base p 2 6 (by omega) (by omega) (by omega) _ HC1.out).mono ?_
      rintro e w2 ⟨⟨tv, ys, rfl, ⟨hl2, hb2⟩, ho2⟩, hc2, hk2⟩
      have HC2 := Lib.hid hc2
      have HK2 := Lib.hid (HK1.out.trans hk2)
      have KB2 := Lib.hid (KB1.out.kept hk2 (by omega))
      have HO12 := Lib.hid (HO1.out.kept hk2 (.inr hpr))
      have HO2 := Lib.hid ho2
      have L2 := Lib.hid (And.intro hl2 hb2)
      have S2 := Lib.hid hk2.size
      obtain ⟨ta, tc, rfl, _⟩ := ho2.shape1
      rw [intVals_len, hl2] at HO2 ⊢
      clear ho2 hc2 hk2 hl2 hb2
      go_wp2_with fail
      refine (s_all zs 6 (by omega) (by omega) L1.out.2 _ _ HO12.out.sl).mono ?_
      rintro e w3 ⟨rfl, hb3⟩
      have HC3 := Lib.hid (HC2.out.below hb3)
      have HK3 := Lib.hid (HK2.out.then_below hb3)
      have KB3 := Lib.hid (KB2.out.below hb3)
      have HO13 := Lib.hid (HO12.out.below hb3)
      have HO23 := Lib.hid (HO2.out.below hb3)
      have S3 := Lib.hid hb3.size
      obtain ⟨g1, hg1⟩ : ∃ g, allG zs = g := ⟨_, rfl⟩
      rw [hg1]
      clear hb3 hg1
      by_cases z1 : g1 = 0
      · have z1' : (g1 == 0) = true := by rw [beq_iff_eq]; exact z1
        go_wp2_with fail
        exact ⟨⟨k + 1, by omega, by go_num, KB3.out, HC3.out, HK3.out⟩, by simp [RowKit.intOf]; omega⟩
      have z1' : (g1 == 0) = false := by rw [beq_eq_false_iff_ne]; exact z1
      go_wp2_with fail
      refine (s_all ys 6 (by omega) (by omega) L2.out.2 _ _ HO23.out.sl).mono ?_
      rintro e w4 ⟨rfl, hb4⟩
      have HC4 := Lib.hid (HC3.out.below hb4)
      have HK4 := Lib.hid (HK3.out.then_below hb4)
      have KB4 := Lib.hid (KB3.out.below hb4)
      have HO14 := Lib.hid (HO13.out.below hb4)
      have HO24 := Lib.hid (HO23.out.below hb4)
      have S4 := Lib.hid hb4.size
      obtain ⟨g2, hg2⟩ : ∃ g, allG ys = g := ⟨_, rfl⟩
      rw [hg2]
      clear hb4 hg2
      by_cases z2 : g2 = 0
      · have z2' : (g2 == 0) = true := by rw [beq_iff_eq]; exact z2
        go_wp2_with fail
        exact ⟨⟨k + 1, by omega, by go_num, KB4.out, HC4.out, HK4.out⟩, by simp [RowKit.intOf]; omega⟩
      have z2' : (g2 == 0) = false := by rw [beq_eq_false_iff_ne]; exact z2
      obtain ⟨P, eP, bP⟩ := prim_bd L1.out.1 L1.out.2
      obtain ⟨Q, eQ, bQ⟩ := prim_bd L2.out.1 L2.out.2
      have EP := Lib.hid (And.intro eP bP)
      have EQ := Lib.hid (And.intro eQ bQ)
      clear eP eQ bP bQ
      go_wp2_with fail
      refine (s_prime zs (by have := L1.out.1; omega) 6 (by omega) (by omega) L1.out.2 _ _ HO14.out.sl).mono ?_
      rintro e w5 ⟨⟨x, rfl, hx⟩, hb5⟩
      rw [EP.out.1] at hx
      have HX := Lib.hid hx
      have HC5 := Lib.hid (HC4.out.below hb5)
      have HK5 := Lib.hid (HK4.out.then_below hb5)
      have KB5 := Lib.hid (KB4.out.below hb5)
      have HO25 := Lib.hid (HO24.out.below hb5)
      have S5 := Lib.hid hb5.size
      obtain ⟨xb, xc, rfl, _, _⟩ := hx.form (by simp [intVals, rowOf])
      rw [show (intVals (rowOf P)).length = 2 from rfl] at HX ⊢
      clear hx hb5
      go_wp2_with fail
      refine (s_prime ys (by have := L2.out.1; omega) 6 (by omega) (by omega) L2.out.2 _ _ HO25.out.sl).mono ?_
      rintro e w6 ⟨⟨y, rfl, hy⟩, hb6⟩
      rw [EQ.out.1] at hy
      have HY := Lib.hid hy
      have HX6 := Lib.hid (HX.out.below hb6)
      have HC6 := Lib.hid (HC5.out.below hb6)
      have HK6 := Lib.hid (HK5.out.then_below hb6)
      have KB6 := Lib.hid (KB5.out.below hb6)
      have S6 := Lib.hid hb6.size
      obtain ⟨yb, yc, rfl, _, _⟩ := hy.form (by simp [intVals, rowOf])
      rw [show (intVals (rowOf Q)).length = 2 from rfl] at HY ⊢
      have AP := Lib.hid (own_apart HX6.out HY.out)
      clear hy hb6
      have BX := Lib.hid (below1 w6 (.cells #[.slice (some ⟨xb, 0, none⟩) 2 xc, .slice (some ⟨yb, 0, none⟩) 2 yc] 26))
      have KX := Lib.hid (Bk.new w6 #[.slice (some ⟨xb, 0, none⟩) 2 xc, .slice (some ⟨yb, 0, none⟩) 2 yc] 26)
      obtain ⟨⟨x0, x1⟩, -⟩ := KX.out.two
      go_wp2_with fail
      obtain ⟨w7, hw7⟩ : ∃ w7, w6.alloc (.cells #[.slice (some ⟨xb, 0, none⟩) 2 xc, .slice (some ⟨yb, 0, none⟩) 2 yc] 26) = w7 := ⟨_, rfl⟩
      rw [hw7] at BX KX x0 x1 ⊢
      have Z7 := Lib.hid BX.out.size
      clear hw7
      refine (s_cross P Q EP.out.2 EQ.out.2 _ _ _ (HX6.out.below BX.out).sl (HY.out.below BX.out).sl).mono ?_
      rintro e w8 ⟨rfl, hb8⟩
      have OC := Lib.hid (show OwC (w.heap.size + 1) w8.heap.size w8 (.slice (some ⟨xb, 0, none⟩) 2 xc) (.slice (some ⟨yb, 0, none⟩) 2 yc) (rowOf P, rowOf Q) from
        ⟨((HX6.out.below BX.out).below hb8).mono (by have := SL.out; have := S1.out; have := S2.out; have := S3.out; have := S4.out; omega) (Nat.le_trans S6.out (Nat.le_trans Z7.out hb8.size)),
         ((HY.out.below BX.out).below hb8).mono (by have := SL.out; have := S1.out; have := S2.out; have := S3.out; have := S4.out; have := S5.out; omega) (Nat.le_trans Z7.out hb8.size), AP.out⟩)
      have HC8 := Lib.hid ((HC6.out.below BX.out).below hb8)
      have HK8 := Lib.hid ((HK6.out.then_below BX.out).then_below hb8)
      have KB8 := Lib.hid ((KB6.out.below BX.out).below hb8)
      have KX8 := Lib.hid (KX.out.below hb8)
      obtain ⟨q, hq⟩ : ∃ q, P.1 * Q.2 - P.2 * Q.1 = q := ⟨_, rfl⟩
      rw [hq]
      clear hq hb8 x0 x1
      obtain ⟨⟨x0, x1⟩, -⟩ := KX8.out.two
      obtain ⟨⟨c0, c1⟩, f0, f1⟩ := KB8.out.two
      by_cases hneg : q < 0
      · go_wp2
        refine bodyPost_ret (v := .agg #[.slice (some ⟨yb, 0, none⟩) 2 yc, .slice (some ⟨xb, 0, none⟩) 2 xc]) ?_ rfl (drew_ret (c := (rowOf Q, rowOf P)) hp HC8.out HK8.out ⟨OC.out.2.1, OC.out.1, fun b h1 h2 => OC.out.2.2 b h2 h1⟩)
        simp [results, Try.results89, go_sem, c0, c1]
      clear c0 c1 f0 f1
      go_wp2_with fail
      refine (s_cone (rowOf P, rowOf Q) _ _ OC.out.cv).mono ?_
      rintro e w9 ⟨rfl, hb9⟩
      have OC9 := Lib.hid ((OC.out.below hb9).mono (Nat.le_refl _) hb9.size)
      have HC9 := Lib.hid (HC8.out.below hb9)
      have HK9 := Lib.hid (HK8.out.then_below hb9)
      have KB9 := Lib.hid (KB8.out.below hb9)
      have KX9 := Lib.hid (KX8.out.below hb9)
      clear hb9 x0 x1
      obtain ⟨⟨x0, x1⟩, -⟩ := KX9.out.two
      obtain ⟨⟨c0, c1⟩, f0, f1⟩ := KB9.out.two
      cases hcn : coneR (rowOf P, rowOf Q)
      · clear hcn c0 c1 f0 f1
        go_wp2_with fail
        exact ⟨⟨k + 1, by omega, by go_num, KB9.out, HC9.out, HK9.out⟩, by simp [RowKit.intOf]; omega⟩
      · clear hcn
        go_wp2
        refine bodyPost_ret (v := .agg #[.slice (some ⟨xb, 0, none⟩) 2 xc, .slice (some ⟨yb, 0, none⟩) 2 yc]) ?_ rfl (drew_ret (c := (rowOf P, rowOf Q)) hp HC9.out HK9.out OC9.out)
        simp [results, Try.results89, go_sem, c0, c1]
    · obtain rfl : k = 6 := by omega
      obtain ⟨⟨c0, c1⟩, f0, f1⟩ := KB.out.two
      have kl := KB.out.lt
      go_wp2
      refine bodyPost_ret (v := .agg #[.slice (some ⟨wr.heap.size, 0, none⟩) 2 2, .slice (some ⟨wr.heap.size + 1, 0, none⟩) 2 2]) ?_ rfl (drew_new hp HC.out HK.out SL.out)
      have KR := ((KB.out.set0 (.slice (some ⟨wr.heap.size, 0, none⟩) 2 2)).set1 (.slice (some ⟨wr.heap.size + 1, 0, none⟩) 2 2)).below (below2 _ (.cells #[.int .i64 1, .int .i64 0] 3) (.cells #[.int .i64 2, .int .i64 5] 3))
      obtain ⟨⟨r0, r1⟩, -⟩ := KR.two
      clear c0 c1 f0 f1
      generalize (((wr.setCell ⟨w.heap.size, 0, none⟩ (.slice (some ⟨wr.heap.size, 0, none⟩) 2 2)).setCell ⟨w.heap.size, 1, none⟩ (.slice (some ⟨wr.heap.size + 1, 0, none⟩) 2 2)).alloc (.cells #[.int .i64 1, .int .i64 0] 3)).alloc (.cells #[.int .i64 2, .int .i64 5] 3) = W at r0 r1 ⊢
      simp [results, Try.results89, go_sem, r0, r1]
theorem pick_cn {v : Value} (hv : v ∈ [Value.int .i64 30, .int .i64 31, .int .i64 (-31)]) : ∃ x : Int, v = .int .i64 x := by
  simp only [List.mem_cons, List.not_mem_nil, or_false] at hv
  rcases hv with h | h | h <;> exact ⟨_, h⟩
theorem bit_cn (b : Bool) (w : World) : Calls Try.prog 67 #[.bool b] w fun e w' => e = .returned (.int .i64 (if b = true then 1 else 0)) ∧ w = w' := bit_of b w
theorem drew_put {base p B : Nat} {w wr : World} {u t : Value} {c : Cn} {z : Int} (hp : p < w.heap.size) (hc : CurAt base wr p) (hk : Kept p (p + 1) w wr) (hB : w.heap.size + 1 ≤ B) (ho : OwC (w.heap.size + 1) B wr u t c) (hs : B < wr.heap.size) (v x y : Value) :
    DrewCn base p w (.returned (.agg #[u, .slice (some ⟨wr.heap.size, 0, none⟩) 2 2])) ((((wr.setCell ⟨B, 1, none⟩ v).setCell ⟨w.heap.size, 0, none⟩ x).setCell ⟨w.heap.size, 1, none⟩ y).alloc (.cells #[.int .i64 z, .int .i64 1] 3)) := by
  obtain ⟨W, hW⟩ : ∃ W, ((wr.setCell ⟨B, 1, none⟩ v).setCell ⟨w.heap.size, 0, none⟩ x).setCell ⟨w.heap.size, 1, none⟩ y = W := ⟨_, rfl⟩
  have hz : W.heap.size = wr.heap.size := by rw [← hW]; simp [World.setCell]
  have hb : Below w.heap.size wr W := by rw [← hW]; exact (((Below.refl _ _).setCell (p := ⟨B, 1, none⟩) (by simp; omega) _).setCell (p := ⟨w.heap.size, 0, none⟩) (Nat.le_refl _) _).setCell (p := ⟨w.heap.size, 1, none⟩) (Nat.le_refl _) _
  have k1 : Kept B (B + 1) wr (wr.setCell ⟨B, 1, none⟩ v) := (Kept.refl _ _ _).setCell (p := ⟨B, 1, none⟩) (Nat.le_refl _) (Nat.lt_succ_self _) _
  have k2 : Kept w.heap.size (w.heap.size + 1) (wr.setCell ⟨B, 1, none⟩ v) W := by rw [← hW]; exact ((Kept.refl _ _ _).setCell (p := ⟨w.heap.size, 0, none⟩) (Nat.le_refl _) (Nat.lt_succ_self _) _).setCell (p := ⟨w.heap.size, 1, none⟩) (Nat.le_refl _) (Nat.lt_succ_self _) _
  rw [hW, ← hz]
  have hb2 := below1 W (.cells #[.int .i64 z, .int .i64 1] 3)
  have K2 := Bk.new W #[.int .i64 z, .int .i64 1] 3
  have ou := (((ho.1.kept k1 (.inl (Nat.le_refl _))).kept k2 (.inr (Nat.le_refl _))).below hb2)
  refine ⟨⟨(c.1, rowOf (z, 1)), _, _, rfl, ou.mono (Nat.le_succ _) (by have := hb2.size; omega), own_two K2 (by omega) K2.lt, fun b h1 h2 => ?_⟩, (hc.belowB hb hp).below hb2, (hk.andB hb).then_below hb2⟩
  have h3 := (ho.1.place h1).2.1
  cases h2
  simp only at h3
  omega
set_option maxRecDepth 100000 in
set_option maxHeartbeats 3200000 in
theorem d_cbent (base p : Nat) (w : World) (hc : CurAt base w p) :
    Calls Try.prog 61 #[.pointer (some ⟨p, 0, none⟩)] w (DrewCn base p w) := by
  have hp := hc.lt
  have K0 := Lib.hid (Bk.new w #[.slice none 0 0, .slice none 0 0] 26)
  have B0 := Lib.hid (below1 w (.cells #[.slice none 0 0, .slice none 0 0] 26))
  have C0 := Lib.hid (hc.below B0.out)
  clear hc
  go_enter Try.func61, Try.ntmps61
  go_wp2_with fail
  refine (d_cone base p _ C0.out).mono ?_
  rintro e w1 ⟨⟨c, u, t, rfl, ho⟩, hc1, hk1⟩
  have KA1 := Lib.hid (K0.out.kept hk1 (by omega))
  have HK1 := Lib.hid ((Kept.of_below B0.out).trans hk1)
  have HC1 := Lib.hid hc1
  have OC1 := Lib.hid (ho.mono (lo' := w.heap.size + 1) (by simp) (Nat.le_refl _))
  obtain ⟨ua, uc, ta, tc, rfl, rfl⟩ := ho.shape
  have S1 := Lib.hid (show w.heap.size + 1 ≤ w1.heap.size from KA1.out.lt)
  clear ho hc1 hk1
  have KB := Lib.hid (Bk.new w1 #[.slice ua c.1.length uc, .slice ta c.2.length tc] 26)
  have BB := below1 w1 (.cells #[.slice ua c.1.length uc, .slice ta c.2.length tc] 26)
  have KA2 := Lib.hid (KA1.out.below BB)
  have HK2 := Lib.hid (HK1.out.then_below BB)
  have HC2 := Lib.hid (HC1.out.below BB)
  have OC2 := Lib.hid (OC1.out.below BB)
  have Z2 := Lib.hid BB.size
  have hp1 : p < w1.heap.size := HC1.out.lt
  clear BB
  go_wp2_with fail
  refine (draw_below base p _ _ HC2.out (by omega) (by omega)).mono ?_
  rintro e w3 ⟨⟨v, rfl, x, rfl, x0, x1⟩, hc3, hg3⟩
  have hk3 := Kept.of_grown hg3
  have KA3 := Lib.hid (KA2.out.kept hk3 (by omega))
  have KB3 := Lib.hid (KB.out.kept hk3 (by omega))
  have HK3 := Lib.hid (HK2.out.trans hk3)
  have HC3 := Lib.hid hc3
  have OC3 := Lib.hid (OC2.out.kept hk3 (.inr (by omega)))
  have S3 := Lib.hid (Nat.le_trans Z2.out hk3.size)
  have L3 := Lib.hid (show w1.heap.size < w3.heap.size from KB3.out.lt)
  clear hc3 hg3 hk3
  by_cases h0 : x = 0
  · subst h0
    go_wp2_with fail
    refine (d_once base p 3 _ HC3.out (by omega) (by omega)).mono ?_
    rintro e w4 ⟨⟨b, rfl⟩, hc4, hk4⟩
    have KA4 := Lib.hid (KA3.out.kept hk4 (by omega))
    have KB4 := Lib.hid (KB3.out.kept hk4 (by omega))
    have HK4 := Lib.hid (HK3.out.trans hk4)
    have HC4 := Lib.hid hc4
    have OC4 := Lib.hid (OC3.out.kept hk4 (.inr (by omega)))
    have S4 := Lib.hid (Nat.le_trans S3.out hk4.size)
    have L4 := Lib.hid (show w1.heap.size < w4.heap.size from KB4.out.lt)
    clear hc4 hk4
    go_wp2_with fail
    refine (bit_cn b _).mono ?_
    rintro e w5 ⟨rfl, rfl⟩
    obtain ⟨n, hn, hn3⟩ : ∃ n : Nat, (2 : Int) + (if b = true then 1 else 0) = n ∧ n ≤ 3 := by
      cases b with
      | true => exact ⟨3, rfl, by omega⟩
      | false => exact ⟨2, rfl, by omega⟩
    obtain ⟨bi, hbi⟩ : ∃ q : Int, (if b = true then (1 : Int) else 0) = q := ⟨_, rfl⟩
    rw [hbi] at hn ⊢
    have hw : IntKind.i64.wrap (2 + bi) = (n : Int) := by rw [hn]; exact IntWalk.i64_in _ (by omega)
    go_wp2_with fail
    refine (d_draw base p n 4 (by omega) (by omega) (by omega) _ HC4.out).mono ?_
    rintro e w5 ⟨⟨y, zs, rfl, ⟨hl, hb⟩, hy⟩, hc5, hk5⟩
    have KA5 := Lib.hid (KA4.out.kept hk5 (by omega))
    have KB5 := Lib.hid (KB4.out.kept hk5 (by omega))
    have HK5 := Lib.hid (HK4.out.trans hk5)
    have HC5 := Lib.hid hc5
    have OC5 := Lib.hid (OC4.out.kept hk5 (.inr (by omega)))
    have HY := Lib.hid hy
    have S5 := Lib.hid hk5.size
    obtain ⟨ya, yc, rfl, _⟩ := hy.shape1
    obtain ⟨⟨y0, y1⟩, g0, g1⟩ := KB5.out.two
    clear hc5 hk5 hy hl hb hbi
    obtain ⟨⟨c0, c1⟩, f0, f1⟩ := KA5.out.two
    have nab : w.heap.size ≠ w1.heap.size := by have := S1.out; omega
    have hb6 : Below (w.heap.size + 1) w5 (w5.setCell ⟨w1.heap.size, 0, none⟩ (.slice ya (intVals zs).length yc)) := (Below.refl _ _).setCell (p := ⟨w1.heap.size, 0, none⟩) S1.out _
    have KA6 := Lib.hid (KA5.out.other (p := ⟨w1.heap.size, 0, none⟩) (by simp; omega) (.slice ya (intVals zs).length yc))
    have kk6 := (Kept.refl w1.heap.size (w1.heap.size + 1) w5).setCell (p := ⟨w1.heap.size, 0, none⟩) (Nat.le_refl _) (Nat.lt_succ_self _) (.slice ya (intVals zs).length yc)
    have HY6 := Lib.hid ((HY.out.kept kk6 (.inr (by have := L4.out; omega))).mono (lo' := w.heap.size + 1) (by have := L4.out; have := S1.out; omega) (Nat.le_refl _))
    have HT6 := Lib.hid ((OC5.out.2.1.kept kk6 (.inl (Nat.le_refl _))).mono (lo' := w.heap.size + 1) (Nat.le_refl _) (Nat.le_trans (Nat.le_of_lt L4.out) S5.out))
    have AP6 := Lib.hid (show ∀ q, (Value.slice ya (intVals zs).length yc).ownBlock = some q → (Value.slice ta c.2.length tc).ownBlock ≠ some q from fun q h1 h2 => by have a1 := (HY.out.place h1).1; have a2 := (OC5.out.2.1.place h2).2.1; have := L4.out; omega)
    have HC6 := Lib.hid (HC5.out.belowB hb6 (by omega))
    have HK6 := Lib.hid (HK5.out.andB (hb6.mono (Nat.le_succ _)))
    clear hb6 kk6
    go_wp2
    refine bodyPost_ret (v := .agg #[.slice ya (intVals zs).length yc, .slice ta c.2.length tc]) ?_ rfl (drew_ret (c := (zs, c.2)) hp HC6.out HK6.out ⟨HY6.out.mono (Nat.le_refl _) (Nat.le_of_eq (sz_set' _ _ _).symm), HT6.out.mono (Nat.le_refl _) (Nat.le_of_eq (sz_set' _ _ _).symm), AP6.out⟩)
    simp [results, Try.results61, go_sem, c0, c1]
  by_cases h1 : x = 1
  · subst h1
    clear h0
    obtain ⟨⟨y0, y1⟩, g0, g1⟩ := KB3.out.two
    obtain ⟨⟨c0, c1⟩, f0, f1⟩ := KA3.out.two
    go_wp2
    refine bodyPost_ret (v := .agg #[.slice ta c.2.length tc, .slice ua c.1.length uc]) ?_ rfl (drew_ret (c := (c.2, c.1)) hp HC3.out HK3.out ⟨OC3.out.2.1.mono (Nat.le_refl _) S3.out, OC3.out.1.mono (Nat.le_refl _) S3.out, fun b h1 h2 => OC3.out.2.2 b h2 h1⟩)
    simp [results, Try.results61, go_sem, c0, c1]
  by_cases h2 : x = 2
  · subst h2
    clear h0 h1
    go_wp2_with fail
    refine (draw_pick_int base p w3.heap.size [.int .i64 30, .int .i64 31, .int .i64 (-31)] _ (HC3.out.below ((Below.refl _ _).alloc (Nat.le_refl _) _)) (by decide) (by decide) (Nat.ne_of_gt HC3.out.lt) (heap_alloc_new w3 _)).mono ?_
    rintro e w4 ⟨⟨v, rfl, hv⟩, hc4, hg4⟩
    obtain ⟨z, rfl⟩ := pick_cn hv
    have b3 := below1 w3 (.cells #[.int .i64 30, .int .i64 31, .int .i64 (-31)] 3)
    have hk4 := Kept.of_grown hg4
    have KA4 := Lib.hid ((KA3.out.below b3).kept hk4 (by omega))
    have KB4 := Lib.hid ((KB3.out.below b3).kept hk4 (by omega))
    have HK4 := Lib.hid ((HK3.out.then_below b3).trans hk4)
    have HC4 := Lib.hid hc4
    have OC4 := Lib.hid ((OC3.out.below b3).kept hk4 (.inr (by omega)))
    have S4 := Lib.hid (Nat.le_trans S3.out (Nat.le_trans b3.size hk4.size))
    have L4 := Lib.hid (show w1.heap.size < w4.heap.size from KB4.out.lt)
    clear hv hc4 hg4 hk4 b3
    obtain ⟨⟨y0, y1⟩, g0, g1⟩ := KB4.out.two
    obtain ⟨⟨c0, c1⟩, f0, f1⟩ := KA4.out.two
    have kl := KA4.out.lt
    have ll := L4.out
    have nab : ¬ w.heap.size = w1.heap.size := by have := S1.out; omega
    have nba : ¬ w1.heap.size = w.heap.size := by have := S1.out; omega
    go_wp2
    refine bodyPost_ret (v := .agg #[.slice ua c.1.length uc, .slice (some ⟨w4.heap.size, 0, none⟩) 2 2]) ?_ rfl (drew_put hp HC4.out HK4.out S1.out OC4.out L4.out _ _ _)
    have KR := (((KA4.out.other (p := ⟨w1.heap.size, 1, none⟩) (fun e => nba e) (.slice (some ⟨w4.heap.size, 0, none⟩) 2 2)).set0 (.slice ua c.1.length uc)).set1 (.slice (some ⟨w4.heap.size, 0, none⟩) 2 2)).below (below1 _ (.cells #[.int .i64 z, .int .i64 1] 3))
    obtain ⟨⟨r0, r1⟩, -⟩ := KR.two
    clear c0 c1 f0 f1 y0 y1 g0 g1
    generalize (((w4.setCell ⟨w1.heap.size, 1, none⟩ (.slice (some ⟨w4.heap.size, 0, none⟩) 2 2)).setCell ⟨w.heap.size, 0, none⟩ (.slice ua c.1.length uc)).setCell ⟨w.heap.size, 1, none⟩ (.slice (some ⟨w4.heap.size, 0, none⟩) 2 2)).alloc (.cells #[.int .i64 z, .int .i64 1] 3) = W at r0 r1 ⊢
    simp [results, Try.results61, go_sem, r0, r1]
  · obtain ⟨⟨y0, y1⟩, g0, g1⟩ := KB3.out.two
    obtain ⟨⟨c0, c1⟩, f0, f1⟩ := KA3.out.two
    go_wp2
    refine bodyPost_ret (v := .agg #[.slice ua c.1.length uc, .slice ta c.2.length tc]) ?_ rfl (drew_ret (c := c) hp HC3.out HK3.out (OC3.out.mono (Nat.le_refl _) S3.out))
    simp [results, Try.results61, go_sem, c0, c1]
/-- A cone was drawn by a call of its own. -/
def DrewC (w : World) (e : Ending) (w' : World) : Prop := ∃ c : Cn, MadeC w c e w'
set_option maxRecDepth 100000 in
set_option maxHeartbeats 800000 in
theorem d_splitcone (a : Option Addr) (c : Nat) (zs : List Int) (w0 w : World) (hbw : Below w0.heap.size w0 w) (hc : CodeIn w0 a zs) :
    Calls Try.prog 11 #[.slice a zs.length c] w (DrewC w) := by
  have HC := Lib.hid hc
  have HB0 := Lib.hid hbw
  have K0 := Lib.hid (Bk.new w #[.slice none 0 0, .slice none 0 0] 26)
  have B0 := Lib.hid (below1 w (.cells #[.slice none 0 0, .slice none 0 0] 26))
  clear hc hbw
  go_enter Try.func11, Try.ntmps11
  go_wp2_with fail
  refine (draw_new' a c zs w0 _ (HB0.out.trans (B0.out.mono HB0.out.size)) HC.out).mono ?_
  rintro e w1 ⟨⟨p, rfl, hp, hcur⟩, hb1⟩
  have KA1 := Lib.hid (K0.out.below hb1)
  have HB1 := Lib.hid (B0.out.trans (hb1.mono B0.out.size))
  have HU1 := Lib.hid hcur
  have HP := Lib.hid (show w.heap.size + 1 ≤ p by simpa using hp)
  clear hb1 hcur hp
  go_wp2_with fail
  refine (d_cbent _ p _ HU1.out).mono ?_
  rintro e w2 ⟨⟨c', u, t, rfl, ho⟩, hc2, hk2⟩
  have KA2 := Lib.hid (KA1.out.kept hk2 (.inl HP.out))
  have HB2 := Lib.hid (HB1.out.trans (hk2.below (B := w.heap.size) (by have := HP.out; omega) HB1.out.size))
  have OC := Lib.hid (ho.mono (lo' := w.heap.size + 1) KA1.out.lt (Nat.le_refl _))
  obtain ⟨ua, uc, ta, tc, rfl, rfl⟩ := ho.shape
  obtain ⟨⟨c0, c1⟩, f0, f1⟩ := KA2.out.two
  clear ho hc2 hk2
  go_wp2
  refine bodyPost_ret (v := .agg #[.slice ua c'.1.length uc, .slice ta c'.2.length tc]) ?_ rfl ⟨c', ⟨_, rfl, _, _, rfl, ?_⟩, (HB2.out.setCell (by simp) _).setCell (by simp) _⟩
  · simp [results, Try.results11, go_sem, c0, c1]
  · exact (OC.out.kept (((Kept.refl w.heap.size (w.heap.size + 1) w2).setCell (by simp) (by simp) _).setCell (by simp) (by simp) _) (.inr (Nat.le_refl _))).mono (Nat.le_succ _) (by simp [World.setCell])
/-- A cone and a point were drawn. -/
def DrewCV (w : World) (e : Ending) (w' : World) : Prop := (∃ (c : Cn) (x : List Int) (u t v : Value), e = .returned (.tuple #[.agg #[u, t], v]) ∧ OwC w.heap.size w'.heap.size w' u t c ∧ OwnV 3 w.heap.size w'.heap.size w' v (intVals x)) ∧ Below w.heap.size w w'
theorem pick_turn {v : Value} (hv : v ∈ [Value.int .i64 2, .int .i64 2, .int .i64 3, .int .i64 2, .int .i64 4, .int .i64 1, .int .i64 31]) : ∃ x : Int, v = .int .i64 x := by
  simp only [List.mem_cons, List.not_mem_nil, or_false] at hv
  rcases hv with h | h | h | h | h | h | h <;> exact ⟨_, h⟩
set_option maxRecDepth 100000 in
set_option maxHeartbeats 1600000 in
theorem d_incone (a : Option Addr) (c : Nat) (zs : List Int) (w0 w : World) (hbw : Below w0.heap.size w0 w) (hc : CodeIn w0 a zs) :
    Calls Try.prog 14 #[.slice a zs.length c] w (DrewCV w) := by
  have HC := Lib.hid hc
  have HB0 := Lib.hid hbw
  have K0 := Lib.hid (Bk.new w #[.slice none 0 0, .slice none 0 0] 26)
  have B0 := Lib.hid (below1 w (.cells #[.slice none 0 0, .slice none 0 0] 26))
  clear hc hbw
  go_enter Try.func14, Try.ntmps14
  go_wp2_with fail
  refine (draw_new' a c zs w0 _ (HB0.out.trans (B0.out.mono HB0.out.size)) HC.out).mono ?_
  rintro e w1 ⟨⟨p, rfl, hp, hcur⟩, hb1⟩
  have KA1 := Lib.hid (K0.out.below hb1)
  have HB1 := Lib.hid (B0.out.trans (hb1.mono B0.out.size))
  have HU1 := Lib.hid hcur
  have HP := Lib.hid (show w.heap.size + 1 ≤ p by simpa using hp)
  have PL2 := Lib.hid (show p < w1.heap.size from hcur.lt)
  clear hb1 hcur hp
  go_wp2_with fail
  refine (d_cbent _ p _ HU1.out).mono ?_
  rintro e w2 ⟨⟨c', u, t, rfl, ho⟩, hc2, hk2⟩
  have KA2 := Lib.hid (KA1.out.kept hk2 (.inl HP.out))
  have HB2 := Lib.hid (HB1.out.trans (hk2.below (B := w.heap.size) (by have := HP.out; omega) HB1.out.size))
  have OC := Lib.hid ho
  have W1L := Lib.hid (show w.heap.size + 1 ≤ w1.heap.size from KA1.out.lt)
  have PL := Lib.hid (show p < w2.heap.size from Nat.lt_of_lt_of_le PL2.out hk2.size)
  have WL := Lib.hid (show w.heap.size < w2.heap.size from KA2.out.lt)
  obtain ⟨ua, uc, ta, tc, rfl, rfl⟩ := ho.shape
  have KB := Lib.hid (Bk.new w2 #[.slice ua c'.1.length uc, .slice ta c'.2.length tc] 26)
  have B2 := below1 w2 (.cells #[.slice ua c'.1.length uc, .slice ta c'.2.length tc] 26)
  have KA3 := Lib.hid (KA2.out.below B2)
  have HC3 := Lib.hid (show CurAt _ (w2.alloc (.cells #[.slice ua c'.1.length uc, .slice ta c'.2.length tc] 26)).drew p from (hc2.below B2).below (Below.refl _ _).drew)
  have OC3 := Lib.hid (show OwC w1.heap.size w2.heap.size (w2.alloc (.cells #[.slice ua c'.1.length uc, .slice ta c'.2.length tc] 26)).drew _ _ _ from OC.out.below (B2.trans (Below.refl _ _).drew))
  have HB3 := Lib.hid (show Below w.heap.size w (w2.alloc (.cells #[.slice ua c'.1.length uc, .slice ta c'.2.length tc] 26)).drew from (HB2.out.trans (B2.mono HB2.out.size)).drew)
  clear ho hc2 hk2 B2
  go_wp2_with fail
  refine T_begin (z := fun k => 7 < k) (S := fun (w' : World) => Bk w' w2.heap.size #[.slice ua c'.1.length uc, .slice ta c'.2.length tc] 26) (by kernel_rfl) ?_
  show wpAnyT _ _ _ _ _ _ 9 _ _ _
  have hS0 := Lib.hid (show (fun (w' : World) => Bk w' w2.heap.size #[.slice ua c'.1.length uc, .slice ta c'.2.length tc] 26) ((w2.alloc (.cells #[.slice ua c'.1.length uc, .slice ta c'.2.length tc] 26)).drew) from KB.out)
  refine T_take (i := 0) (v := .agg #[.slice ua c'.1.length uc, .slice ta c'.2.length tc]) rfl (by kernel_rfl) (by kernel_rfl) (by kernel_rfl) (by kernel_rfl) (fun _ _ _ h => h) hS0.out (by kernel_rfl) (fun w' hS' => by obtain ⟨⟨h0, h1⟩, -⟩ := (show Bk _ _ _ _ from hS').two; go_simp) ?_
  refine T_take (i := 1) (v := .pointer (some ⟨p, 0, none⟩)) rfl (by kernel_rfl) (by kernel_rfl) (by kernel_rfl) (by kernel_rfl) (fun _ _ _ h => h) hS0.out (by kernel_rfl) (fun w' hS' => by obtain ⟨⟨h0, h1⟩, -⟩ := (show Bk _ _ _ _ from hS').two; go_simp) ?_
  refine T_take (i := 2) (v := .pointer (some ⟨p, 0, none⟩)) rfl (by kernel_rfl) (by kernel_rfl) (by kernel_rfl) (by kernel_rfl) (fun _ _ _ h => h) hS0.out (by kernel_rfl) (fun w' hS' => by obtain ⟨⟨h0, h1⟩, -⟩ := (show Bk _ _ _ _ from hS').two; go_simp) ?_
  refine T_step (i := 3) rfl (by kernel_rfl) rfl (by kernel_rfl) ?_
  intro K hK
  go_simp
  refine (d_once _ p 14 _ HC3.out (by omega) (by omega)).mono ?_
  rintro e' w4 ⟨⟨b, rfl⟩, hc4, hk4⟩
  have KB4 := Lib.hid ((show Bk (w2.alloc (.cells #[.slice ua c'.1.length uc, .slice ta c'.2.length tc] 26)).drew w2.heap.size #[.slice ua c'.1.length uc, .slice ta c'.2.length tc] 26 from KB.out).kept hk4 (by have := PL.out; omega))
  have KA4 := Lib.hid ((show Bk (w2.alloc (.cells #[.slice ua c'.1.length uc, .slice ta c'.2.length tc] 26)).drew w.heap.size #[.slice none 0 0, .slice none 0 0] 26 from KA3.out).kept hk4 (.inl HP.out))
  have HC4 := Lib.hid hc4
  have OC4 := Lib.hid (OC3.out.kept hk4 (.inr (by have := PL2.out; omega)))
  have HB4 := Lib.hid (HB3.out.trans (hk4.below (B := w.heap.size) (by have := HP.out; omega) HB3.out.size))
  have S4 := Lib.hid hk4.size
  refine hK.out _ _ KB4.out ?_
  clear hK K hc4 hk4
  refine T_step (i := 4) rfl (by kernel_rfl) rfl (by kernel_rfl) ?_
  intro K hK
  go_simp
  refine (bit_of b _).mono ?_
  rintro e' w5 ⟨rfl, rfl⟩
  obtain ⟨n, hn, hn3⟩ : ∃ n : Nat, (2 : Int) + (if b = true then 1 else 0) = n ∧ n ≤ 3 := by
      cases b with
      | true => exact ⟨3, rfl, by omega⟩
      | false => exact ⟨2, rfl, by omega⟩
  obtain ⟨bi, hbi⟩ : ∃ q : Int, (if b = true then (1 : Int) else 0) = q := ⟨_, rfl⟩
  rw [hbi] at hn ⊢
  have hw : IntKind.i64.wrap (n : Int) = (n : Int) := IntWalk.i64_in _ (by omega)
  refine hK.out _ _ KB4.out ?_
  clear hK K hbi
  refine T_take (i := 5) (v := .int .i64 n) rfl (by kernel_rfl) (by kernel_rfl) (by kernel_rfl) (by kernel_rfl) (fun _ _ _ h => h) KB4.out (by kernel_rfl) (fun w' hS' => by obtain ⟨⟨h0, h1⟩, -⟩ := (show Bk _ _ _ _ from hS').two; go_simp) ?_
  refine T_step (i := 6) rfl (by kernel_rfl) rfl (by kernel_rfl) ?_
  intro K hK
  go_simp
  refine (d_draw _ p n 9 (by omega) (by omega) (by omega) _ HC4.out).mono ?_
  rintro e' w6 ⟨⟨y, zs, rfl, -, hy⟩, hc6, hk6⟩
  have KB6 := Lib.hid (KB4.out.kept hk6 (by have := PL.out; omega))
  have KA6 := Lib.hid (KA4.out.kept hk6 (.inl HP.out))
  have OC6 := Lib.hid (OC4.out.kept hk6 (.inr (by have := PL2.out; omega)))
  have HB6 := Lib.hid (HB4.out.trans (hk6.below (B := w.heap.size) (by have := HP.out; omega) HB4.out.size))
  have S6 := Lib.hid hk6.size
  have HY := Lib.hid hy
  obtain ⟨ya, yc, rfl, _⟩ := hy.shape1
  refine hK.out _ _ KB6.out ?_
  clear hK K hc6 hk6 hy
  obtain ⟨⟨c0, c1⟩, f0, f1⟩ := KA6.out.two
  refine T_step (i := 7) rfl (by kernel_rfl) rfl (by kernel_rfl) ?_
  intro K hK
  go_simp
  have KB7 := Lib.hid ((KB6.out.other (p := ⟨w.heap.size, 0, none⟩) (by have := WL.out; simp; omega) (.slice ua c'.1.length uc)).other (p := ⟨w.heap.size, 1, none⟩) (by have := WL.out; simp; omega) (.slice ta c'.2.length tc))
  refine hK.out _ _ KB7.out ?_
  clear hK K
  refine T_last (i := 8) rfl (by kernel_rfl) (by kernel_rfl) rfl (by kernel_rfl) ?_
  go_simp
  have kk : Kept w.heap.size (w.heap.size + 1) w6 ((w6.setCell ⟨w.heap.size, 0, none⟩ (.slice ua c'.1.length uc)).setCell ⟨w.heap.size, 1, none⟩ (.slice ta c'.2.length tc)) := ((Kept.refl _ _ _).setCell (p := ⟨w.heap.size, 0, none⟩) (by simp) (by simp) _).setCell (p := ⟨w.heap.size, 1, none⟩) (by simp) (by simp) _
  have sz6 : ((w6.setCell ⟨w.heap.size, 0, none⟩ (.slice ua c'.1.length uc)).setCell ⟨w.heap.size, 1, none⟩ (.slice ta c'.2.length tc)).heap.size = w6.heap.size := by simp [World.setCell]
  have z4 : w2.heap.size + 1 ≤ w4.heap.size := KB4.out.lt
  have OC7 := Lib.hid ((OC6.out.kept kk (.inr W1L.out)).mono (lo' := w.heap.size) (hi' := w6.heap.size) (by have := W1L.out; omega) (by have := S6.out; omega))
  have OY7 := Lib.hid ((HY.out.kept kk (.inr (by have := WL.out; omega))).mono (lo' := w.heap.size) (hi' := w6.heap.size) (by have := WL.out; omega) (Nat.le_refl _))
  clear hS0
  go_wp2
  refine bodyPost_ret (v := .tuple #[.agg #[.slice ua c'.1.length uc, .slice ta c'.2.length tc], .slice ya (intVals zs).length yc]) ?_ rfl ⟨⟨c', zs, _, _, _, rfl, by rw [sz6]; exact OC7.out, by rw [sz6]; exact OY7.out⟩, (HB6.out.setCell (by simp) _).setCell (by simp) _⟩
  simp [results, Try.results14, go_sem, c0, c1]
set_option maxRecDepth 100000 in
set_option maxHeartbeats 1600000 in
theorem d_conet (a : Option Addr) (c : Nat) (zs : List Int) (w0 w : World) (hbw : Below w0.heap.size w0 w) (hc : CodeIn w0 a zs) :
    Calls Try.prog 15 #[.slice a zs.length c] w fun e w' => (∃ v ys, e = .returned v ∧ OwnV 3 w.heap.size w'.heap.size w' v (intVals ys)) ∧ Below w.heap.size w w' := by
  have HC := Lib.hid hc
  have HB0 := Lib.hid hbw
  clear hc hbw
  go_enter Try.func15, Try.ntmps15
  go_wp2_with fail
  refine (draw_new' a c zs w0 _ HB0.out HC.out).mono ?_
  rintro e w1 ⟨⟨p, rfl, hp, hcur⟩, hb1⟩
  have HB1 := Lib.hid hb1
  have HU1 := Lib.hid hcur
  have HP := Lib.hid hp
  have PL := Lib.hid (show p < w1.heap.size from hcur.lt)
  have OE := Lib.hid (OwnV.of_owns (owns_none (w := w1) (base := w1.heap.size) (e := 3) (Nat.le_refl _)))
  have b2 := below1 w1 (.cells #[] 3)
  have HU2 := Lib.hid (hcur.below b2)
  have HB2 := Lib.hid (hb1.trans (b2.mono hb1.size))
  clear hb1 hcur hp b2
  go_wp2_with fail
  refine (draw_below _ p _ _ HU2.out (by omega) (by omega)).mono ?_
  rintro e w3 ⟨⟨v, rfl, x, rfl, x0, x1⟩, hc3, hg3⟩
  have hk3 := Kept.of_grown hg3
  have HU3 := Lib.hid hc3
  have HB3 := Lib.hid (HB2.out.trans (hk3.below (B := w.heap.size) HP.out HB2.out.size))
  have OE3 := Lib.hid ((OE.out.kept hk3 (.inr PL.out)).mono (Nat.le_refl _) hk3.size)
  have L3 := Lib.hid (show w1.heap.size ≤ w3.heap.size by have := hk3.size; simp at this; omega)
  obtain ⟨n, rfl⟩ : ∃ n : Nat, x = n := ⟨x.toNat, by omega⟩
  clear hc3 hg3 hk3
  go_wp2_with fail
  go_loopw [4, 6] (fun o i wr => ∃ (k : Nat) (ys : List Int), k ≤ n ∧ i = .int .i64 k ∧ ys.length = k ∧ wr.ownsRow w1.heap.size 3 1 o k (intVals ys) ∧ CurAt w.heap.size wr p ∧ w1.heap.size ≤ wr.heap.size ∧ Below w.heap.size w wr) (fun _ i _ => n - (RowKit.intOf i).toNat)
  case atStart => exact ⟨0, [], Nat.zero_le _, rfl, rfl, OE3.out.owns, HU3.out, L3.out, HB3.out⟩
  case round =>
    obtain ⟨k, ys, hk, rfl, hlen, how, hcur, hle, hbr⟩ := hrel
    have HL := Lib.hid hlen
    have HW := Lib.hid how
    have HU := Lib.hid hcur
    have HE := Lib.hid hle
    have HB := Lib.hid hbr
    clear hlen how hcur hle hbr
    by_cases hlt : k < n
    · go_wp2_with fail
      refine (draw_pick_int _ p wr.heap.size [.int .i64 2, .int .i64 2, .int .i64 3, .int .i64 2, .int .i64 4, .int .i64 1, .int .i64 31] _ (HU.out.below ((Below.refl _ _).alloc (Nat.le_refl _) _)) (by decide) (by decide) (Nat.ne_of_gt HU.out.lt) (heap_alloc_new wr _)).mono ?_
      rintro e w4 ⟨⟨v, rfl, hv⟩, hc4, hg4⟩
      obtain ⟨z, rfl⟩ := pick_turn hv
      have b3 := below1 wr (.cells #[.int .i64 2, .int .i64 2, .int .i64 3, .int .i64 2, .int .i64 4, .int .i64 1, .int .i64 31] 3)
      have hk4 := Kept.of_grown hg4
      have HU4 := Lib.hid hc4
      have HB4 := Lib.hid ((HB.out.trans (b3.mono HB.out.size)).trans (hk4.below (B := w.heap.size) HP.out (Nat.le_trans HB.out.size b3.size)))
      have OW4 := Lib.hid (((OwnV.of_owns HW.out).below b3).kept hk4 (.inr PL.out))
      have E4 := Lib.hid (Nat.le_trans HE.out (Nat.le_trans b3.size hk4.size))
      have hk' : k ≤ 1099511627776 := by omega
      have C3 := Lib.hid (show w1.heap.size ≤ (w4.alloc (.cells #[.int .i64 z] 3)).heap.size by rw [World.size_alloc]; exact Nat.le_succ_of_le E4.out)
      have W4 := Lib.hid (show w4.ownsRow w1.heap.size 3 1 _ k (intVals ys) by have h := OW4.out.owns; rw [intVals_len, HL.out] at h; exact h)
      clear hv hc4 hg4 hk4 b3
      go_wp2_with (at_builtin; refine list_app_int rfl _ _ rfl w1.heap.size _ k ys _ rfl (W4.out.alloc _) w4.heap.size rfl (heap_alloc_new w4 _) hk' C3.out ?_; intro v' w5 hown5 hbel5; have HO5 := Lib.hid hown5; have HB5 := Lib.hid hbel5; clear hown5 hbel5)
      have hb6 := ((below1 w4 (.cells #[.int .i64 z] 3)).mono E4.out).trans HB5.out
      exact ⟨⟨k + 1, ys ++ [z], by omega, by go_num, by rw [List.length_append, HL.out]; rfl, HO5.out, HU4.out.belowB hb6 PL.out, Nat.le_trans E4.out hb6.size, HB4.out.trans (hb6.mono HB1.out.size)⟩, by simp [RowKit.intOf]; omega⟩
    · obtain rfl : k = n := by omega
      go_wp2
      go_ret
      exact ⟨⟨_, ys, rfl, (OwnV.of_owns HW.out).mono HB1.out.size (Nat.le_refl _)⟩, HB.out⟩
end Go.Proofs.Ytjijgagdaolkcaa
