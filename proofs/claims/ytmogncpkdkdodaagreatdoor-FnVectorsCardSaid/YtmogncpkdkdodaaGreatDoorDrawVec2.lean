/- The drawing of the laws' vectors. -/
import Derived.Test.YtmogncpkdkdodaaGreatDoorDrawVec
import Derived.Test.YtmogncpkdkdodaaGreatDoorDrawStr
import Derived.Test.YtmogncpkdkdodaaGreatDoorTxt
import Derived.Deep.RegionWith
import Derived.Deep.RegionHeld3
namespace Go.Proofs.YtmogncpkdkdodaaGreatDoor
open Go.RowKit Go.Lib

/-- A list was drawn out of a law's bytes. -/
def DrewV (w : World) (P : List Int → Prop) (e : Ending) (w' : World) : Prop := (∃ v zs, e = .returned v ∧ P zs ∧ OwnV 3 w.heap.size w'.heap.size w' v (intVals zs)) ∧ Below w.heap.size w w'
/-- Two lists were drawn. -/
def DrewVV (w : World) (P : List Int → List Int → Prop) (e : Ending) (w' : World) : Prop := (∃ v u zs ys, e = .returned (.tuple #[v, u]) ∧ P zs ys ∧ OwnV 3 w.heap.size w'.heap.size w' v (intVals zs) ∧ OwnV 3 w.heap.size w'.heap.size w' u (intVals ys)) ∧ Below w.heap.size w w'

theorem few_scale {zs : List Int} {x : Int} (h : Few zs) (hb : Bd zs 6) (h1 : 0 ≤ x) (h2 : x ≤ 4) : Few (scaleL zs x) := by
  refine ⟨by simpa [scaleL] using h.1, fun k hk => ?_⟩
  simp only [scaleL, List.length_map] at hk
  simp only [scaleL, List.getElem_map]
  have := mul_bd (hb k hk).1 (hb k hk).2 (show -4 ≤ x by omega) h2
  omega

set_option maxRecDepth 100000 in
set_option maxHeartbeats 800000 in
theorem d_gcdof (a : Option Addr) (c : Nat) (zs : List Int) (w0 w : World) (hbw : Below w0.heap.size w0 w) (hc : CodeIn w0 a zs) :
    Calls Tryz.prog 7 #[.slice a zs.length c] w (DrewV w Few) := by
  have HC := Lib.hid hc
  have HB0 := Lib.hid hbw
  have hw0 : w0.heap.size ≤ w.heap.size := hbw.size
  clear hc hbw
  go_enter Tryz.func7, Tryz.ntmps7
  go_wp2_with fail
  refine (draw_new' a c zs w0 w HB0.out HC.out).mono ?_
  rintro e w1 ⟨⟨p, rfl, hp, hcur⟩, hb1⟩
  have hp1 := hcur.lt
  have HU1 := Lib.hid hcur
  have HB1 := Lib.hid hb1
  clear hcur hb1
  go_wp2_with fail
  refine (d_bent _ p _ HU1.out).mono ?_
  rintro e w2 ⟨⟨v, ys, rfl, hf, ho⟩, hc2, hk2⟩
  have HU2 := Lib.hid hc2
  have HB2 := Lib.hid (HB1.out.trans (hk2.below hp HB1.out.size))
  have HO2 := Lib.hid ho
  have HF := Lib.hid hf
  have hlen := hf.1
  clear hc2 hk2 ho hf
  by_cases hs : small ys 6 = true
  · have HS := Lib.hid hs
    clear hs
    go_wp2_with fail
    refine (s_small ys 6 (by omega) (by omega) _ _ HO2.out.sl).mono ?_
    rintro e w3 ⟨rfl, hb3⟩
    rw [HS.out]
    have HB3 := Lib.hid (HB2.out.trans (hb3.mono HB2.out.size))
    have HO3 := Lib.hid (HO2.out.below hb3)
    have HU3 := Lib.hid (HU2.out.below hb3)
    clear hb3
    go_wp2_with fail
    refine (draw_below _ p 4 _ HU3.out (by omega) (by omega)).mono ?_
    rintro e w4 ⟨⟨v4, rfl, x, rfl, h0, h1⟩, hc4, hg4⟩
    have HB4 := Lib.hid (HB3.out.trans ((Kept.of_grown hg4).below hp HB3.out.size))
    have HO4 := Lib.hid (HO3.out.kept (Kept.of_grown hg4) (.inr hp1))
    have x1 : x ≤ 3 := by omega
    have HD := Lib.hid (small_bd HS.out)
    clear hc4 hg4
    go_wp2_with fail
    refine (s_scale ys (by omega) 6 4 (1 + x) HD.out (by omega) (by omega) (by omega) _ _ HO4.out.sl).mono ?_
    rintro e w5 ⟨⟨r, rfl, ho⟩, hb5⟩
    have HO5 := Lib.hid (ho.mono (lo' := w.heap.size) HB4.out.size (Nat.le_refl _))
    have HB5 := Lib.hid (HB4.out.trans (hb5.mono HB4.out.size))
    clear hb5 ho
    go_wp2_with fail
    go_ret
    exact ⟨⟨_, _, rfl, few_scale HF.out HD.out (by omega) (by omega), HO5.out⟩, HB5.out⟩
  · have HS := Lib.hid (bool_f hs)
    clear hs
    go_wp2_with fail
    refine (s_small ys 6 (by omega) (by omega) _ _ HO2.out.sl).mono ?_
    rintro e w3 ⟨rfl, hb3⟩
    rw [HS.out]
    have HB3 := Lib.hid (HB2.out.trans (hb3.mono HB2.out.size))
    have HO3 := Lib.hid ((HO2.out.below hb3).mono HB1.out.size hb3.size)
    clear hb3
    go_wp2_with fail
    go_ret
    exact ⟨⟨_, ys, rfl, HF.out, HO3.out⟩, HB3.out⟩

set_option maxRecDepth 100000 in
set_option maxHeartbeats 800000 in
theorem d_two (a : Option Addr) (c : Nat) (zs : List Int) (w0 w : World) (hbw : Below w0.heap.size w0 w) (hc : CodeIn w0 a zs) :
    Calls Tryz.prog 80 #[.slice a zs.length c] w (DrewVV w (fun xs ys => Few xs ∧ Few ys)) := by
  have HC := Lib.hid hc
  have HB0 := Lib.hid hbw
  clear hc hbw
  go_enter Tryz.func80, Tryz.ntmps80
  go_wp2_with fail
  refine (draw_new' a c zs w0 w HB0.out HC.out).mono ?_
  rintro e w1 ⟨⟨p, rfl, hp, hcur⟩, hb1⟩
  have hp1 := hcur.lt
  have HU1 := Lib.hid hcur
  have HB1 := Lib.hid hb1
  clear hcur hb1
  go_wp2_with fail
  refine (d_bent _ p _ HU1.out).mono ?_
  rintro e w2 ⟨⟨v, ys, rfl, hf, ho⟩, hc2, hk2⟩
  obtain ⟨va, vc, rfl, hm, _⟩ := ho.sl.shape
  rw [intVals_len] at ho hm ⊢
  have HU2 := Lib.hid hc2
  have HB2 := Lib.hid (HB1.out.trans (hk2.below hp HB1.out.size))
  have HO2 := Lib.hid ho
  have HF := Lib.hid hf
  have hlen := hf.1
  clear hc2 hk2 ho hf hm
  go_wp2_with fail
  refine (d_once _ p 8 _ HU2.out (by omega) (by omega)).mono ?_
  rintro e w3 ⟨⟨b, rfl⟩, hc3, hk3⟩
  have HU3 := Lib.hid hc3
  have HB3 := Lib.hid (HB2.out.trans (hk3.below hp HB2.out.size))
  have HO3 := Lib.hid (HO2.out.kept hk3 (.inr hp1))
  have HZ3 := Lib.hid hk3.size
  clear hc3 hk3
  cases b
  · go_wp2_with fail
    refine (d_draw _ p ys.length 600 (by omega) (by omega) (by omega) _ HU3.out).mono ?_
    rintro e w4 ⟨⟨u, xs, rfl, ⟨hxl, hxb⟩, ho4⟩, hc4, hk4⟩
    have HB4 := Lib.hid (HB3.out.trans (hk4.below hp HB3.out.size))
    have HO4 := Lib.hid ((HO3.out.kept hk4 (.inr hp1)).mono (lo' := w.heap.size) HB1.out.size (Nat.le_trans HZ3.out hk4.size))
    have HP4 := Lib.hid (ho4.mono (lo' := w.heap.size) HB3.out.size (Nat.le_refl _))
    have HX := Lib.hid (show Few xs from ⟨by omega, w64_of_bd hxb (by omega)⟩)
    clear hc4 hk4 ho4 hxl hxb
    go_wp2_with fail
    go_ret2
    exact ⟨⟨_, _, _, _, rfl, ⟨HF.out, HX.out⟩, HO4.out, HP4.out⟩, HB4.out⟩
  · go_wp2_with fail
    refine (d_bent _ p _ HU3.out).mono ?_
    rintro e w4 ⟨⟨u, xs, rfl, hx, ho4⟩, hc4, hk4⟩
    have HB4 := Lib.hid (HB3.out.trans (hk4.below hp HB3.out.size))
    have HO4 := Lib.hid ((HO3.out.kept hk4 (.inr hp1)).mono (lo' := w.heap.size) HB1.out.size (Nat.le_trans HZ3.out hk4.size))
    have HP4 := Lib.hid (ho4.mono (lo' := w.heap.size) HB3.out.size (Nat.le_refl _))
    have HX := Lib.hid hx
    clear hc4 hk4 ho4 hx
    go_wp2_with fail
    go_ret2
    exact ⟨⟨_, _, _, _, rfl, ⟨HF.out, HX.out⟩, HO4.out, HP4.out⟩, HB4.out⟩

set_option maxRecDepth 100000 in
set_option maxHeartbeats 800000 in
theorem d_addv (a : Option Addr) (c : Nat) (zs : List Int) (w0 w : World) (hbw : Below w0.heap.size w0 w) (hc : CodeIn w0 a zs) :
    Calls Tryz.prog 11 #[.slice a zs.length c] w (DrewVV w (fun xs ys => Few xs ∧ Few ys)) := by
  have HT := Lib.hid (d_two a c zs w0 w hbw hc)
  clear hbw hc
  go_enter Tryz.func11, Tryz.ntmps11
  go_wp2_with fail
  refine HT.out.mono ?_
  rintro e w1 ⟨⟨v, u, xs, ys, rfl, hf, ho, hu⟩, hb1⟩
  have HF := Lib.hid hf
  have HO := Lib.hid ho
  have HU := Lib.hid hu
  clear hf ho hu
  go_wp2_with fail
  go_ret2
  exact ⟨⟨_, _, _, _, rfl, HF.out, HO.out, HU.out⟩, hb1⟩

theorem pick_eight {v : Value} (hv : v ∈ [Value.int .i64 0, .int .i64 1, .int .i64 (-1), .int .i64 2, .int .i64 3, .int .i64 200, .int .i64 (-1000), .int .i64 1001]) : ∃ x : Int, v = .int .i64 x ∧ -1000 ≤ x ∧ x ≤ 1001 := by
  simp only [List.mem_cons, List.not_mem_nil, or_false] at hv
  rcases hv with h | h | h | h | h | h | h | h <;> exact ⟨_, h, by omega, by omega⟩
set_option maxRecDepth 100000 in
set_option maxHeartbeats 800000 in
theorem d_scalev (a : Option Addr) (c : Nat) (zs : List Int) (w0 w : World) (hbw : Below w0.heap.size w0 w) (hc : CodeIn w0 a zs) :
    Calls Tryz.prog 14 #[.slice a zs.length c] w fun e w' => (∃ v zs, ∃ k : Int, e = .returned (.tuple #[v, .int .i64 k]) ∧ Few zs ∧ -1000 ≤ k ∧ k ≤ 1001 ∧ OwnV 3 w.heap.size w'.heap.size w' v (intVals zs)) ∧ Below w.heap.size w w' := by
  have HC := Lib.hid hc
  have HB0 := Lib.hid hbw
  clear hc hbw
  go_enter Tryz.func14, Tryz.ntmps14
  go_wp2_with fail
  refine (draw_new' a c zs w0 w HB0.out HC.out).mono ?_
  rintro e w1 ⟨⟨p, rfl, hp, hcur⟩, hb1⟩
  have hp1 := hcur.lt
  have HU1 := Lib.hid hcur
  have HB1 := Lib.hid hb1
  clear hcur hb1
  go_wp2_with fail
  refine (d_bent _ p _ HU1.out).mono ?_
  rintro e w2 ⟨⟨v, ys, rfl, hf, ho⟩, hc2, hk2⟩
  have HU2 := Lib.hid hc2
  have HB2 := Lib.hid (HB1.out.trans (hk2.below hp HB1.out.size))
  have HO2 := Lib.hid ho
  have HF := Lib.hid hf
  clear hc2 hk2 ho hf
  go_wp2_with fail
  refine (draw_pick_int _ p w2.heap.size [.int .i64 0, .int .i64 1, .int .i64 (-1), .int .i64 2, .int .i64 3, .int .i64 200, .int .i64 (-1000), .int .i64 1001] _ (HU2.out.below ((Below.refl _ _).alloc (Nat.le_refl _) _)) (by decide) (by decide) (Nat.ne_of_gt HU2.out.lt) (heap_alloc_new w2 _)).mono ?_
  rintro e w4 ⟨⟨v4, rfl, hv⟩, hc4, hg4⟩
  obtain ⟨x, rfl, x1, x2⟩ := pick_eight hv
  have hb3 : Below w2.heap.size w2 (w2.alloc (.cells #[.int .i64 0, .int .i64 1, .int .i64 (-1), .int .i64 2, .int .i64 3, .int .i64 200, .int .i64 (-1000), .int .i64 1001] 3)) := (Below.refl _ _).alloc (Nat.le_refl _) _
  have HB4 := Lib.hid ((HB2.out.trans (hb3.mono HB2.out.size)).trans ((Kept.of_grown hg4).below hp (Nat.le_trans HB2.out.size hb3.size)))
  have HO4 := Lib.hid (((HO2.out.below hb3).kept (Kept.of_grown hg4) (.inr hp1)).mono (lo' := w.heap.size) HB1.out.size (Nat.le_trans hb3.size hg4.size))
  clear hc4 hg4 hv hb3
  go_wp2_with fail
  go_ret2
  exact ⟨⟨_, _, _, rfl, HF.out, x1, x2, HO4.out⟩, HB4.out⟩

set_option maxRecDepth 100000 in
set_option maxHeartbeats 1600000 in
theorem d_beforev (a : Option Addr) (c : Nat) (zs : List Int) (w0 w : World) (hbw : Below w0.heap.size w0 w) (hc : CodeIn w0 a zs) :
    Calls Tryz.prog 17 #[.slice a zs.length c] w (DrewVV w (fun xs ys => Few xs ∧ Few ys)) := by
  have HC := Lib.hid hc
  have HB0 := Lib.hid hbw
  clear hc hbw
  go_enter Tryz.func17, Tryz.ntmps17
  go_wp2_with fail
  refine (draw_new' a c zs w0 w HB0.out HC.out).mono ?_
  rintro e w1 ⟨⟨p, rfl, hp, hcur⟩, hb1⟩
  have hp1 := hcur.lt
  have HU1 := Lib.hid hcur
  have HB1 := Lib.hid hb1
  clear hcur hb1
  go_wp2_with fail
  refine (d_bent _ p _ HU1.out).mono ?_
  rintro e w2 ⟨⟨v, ys, rfl, hf, ho⟩, hc2, hk2⟩
  have hz2 : w1.heap.size ≤ w2.heap.size := hk2.size
  have HU2 := Lib.hid hc2
  have HB2 := Lib.hid (HB1.out.trans (hk2.below hp HB1.out.size))
  have HO2 := Lib.hid ho
  have HF := Lib.hid hf
  have hlen := hf.1
  have hb3 : Below w2.heap.size w2 (w2.alloc (.cells #[] 3)) := (Below.refl _ _).alloc (Nat.le_refl _) _
  have HB3 := Lib.hid hb3
  have HE3 := Lib.hid (owns_none (e := 3) (Nat.le_refl w2.heap.size))
  have HO3 := Lib.hid (HO2.out.below hb3)
  have hn : 0 + ys.length ≤ 1099511627776 := by omega
  have C3 := Lib.hid (show w2.heap.size ≤ (w2.alloc (.cells #[] 3)).heap.size from hb3.size)
  clear hc2 hk2 ho hf hb3
  by_cases hl0 : 0 < ys.length
  · go_wp2_with (at_builtin; refine list_app_ints rfl _ _ rfl w2.heap.size _ 0 [] ys _ w1.heap.size w2.heap.size rfl HE3.out rfl HO3.out hn C3.out ?_; intro b w4 hown4 hbel4; obtain ⟨g, cap, rfl, hg1, hg2⟩ := hown4.form (by omega); rw [Nat.zero_add] at hown4 ⊢; have HW4 := Lib.hid hown4; have HB4 := Lib.hid (HB3.out.trans hbel4); clear hown4 hbel4)
    have hw4 := HW4.out
    rw [List.nil_append] at hw4
    have HP4 := Lib.hid hw4
    have HO4 := Lib.hid (HO2.out.below HB4.out)
    have HU4 := Lib.hid (HU2.out.below HB4.out)
    have HBB4 := Lib.hid (HB2.out.trans (HB4.out.mono HB2.out.size))
    have hz4 : w2.heap.size ≤ w4.heap.size := HB4.out.size
    clear hw4
    go_wp2_with fail
    refine (d_once _ p 2 _ HU4.out (by omega) (by omega)).mono ?_
    rintro e w5 ⟨⟨t, rfl⟩, hc5, hk5⟩
    have HU5 := Lib.hid hc5
    have HB5 := Lib.hid (HBB4.out.trans (hk5.below hp HBB4.out.size))
    have HO5 := Lib.hid (HO4.out.kept hk5 (.inr hp1))
    have HP5 := Lib.hid (owns_kept HP4.out hk5 (by omega))
    have hz5 : w4.heap.size ≤ w5.heap.size := hk5.size
    clear hc5 hk5
    cases t
    · go_wp2_with fail
      refine (d_once _ p 4 _ HU5.out (by omega) (by omega)).mono ?_
      rintro e w6 ⟨⟨t6, rfl⟩, hc6, hk6⟩
      have HU6 := Lib.hid hc6
      have HB6 := Lib.hid (HB5.out.trans (hk6.below hp HB5.out.size))
      have HO6 := Lib.hid (HO5.out.kept hk6 (.inr hp1))
      have HP6 := Lib.hid (owns_kept HP5.out hk6 (by omega))
      have hz6 : w5.heap.size ≤ w6.heap.size := hk6.size
      clear hc6 hk6
      cases t6
      · go_wp2_with fail
        go_ret2
        exact ⟨⟨_, _, ys, ys, rfl, ⟨HF.out, HF.out⟩, HO6.out.mono HB1.out.size (by omega), (OwnV.of_owns HP6.out).mono HB2.out.size (Nat.le_refl _)⟩, HB6.out⟩
      · go_wp2_with fail
        refine (d_bent _ p _ HU6.out).mono ?_
        rintro e w7 ⟨⟨u, xs, rfl, hx, ho4⟩, hc4, hk4⟩
        have HB7 := Lib.hid (HB6.out.trans (hk4.below hp HB6.out.size))
        have HO7 := Lib.hid ((HO6.out.kept hk4 (.inr hp1)).mono (lo' := w.heap.size) HB1.out.size (Nat.le_trans (by omega) hk4.size))
        have HQ7 := Lib.hid (ho4.mono (lo' := w.heap.size) HB6.out.size (Nat.le_refl _))
        have HX := Lib.hid hx
        clear hc4 hk4 ho4 hx
        go_wp2_with fail
        go_ret2
        exact ⟨⟨_, _, _, _, rfl, ⟨HF.out, HX.out⟩, HO7.out, HQ7.out⟩, HB7.out⟩
    · go_wp2_with fail
      refine (draw_below _ p 7 _ HU5.out (by omega) (by omega)).mono ?_
      rintro e w6 ⟨⟨v6, rfl, x, rfl, h0, h1⟩, hc6, hg6⟩
      have HU6 := Lib.hid hc6
      have hk6 := Kept.of_grown hg6
      have HB6 := Lib.hid (HB5.out.trans (hk6.below hp HB5.out.size))
      have HO6 := Lib.hid (HO5.out.kept hk6 (.inr hp1))
      have hp6 := owns_kept HP5.out hk6 (by omega)
      have hz6 : w5.heap.size ≤ w6.heap.size := hk6.size
      obtain ⟨q, hq⟩ : ∃ q, ys.length = q + 1 := ⟨ys.length - 1, by omega⟩
      have hql : q < ys.length := by omega
      have hqi : (ys.length : Int) - 1 = q := by omega
      have i1 : (0 : Int) ≤ (ys.length : Int) - 1 := by omega
      have i2 : (ys.length : Int) - 1 < ys.length := by omega
      have i3 : ((ys.length : Int) - 1).toNat = q := by omega
      obtain ⟨old, hmine⟩ : ∃ old : Int, w6.cell? ⟨g, q, none⟩ = some (.int .i64 old) := ⟨_, by rw [hp6.cellAt q (by omega)]; exact intVals_get ys q hql⟩
      have hfree := hp6.frozenAt q
      have HS := Lib.hid (hp6.stored q (.int .i64 x))
      have HX6 := Lib.hid (few_set (j := q) HF.out (show -9223372036854775808 ≤ x by omega) (show x ≤ 9223372036854775807 by omega))
      have hgw : w2.heap.size ≤ g := hg1
      clear hc6 hg6 hk6 hp6 hq hqi
      go_wp2_with fail
      have hp2 : p < w2.heap.size := Nat.lt_of_lt_of_le hp1 hz2
      have hb7 : Below w2.heap.size w6 (w6.setCell ⟨g, q, none⟩ (.int .i64 x)) := (Below.refl _ _).setCell hgw _
      have HU7 := Lib.hid (HU6.out.belowB hb7 hp2)
      have HB7 := Lib.hid (HB6.out.trans (hb7.mono HB2.out.size))
      have HO7 := Lib.hid (HO6.out.mid (Mid.of_below hb7 (Nat.le_refl _)))
      have hp7 := HS.out.1
      rw [← intVals_set] at hp7
      have HP7 := Lib.hid hp7
      have hz7 : w6.heap.size ≤ (w6.setCell ⟨g, q, none⟩ (.int .i64 x)).heap.size := hb7.size
      clear hb7 hp7 hmine hfree HS
      generalize w6.setCell ⟨g, q, none⟩ (.int .i64 x) = w7 at HU7 HB7 HO7 HP7 hz7 ⊢
      refine (d_once _ p 4 _ HU7.out (by omega) (by omega)).mono ?_
      rintro e w8 ⟨⟨t8, rfl⟩, hc8, hk8⟩
      have HU8 := Lib.hid hc8
      have HB8 := Lib.hid (HB7.out.trans (hk8.below hp HB7.out.size))
      have HO8 := Lib.hid (HO7.out.kept hk8 (.inr hp1))
      have HP8 := Lib.hid (owns_kept HP7.out hk8 (by omega))
      have hz8 : w7.heap.size ≤ w8.heap.size := hk8.size
      clear hc8 hk8
      cases t8
      · go_wp2_with fail
        go_ret2
        exact ⟨⟨_, _, ys, ys.set q x, rfl, ⟨HF.out, HX6.out⟩, HO8.out.mono HB1.out.size (by omega), (OwnV.of_owns HP8.out).mono HB2.out.size (Nat.le_refl _)⟩, HB8.out⟩
      · go_wp2_with fail
        refine (d_bent _ p _ HU8.out).mono ?_
        rintro e w9 ⟨⟨u, xs, rfl, hx, ho4⟩, hc4, hk4⟩
        have HB9 := Lib.hid (HB8.out.trans (hk4.below hp HB8.out.size))
        have HO9 := Lib.hid ((HO8.out.kept hk4 (.inr hp1)).mono (lo' := w.heap.size) HB1.out.size (Nat.le_trans (by omega) hk4.size))
        have HQ9 := Lib.hid (ho4.mono (lo' := w.heap.size) HB8.out.size (Nat.le_refl _))
        have HX := Lib.hid hx
        clear hc4 hk4 ho4 hx
        go_wp2_with fail
        go_ret2
        exact ⟨⟨_, _, _, _, rfl, ⟨HF.out, HX.out⟩, HO9.out, HQ9.out⟩, HB9.out⟩
  · obtain rfl : ys = [] := by cases ys with | nil => rfl | cons x r => simp at hl0
    go_wp2_with (at_builtin; refine list_app_ints rfl _ _ rfl w2.heap.size _ 0 [] [] _ w1.heap.size w2.heap.size rfl HE3.out rfl HO3.out hn C3.out ?_; intro b w4 hown4 hbel4; obtain ⟨g, cap, rfl⟩ : ∃ (ad : Option Addr) (cp : Nat), b = .slice ad 0 cp := (Sl.of_owns hown4).shape.elim (fun a h => h.elim (fun c h => ⟨a, c, h.1⟩)); have HW4 := Lib.hid hown4; have HB4 := Lib.hid (HB3.out.trans hbel4); clear hown4 hbel4)
    have HP4 := Lib.hid (show w4.ownsRow w2.heap.size 3 1 (.slice g 0 cap) 0 (intVals []) from HW4.out)
    have HO4 := Lib.hid (HO2.out.below HB4.out)
    have HU4 := Lib.hid (HU2.out.below HB4.out)
    have HBB4 := Lib.hid (HB2.out.trans (HB4.out.mono HB2.out.size))
    have hz4 : w2.heap.size ≤ w4.heap.size := HB4.out.size
    go_wp2_with fail
    refine (d_once _ p 4 _ HU4.out (by omega) (by omega)).mono ?_
    rintro e w5 ⟨⟨t5, rfl⟩, hc5, hk5⟩
    have HU5 := Lib.hid hc5
    have HB5 := Lib.hid (HBB4.out.trans (hk5.below hp HBB4.out.size))
    have HO5 := Lib.hid (HO4.out.kept hk5 (.inr hp1))
    have HP5 := Lib.hid (owns_kept HP4.out hk5 (by omega))
    have hz5 : w4.heap.size ≤ w5.heap.size := hk5.size
    clear hc5 hk5
    cases t5
    · go_wp2_with fail
      go_ret2
      exact ⟨⟨_, _, [], [], rfl, ⟨HF.out, HF.out⟩, HO5.out.mono HB1.out.size (by omega), (OwnV.of_owns HP5.out).mono HB2.out.size (Nat.le_refl _)⟩, HB5.out⟩
    · go_wp2_with fail
      refine (d_bent _ p _ HU5.out).mono ?_
      rintro e w6 ⟨⟨u, xs, rfl, hx, ho4⟩, hc4, hk4⟩
      have HB6 := Lib.hid (HB5.out.trans (hk4.below hp HB5.out.size))
      have HO6 := Lib.hid ((HO5.out.kept hk4 (.inr hp1)).mono (lo' := w.heap.size) HB1.out.size (Nat.le_trans (by omega) hk4.size))
      have HQ6 := Lib.hid (ho4.mono (lo' := w.heap.size) HB5.out.size (Nat.le_refl _))
      have HX := Lib.hid hx
      clear hc4 hk4 ho4 hx
      go_wp2_with fail
      go_ret2
      exact ⟨⟨_, _, _, _, rfl, ⟨HF.out, HX.out⟩, HO6.out, HQ6.out⟩, HB6.out⟩

/-- A text was drawn. -/
def DrewS (base p : Nat) (w : World) (n : Nat) (e : Ending) (w' : World) : Prop := (∃ s : ByteArray, e = .returned (.string s) ∧ s.size ≤ n) ∧ CurAt base w' p ∧ Kept p (p + 1) w w'
set_option maxRecDepth 100000 in
set_option maxHeartbeats 1600000 in
theorem d_turned (base p L n : Nat) (s : ByteArray) (xs : List Value) (hs : s.size ≤ 1000) (w : World) (hc : CurAt base w p) (hn : xs.length = n) (h0 : 0 < n) (hm : n ≤ 1048576) (hL : L ≠ p) (hx : w.heap[L]? = some (.cells xs.toArray 9 (0, 0)))
    (hsz : ∀ v ∈ xs, ∃ t : ByteArray, v = .string t ∧ t.size ≤ 1000) :
    Calls Tryz.prog 87 #[.pointer (some ⟨p, 0, none⟩), .string s, .slice (some ⟨L, 0, none⟩) n n] w (DrewS base p w 2000) := by
  subst hn
  have HC := Lib.hid hc
  have HX := Lib.hid hx
  have HS := Lib.hid hsz
  have hLl := lt_of_heap hx
  have hpl := hc.lt
  clear hc hx hsz
  go_enter Tryz.func87, Tryz.ntmps87
  go_wp2_with fail
  refine (draw_below base p _ _ HC.out (by omega) (by omega)).mono ?_
  rintro e w1 ⟨⟨v, rfl, x, rfl, hx0, hx1⟩, hc1, hg1⟩
  have x0 : 0 ≤ x := hx0
  have x1 : x ≤ s.size := by omega
  have HU1 := Lib.hid hc1
  have HK1 := Lib.hid (Kept.of_grown hg1)
  have HX1 := Lib.hid (show w1.heap[L]? = some (.cells xs.toArray 9 (0, 0)) by rw [hg1.block L hLl (by simpa using hL)]; exact HX.out)
  clear hc1 hg1 hx0 hx1
  obtain ⟨k, rfl⟩ : ∃ k : Nat, x = k := ⟨x.toNat, by omega⟩
  have k1 : k ≤ s.size := by omega
  go_wp2_with fail
  refine (draw_below base p 6 _ HU1.out (by omega) (by omega)).mono ?_
  rintro e w2 ⟨⟨v2, rfl, y, rfl, h2, h3⟩, hc2, hg2⟩
  have hLl1 := lt_of_heap HX1.out
  have HU2 := Lib.hid hc2
  have HK2 := Lib.hid (HK1.out.trans (Kept.of_grown hg2))
  have HX2 := Lib.hid (show w2.heap[L]? = some (.cells xs.toArray 9 (0, 0)) by rw [hg2.block L hLl1 (by simpa using hL)]; exact HX1.out)
  clear hc2 hg2
  by_cases y0 : y = 0
  · subst y0
    have HX3 := Lib.hid (show w2.drew.heap[L]? = some (.cells xs.toArray 9 (0, 0)) from HX2.out)
    have HU3 := Lib.hid (HU2.out.below ((Below.refl w2.heap.size w2).drew))
    have HK3 := Lib.hid (HK2.out.drew 1)
    have i1 : (k : Int) ≤ (s.size : Int) := by omega
    have i2 : (0 : Int) ≤ (k : Int) := by omega
    go_wp2_with fail
    go_region_with (go_at_call 136; refine (draw_pick base p L xs _ HU3.out h0 hm hL HX3.out).mono ?_; rintro e w3 ⟨⟨v3, rfl, hv3⟩, hc3, hg3⟩; obtain ⟨t, rfl, ht⟩ := HS.out _ hv3)
    all_goals
      have HU4 := Lib.hid hc3
      have HK4 := Lib.hid (HK3.out.trans (Kept.of_grown hg3))
      clear hc3 hg3 hv3
      go_wp2
      go_ret
      exact ⟨⟨_, rfl, by rw [ByteArray.size_append, ByteArray.size_append, ByteArray.size_extract, ByteArray.size_extract]; omega⟩, HU4.out, HK4.out⟩
  · have b0 : (y == 0) = false := by rw [beq_eq_false_iff_ne]; exact y0
    by_cases y1 : y = 1
    · subst y1
      go_wp2_with fail
      go_ret
      exact ⟨⟨_, rfl, by rw [ByteArray.size_extract]; omega⟩, HU2.out, HK2.out⟩
    · have b1 : (y == 1) = false := by rw [beq_eq_false_iff_ne]; exact y1
      go_wp2_with fail
      go_ret
      exact ⟨⟨s, rfl, by omega⟩, HU2.out, HK2.out⟩

theorem textV_size (v : List Int) : (textV v).length ≤ 1000 := by
  unfold textV
  split
  · rename_i h
    obtain ⟨h1, h2, h3⟩ := isV_t h
    have hs := numerals_sizes v ((small_bd h3).w64 (by omega))
    have hj := join_len [44] (numerals v)
    rw [numerals_len] at hj
    unfold textL
    simp only [List.length_cons, List.length_nil] at hj
    omega
  · simp
set_option maxRecDepth 100000 in
set_option maxHeartbeats 1600000 in
theorem d_parsev (a : Option Addr) (c : Nat) (zs : List Int) (w0 w : World) (hbw : Below w0.heap.size w0 w) (hc : CodeIn w0 a zs) :
    Calls Tryz.prog 18 #[.slice a zs.length c] w fun e w' => (∃ s : ByteArray, e = .returned (.string s) ∧ s.size ≤ 2000) ∧ Below w.heap.size w w' := by
  have HC := Lib.hid hc
  have HB0 := Lib.hid hbw
  clear hc hbw
  go_enter Tryz.func18, Tryz.ntmps18
  go_wp2_with fail
  refine (draw_new' a c zs w0 w HB0.out HC.out).mono ?_
  rintro e w1 ⟨⟨p, rfl, hp, hcur⟩, hb1⟩
  have HU1 := Lib.hid hcur
  have HB1 := Lib.hid hb1
  clear hcur hb1
  go_wp2_with fail
  refine (draw_below _ p 3 _ HU1.out (by omega) (by omega)).mono ?_
  rintro e w2 ⟨⟨v2, rfl, x, rfl, h0, h1⟩, hc2, hg2⟩
  obtain ⟨m, rfl⟩ : ∃ m : Nat, x = m := ⟨x.toNat, by omega⟩
  have hm : m ≤ 2 := by omega
  have HU2 := Lib.hid hc2
  have HB2 := Lib.hid (HB1.out.trans ((Kept.of_grown hg2).below hp HB1.out.size))
  clear hc2 hg2 h0 h1
  go_wp2_with fail
  refine (d_draw _ p (1 + m) 30 (by omega) (by omega) (by omega) _ HU2.out).mono ?_
  rintro e w3 ⟨⟨v, ys, rfl, ⟨hl, hbd⟩, ho⟩, hc3, hk3⟩
  have HU3 := Lib.hid hc3
  have HB3 := Lib.hid (HB2.out.trans (hk3.below hp HB2.out.size))
  have HO3 := Lib.hid ho
  clear hc3 hk3 ho hl hbd
  go_wp2_with fail
  refine (s_text ys _ _ HO3.out.sl).mono ?_
  rintro e w4 ⟨rfl, hb4⟩
  have HU4 := Lib.hid (HU3.out.below hb4)
  have HB4 := Lib.hid (HB3.out.trans (hb4.mono HB3.out.size))
  have HT := Lib.hid (textV_size ys)
  clear hb4
  generalize textV ys = tx at HT ⊢
  have hb5 : Below w4.heap.size w4 (w4.alloc (.cells #[.string ⟨#[44]⟩, .string ⟨#[45]⟩, .string ⟨#[49]⟩, .string ⟨#[48]⟩] 9)) := (Below.refl _ _).alloc (Nat.le_refl _) _
  have HB5 := Lib.hid hb5
  clear hb5
  go_wp2_with fail
  refine (d_turned _ p w4.heap.size 4 ⟨tx.toArray⟩ [.string ⟨#[44]⟩, .string ⟨#[45]⟩, .string ⟨#[49]⟩, .string ⟨#[48]⟩] (by have := HT.out; show tx.toArray.size ≤ 1000; simpa using this) _ (HU4.out.below HB5.out) rfl (by omega) (by omega) (Nat.ne_of_gt HU4.out.lt) (heap_alloc_new w4 _) ?_).mono ?_
  · intro v hv
    simp only [List.mem_cons, List.not_mem_nil, or_false] at hv
    rcases hv with h | h | h | h <;> exact ⟨_, h, by decide⟩
  rintro e w6 ⟨⟨s, rfl, hs⟩, hc6, hk6⟩
  have HB6 := Lib.hid ((HB4.out.trans (HB5.out.mono HB4.out.size)).trans (hk6.below hp (Nat.le_trans HB4.out.size HB5.out.size)))
  clear hc6 hk6
  go_wp2_with fail
  go_ret
  exact ⟨⟨s, rfl, hs⟩, HB6.out⟩
end Go.Proofs.YtmogncpkdkdodaaGreatDoor
