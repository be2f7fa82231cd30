/- The draws of FnSeries: cones with a shift, terms, series. -/
import Derived.Test.YtjijgagdaolkcaaDrawCn
import Derived.Test.YtjijgagdaolkcaaMbf
import Derived.Test.YtjijgagdaolkcaaMax
import Derived.Test.YtjijgagdaolkcaaDrawMat
import Derived.Test.YtjijgagdaolkcaaMay
namespace Go.Proofs.Ytjijgagdaolkcaa
open Go Go.RowKit Go.Lib

/-- A cone and a list of at most 3 numbers within 5 were drawn. -/
def DrewCB (w : World) (e : Ending) (w' : World) : Prop := (∃ (c : Cn) (x : List Int) (u t v : Value), e = .returned (.tuple #[.agg #[u, t], v]) ∧ (x.length ≤ 3 ∧ Bd x 5) ∧ OwC w.heap.size w'.heap.size w' u t c ∧ OwnV 3 w.heap.size w'.heap.size w' v (intVals x)) ∧ Below w.heap.size w w'
set_option maxRecDepth 100000 in
set_option maxHeartbeats 1600000 in
theorem d_seriesofc (a : Option Addr) (c : Nat) (zs : List Int) (w0 w : World) (hbw : Below w0.heap.size w0 w) (hc : CodeIn w0 a zs) :
    Calls Try.prog 32 #[.slice a zs.length c] w (DrewCB w) := by
  have HC := Lib.hid hc
  have HB0 := Lib.hid hbw
  have K0 := Lib.hid (Bk.new w #[.slice none 0 0, .slice none 0 0] 26)
  have B0 := Lib.hid (below1 w (.cells #[.slice none 0 0, .slice none 0 0] 26))
  clear hc hbw
  go_enter Try.func32, Try.ntmps32
  go_wp2_with fail
  refine (draw_new' a c zs w0 _ (HB0.out.trans (B0.out.mono HB0.out.size)) HC.out).mono ?_
  rintro e w1 ⟨⟨p, rfl, hp, hcur⟩, hb1⟩
  have KA1 := Lib.hid (K0.out.below hb1)
  have HB1 := Lib.hid (B0.out.trans (hb1.mono B0.out.size))
  have HU1 := Lib.hid hcur
  have HP := Lib.hid (show w.heap.size + 1 ≤ p by simpa using hp)
  have PL2 := Lib.hid (show p < w1.heap.size from hcur.lt)
  clear hb1 hcur hp
  go_wp2_with fail
  refine (d_cbent _ p _ HU1.out).mono ?_
  rintro e w2 ⟨⟨c', u, t, rfl, ho⟩, hc2, hk2⟩
  have KA2 := Lib.hid (KA1.out.kept hk2 (.inl HP.out))
  have HB2 := Lib.hid (HB1.out.trans (hk2.below (B := w.heap.size) (by have := HP.out; omega) HB1.out.size))
  have OC := Lib.hid ho
  have W1L := Lib.hid (show w.heap.size + 1 ≤ w1.heap.size from KA1.out.lt)
  have PL := Lib.hid (show p < w2.heap.size from Nat.lt_of_lt_of_le PL2.out hk2.size)
  have WL := Lib.hid (show w.heap.size < w2.heap.size from KA2.out.lt)
  obtain ⟨ua, uc, ta, tc, rfl, rfl⟩ := ho.shape
  have KB := Lib.hid (Bk.new w2 #[.slice ua c'.1.length uc, .slice ta c'.2.length tc] 26)
  have B2 := below1 w2 (.cells #[.slice ua c'.1.length uc, .slice ta c'.2.length tc] 26)
  have KA3 := Lib.hid (KA2.out.below B2)
  have HC3 := Lib.hid (show CurAt _ (w2.alloc (.cells #[.slice ua c'.1.length uc, .slice ta c'.2.length tc] 26)).drew p from (hc2.below B2).below (Below.refl _ _).drew)
  have OC3 := Lib.hid (show OwC w1.heap.size w2.heap.size (w2.alloc (.cells #[.slice ua c'.1.length uc, .slice ta c'.2.length tc] 26)).drew _ _ _ from OC.out.below (B2.trans (Below.refl _ _).drew))
  have HB3 := Lib.hid (show Below w.heap.size w (w2.alloc (.cells #[.slice ua c'.1.length uc, .slice ta c'.2.length tc] 26)).drew from (HB2.out.trans (B2.mono HB2.out.size)).drew)
  clear ho hc2 hk2 B2
  go_wp2_with fail
  refine T_begin (z := fun k => 7 < k) (S := fun (w' : World) => Bk w' w2.heap.size #[.slice ua c'.1.length uc, .slice ta c'.2.length tc] 26) (by kernel_rfl) ?_
  show wpAnyT _ _ _ _ _ _ 9 _ _ _
  have hS0 := Lib.hid (show (fun (w' : World) => Bk w' w2.heap.size #[.slice ua c'.1.length uc, .slice ta c'.2.length tc] 26) ((w2.alloc (.cells #[.slice ua c'.1.length uc, .slice ta c'.2.length tc] 26)).drew) from KB.out)
  refine T_take (i := 0) (v := .agg #[.slice ua c'.1.length uc, .slice ta c'.2.length tc]) rfl (by kernel_rfl) (by kernel_rfl) (by kernel_rfl) (by kernel_rfl) (fun _ _ _ h => h) hS0.out (by kernel_rfl) (fun w' hS' => by obtain ⟨⟨h0, h1⟩, -⟩ := (show Bk _ _ _ _ from hS').two; go_simp) ?_
  refine T_take (i := 1) (v := .pointer (some ⟨p, 0, none⟩)) rfl (by kernel_rfl) (by kernel_rfl) (by kernel_rfl) (by kernel_rfl) (fun _ _ _ h => h) hS0.out (by kernel_rfl) (fun w' hS' => by obtain ⟨⟨h0, h1⟩, -⟩ := (show Bk _ _ _ _ from hS').two; go_simp) ?_
  refine T_take (i := 2) (v := .pointer (some ⟨p, 0, none⟩)) rfl (by kernel_rfl) (by kernel_rfl) (by kernel_rfl) (by kernel_rfl) (fun _ _ _ h => h) hS0.out (by kernel_rfl) (fun w' hS' => by obtain ⟨⟨h0, h1⟩, -⟩ := (show Bk _ _ _ _ from hS').two; go_simp) ?_
  refine T_step (i := 3) rfl (by kernel_rfl) rfl (by kernel_rfl) ?_
  intro K hK
  go_simp
  refine (d_once _ p 14 _ HC3.out (by omega) (by omega)).mono ?_
  rintro e' w4 ⟨⟨b, rfl⟩, hc4, hk4⟩
  have KB4 := Lib.hid ((show Bk (w2.alloc (.cells #[.slice ua c'.1.length uc, .slice ta c'.2.length tc] 26)).drew w2.heap.size #[.slice ua c'.1.length uc, .slice ta c'.2.length tc] 26 from KB.out).kept hk4 (by have := PL.out; omega))
  have KA4 := Lib.hid ((show Bk (w2.alloc (.cells #[.slice ua c'.1.length uc, .slice ta c'.2.length tc] 26)).drew w.heap.size #[.slice none 0 0, .slice none 0 0] 26 from KA3.out).kept hk4 (.inl HP.out))
  have HC4 := Lib.hid hc4
  have OC4 := Lib.hid (OC3.out.kept hk4 (.inr (by have := PL2.out; omega)))
  have HB4 := Lib.hid (HB3.out.trans (hk4.below (B := w.heap.size) (by have := HP.out; omega) HB3.out.size))
  have S4 := Lib.hid hk4.size
  refine hK.out _ _ KB4.out ?_
  clear hK K hc4 hk4
  refine T_step (i := 4) rfl (by kernel_rfl) rfl (by kernel_rfl) ?_
  intro K hK
  go_simp
  refine (bit_of b _).mono ?_
  rintro e' w5 ⟨rfl, rfl⟩
  obtain ⟨n, hn, hn3⟩ : ∃ n : Nat, (2 : Int) + (if b = true then 1 else 0) = n ∧ n ≤ 3 := by
      cases b with
      | true => exact ⟨3, rfl, by omega⟩
      | false => exact ⟨2, rfl, by omega⟩
  obtain ⟨bi, hbi⟩ : ∃ q : Int, (if b = true then (1 : Int) else 0) = q := ⟨_, rfl⟩
  rw [hbi] at hn ⊢
  have hw : IntKind.i64.wrap (n : Int) = (n : Int) := IntWalk.i64_in _ (by omega)
  refine hK.out _ _ KB4.out ?_
  clear hK K hbi
  refine T_take (i := 5) (v := .int .i64 n) rfl (by kernel_rfl) (by kernel_rfl) (by kernel_rfl) (by kernel_rfl) (fun _ _ _ h => h) KB4.out (by kernel_rfl) (fun w' hS' => by obtain ⟨⟨h0, h1⟩, -⟩ := (show Bk _ _ _ _ from hS').two; go_simp) ?_
  refine T_step (i := 6) rfl (by kernel_rfl) rfl (by kernel_rfl) ?_
  intro K hK
  go_simp
  refine (d_draw _ p n 5 (by omega) (by omega) (by omega) _ HC4.out).mono ?_
  rintro e' w6 ⟨⟨y, zs, rfl, hzs, hy⟩, hc6, hk6⟩
  have HZS := Lib.hid (And.intro (show zs.length ≤ 3 by omega) hzs.2)
  clear hzs
  have KB6 := Lib.hid (KB4.out.kept hk6 (by have := PL.out; omega))
  have KA6 := Lib.hid (KA4.out.kept hk6 (.inl HP.out))
  have OC6 := Lib.hid (OC4.out.kept hk6 (.inr (by have := PL2.out; omega)))
  have HB6 := Lib.hid (HB4.out.trans (hk6.below (B := w.heap.size) (by have := HP.out; omega) HB4.out.size))
  have S6 := Lib.hid hk6.size
  have HY := Lib.hid hy
  obtain ⟨ya, yc, rfl, _⟩ := hy.shape1
  refine hK.out _ _ KB6.out ?_
  clear hK K hc6 hk6 hy
  obtain ⟨⟨c0, c1⟩, f0, f1⟩ := KA6.out.two
  refine T_step (i := 7) rfl (by kernel_rfl) rfl (by kernel_rfl) ?_
  intro K hK
  go_simp
  have KB7 := Lib.hid ((KB6.out.other (p := ⟨w.heap.size, 0, none⟩) (by have := WL.out; simp; omega) (.slice ua c'.1.length uc)).other (p := ⟨w.heap.size, 1, none⟩) (by have := WL.out; simp; omega) (.slice ta c'.2.length tc))
  refine hK.out _ _ KB7.out ?_
  clear hK K
  refine T_last (i := 8) rfl (by kernel_rfl) (by kernel_rfl) rfl (by kernel_rfl) ?_
  go_simp
  have kk : Kept w.heap.size (w.heap.size + 1) w6 ((w6.setCell ⟨w.heap.size, 0, none⟩ (.slice ua c'.1.length uc)).setCell ⟨w.heap.size, 1, none⟩ (.slice ta c'.2.length tc)) := ((Kept.refl _ _ _).setCell (p := ⟨w.heap.size, 0, none⟩) (by simp) (by simp) _).setCell (p := ⟨w.heap.size, 1, none⟩) (by simp) (by simp) _
  have sz6 : ((w6.setCell ⟨w.heap.size, 0, none⟩ (.slice ua c'.1.length uc)).setCell ⟨w.heap.size, 1, none⟩ (.slice ta c'.2.length tc)).heap.size = w6.heap.size := by simp [World.setCell]
  have z4 : w2.heap.size + 1 ≤ w4.heap.size := KB4.out.lt
  have OC7 := Lib.hid ((OC6.out.kept kk (.inr W1L.out)).mono (lo' := w.heap.size) (hi' := w6.heap.size) (by have := W1L.out; omega) (by have := S6.out; omega))
  have OY7 := Lib.hid ((HY.out.kept kk (.inr (by have := WL.out; omega))).mono (lo' := w.heap.size) (hi' := w6.heap.size) (by have := WL.out; omega) (Nat.le_refl _))
  clear hS0
  go_wp2
  refine bodyPost_ret (v := .tuple #[.agg #[.slice ua c'.1.length uc, .slice ta c'.2.length tc], .slice ya (intVals zs).length yc]) ?_ rfl ⟨⟨c', zs, _, _, _, rfl, HZS.out, by rw [sz6]; exact OC7.out, by rw [sz6]; exact OY7.out⟩, (HB6.out.setCell (by simp) _).setCell (by simp) _⟩
  simp [results, Try.results32, go_sem, c0, c1]

/-- A drawn term: two numbers within 3, at most two vectors of such. -/
def FewT (t : Tm) : Prop := (t.2.1.length = 2 ∧ Bd t.2.1 3) ∧ t.2.2.length ≤ 2 ∧ ∀ (i : Nat) (h : i < t.2.2.length), t.2.2[i].length = 2 ∧ Bd t.2.2[i] 3
def DrewT (base p : Nat) (w : World) (e : Ending) (w' : World) : Prop :=
  (∃ (t : Tm) (u g : Value), e = .returned (.agg #[.int .i64 t.1, u, g]) ∧ ETm w.heap.size w'.heap.size w' [.int .i64 t.1, u, g] t ∧ FewT t) ∧ CurAt base w' p ∧ Kept p (p + 1) w w'
/-- What the loop keeps. -/
def TermD (base p : Nat) (w : World) (z : Int) (s : List Int) (sv : Value) (m : Nat) (u : Value) (gs : List (List Int)) (wr : World) : Prop :=
  Bk wr w.heap.size #[.int .i64 0, .slice none 0 0, .slice none 0 0] 49 ∧ Bk wr m #[.int .i64 z, sv, u] 49 ∧ OwnV 3 (w.heap.size + 1) m wr sv (intVals s) ∧ OwR 24 3 (m + 1) wr.heap.size wr u gs ∧ CurAt base wr p ∧ Kept p (p + 1) w wr ∧ m + 1 ≤ wr.heap.size ∧ w.heap.size + 1 ≤ m
theorem TermD.kept {base p : Nat} {w : World} {z : Int} {s : List Int} {sv : Value} {m : Nat} {u : Value} {gs : List (List Int)} {wr w1 : World} (h : TermD base p w z s sv m u gs wr) (hp : p < w.heap.size) (hc : CurAt base w1 p) (hk : Kept p (p + 1) wr w1) : TermD base p w z s sv m u gs w1 := by
  obtain ⟨h1, h2, h3, h4, h5, h6, h7, h8⟩ := h
  have := hk.size
  exact ⟨h1.kept hk (.inr (by omega)), h2.kept hk (.inr (by omega)), h3.kept hk (.inr (by omega)), (h4.kept hk (.inr (by omega))).mono (Nat.le_refl _) hk.size, hc, h6.trans hk, by omega, h8⟩
theorem TermD.below {base p : Nat} {w : World} {z : Int} {s : List Int} {sv : Value} {m : Nat} {u : Value} {gs : List (List Int)} {wr w1 : World} (h : TermD base p w z s sv m u gs wr) (hb : Below wr.heap.size wr w1) : TermD base p w z s sv m u gs w1 := by
  obtain ⟨h1, h2, h3, h4, h5, h6, h7, h8⟩ := h
  have := hb.size
  exact ⟨h1.below hb, h2.below hb, h3.below hb, (h4.below hb).mono (Nat.le_refl _) hb.size, h5.below hb, h6.then_below hb, by omega, h8⟩
/-- The sign is stored. -/
theorem TermD.sign {base p : Nat} {w : World} {z z' : Int} {s : List Int} {sv : Value} {m : Nat} {u : Value} {gs : List (List Int)} {wr : World} (h : TermD base p w z s sv m u gs wr) (hp : p < w.heap.size) : TermD base p w z' s sv m u gs (wr.setCell ⟨m, 0, none⟩ (.int .i64 z')) := by
  obtain ⟨h1, h2, h3, h4, h5, h6, h7, h8⟩ := h
  have KP := (Kept.refl m (m + 1) wr).setCell (p := ⟨m, 0, none⟩) (Nat.le_refl _) (Nat.lt_succ_self _) (.int .i64 z')
  exact ⟨h1.kept KP (.inl (by omega)), h2.set 0 _ (by simp), h3.kept KP (.inl (Nat.le_refl _)), (h4.kept KP (.inr (Nat.le_refl _))).mono (Nat.le_refl _) (by simp [World.setCell]), h5.belowB ((Below.refl m wr).setCell (p := ⟨m, 0, none⟩) (Nat.le_refl _) _) (by omega), h6.andB ((Below.refl w.heap.size wr).setCell (p := ⟨m, 0, none⟩) (by show w.heap.size ≤ m; omega) _), by simpa [World.setCell] using h7, h8⟩
/-- The answer. -/
theorem TermD.ret {base p : Nat} {w : World} {z : Int} {s : List Int} {ra : Option Addr} {rc m : Nat} {ua : Option Addr} {k uc : Nat} {gs : List (List Int)} {wr : World} (h : TermD base p w z s (.slice ra 2 rc) m (.slice ua k uc) gs wr) (hp : p < w.heap.size) (hf : FewT (z, s, gs)) :
    DrewT base p w (.returned (.agg #[.int .i64 z, .slice ra 2 rc, .slice ua k uc])) (((wr.setCell ⟨w.heap.size, 0, none⟩ (.int .i64 z)).setCell ⟨w.heap.size, 1, none⟩ (.slice ra 2 rc)).setCell ⟨w.heap.size, 2, none⟩ (.slice ua k uc)) := by
  obtain ⟨h1, h2, h3, h4, h5, h6, h7, h8⟩ := h
  have hkk := (((Kept.refl w.heap.size (w.heap.size + 1) wr).setCell (p := ⟨w.heap.size, 0, none⟩) (Nat.le_refl _) (Nat.lt_succ_self _) (.int .i64 z)).setCell (p := ⟨w.heap.size, 1, none⟩) (Nat.le_refl _) (Nat.lt_succ_self _) (.slice ra 2 rc)).setCell (p := ⟨w.heap.size, 2, none⟩) (Nat.le_refl _) (Nat.lt_succ_self _) (.slice ua k uc)
  have hbb := (((Below.refl w.heap.size wr).setCell (p := ⟨w.heap.size, 0, none⟩) (Nat.le_refl _) (.int .i64 z)).setCell (p := ⟨w.heap.size, 1, none⟩) (Nat.le_refl _) (.slice ra 2 rc)).setCell (p := ⟨w.heap.size, 2, none⟩) (Nat.le_refl _) (.slice ua k uc)
  refine ⟨⟨(z, s, gs), _, _, rfl, ?_, hf⟩, h5.belowB hbb hp, h6.andB hbb⟩
  exact ⟨_, _, w.heap.size + 1, m, m + 1, wr.heap.size, rfl, h3.kept hkk (.inr (Nat.le_refl _)), h4.kept hkk (.inr (by omega)), ⟨by omega, h8, by simp [World.setCell]; omega⟩, ⟨by omega, h7, by simp [World.setCell]⟩, .inl (by omega)⟩
theorem pick_sign {v : Value} (hv : v ∈ [Value.int .i64 0, .int .i64 2]) : ∃ x : Int, v = .int .i64 x := by
  simp only [List.mem_cons, List.not_mem_nil, or_false] at hv
  rcases hv with h | h <;> exact ⟨_, h⟩

set_option maxRecDepth 100000 in
set_option maxHeartbeats 3200000 in
theorem d_term (base p : Nat) (w : World) (hc : CurAt base w p) :
    Calls Try.prog 88 #[.pointer (some ⟨p, 0, none⟩)] w (DrewT base p w) := by
  have hp := hc.lt
  have K0 := Lib.hid (Bk.new w #[.int .i64 0, .slice none 0 0, .slice none 0 0] 49)
  have B0 := Lib.hid (below1 w (.cells #[.int .i64 0, .slice none 0 0, .slice none 0 0] 49))
  have Z0 := Lib.hid (show (w.alloc (.cells #[.int .i64 0, .slice none 0 0, .slice none 0 0] 49)).heap.size = w.heap.size + 1 by simp)
  have C0 := Lib.hid (hc.below B0.out)
  clear hc
  go_enter Try.func88, Try.ntmps88
  go_wp2_with fail
  refine (d_once _ p 3 _ C0.out (by omega) (by omega)).mono ?_
  rintro e w1 ⟨⟨b, rfl⟩, hc1, hk1⟩
  have C1 := Lib.hid hc1
  have K1 := Lib.hid (K0.out.kept hk1 (.inr (by omega)))
  have P1 := Lib.hid ((Kept.of_below B0.out).trans hk1 : Kept p (p + 1) w w1)
  have S1 := Lib.hid (show w.heap.size + 1 ≤ w1.heap.size by have := hk1.size; rw [Z0.out] at this; exact this)
  clear hc1 hk1
  go_wp2_with fail
  refine (bit_of' b _).mono ?_
  rintro e w2 ⟨rfl, rfl⟩
  obtain ⟨bi, hbi, b0, b1⟩ : ∃ q : Int, (if b = true then (1 : Int) else 0) = q ∧ 0 ≤ q ∧ q ≤ 1 := ⟨_, rfl, by split <;> omega, by split <;> omega⟩
  rw [hbi]
  have e1 : IntKind.i64.wrap (2 * bi) = 2 * bi := IntWalk.i64_in _ (by omega)
  have e2 : IntKind.i64.wrap (1 - 2 * bi) = 1 - 2 * bi := IntWalk.i64_in _ (by omega)
  clear hbi
  go_wp2_with fail
  refine (d_draw _ p 2 3 (by omega) (by omega) (by omega) _ C1.out).mono ?_
  rintro e w3 ⟨⟨sv, s, rfl, hs, ho⟩, hc3, hk3⟩
  obtain ⟨ra, rc, rfl, _⟩ := ho.shape1
  rw [intVals_len, hs.1] at ho ⊢
  have HS := Lib.hid hs
  have K3 := Lib.hid (K1.out.kept hk3 (.inr (by omega)))
  have P3 := Lib.hid (P1.out.trans hk3)
  have BX := Lib.hid (below1 w3 (.cells #[.int .i64 (1 - 2 * bi), .slice ra 2 rc, .slice none 0 0] 49))
  have I0 := Lib.hid (show TermD base p w (1 - 2 * bi) s (.slice ra 2 rc) w3.heap.size (.slice none 0 0) [] (w3.alloc (.cells #[.int .i64 (1 - 2 * bi), .slice ra 2 rc, .slice none 0 0] 49)) from
    ⟨K3.out.below BX.out, Bk.new w3 _ _, (ho.below BX.out).mono S1.out (Nat.le_refl _), OwR.nil, hc3.below BX.out, P3.out.trans (Kept.of_below BX.out), by simp, by have := S1.out; have := hk3.size; omega⟩)
  clear ho hc3 hk3 hs
  go_wp2_with fail
  refine (draw_below _ p 3 _ I0.out.2.2.2.2.1 (by omega) (by omega)).mono ?_
  rintro e w4 ⟨⟨v, rfl, x, rfl, x0, x1⟩, hc4, hg4⟩
  have I4 := Lib.hid (I0.out.kept hp hc4 (Kept.of_grown hg4))
  obtain ⟨n, rfl, hn⟩ : ∃ n : Nat, x = n ∧ n ≤ 2 := ⟨x.toNat, by omega, by omega⟩
  clear hc4 hg4 x0 x1
  go_wp2_with fail
  go_loopw [5] (fun i wr => ∃ (k : Nat) (u : Value) (gs : List (List Int)), k ≤ n ∧ i = .int .i64 k ∧ TermD base p w (1 - 2 * bi) s (.slice ra 2 rc) w3.heap.size u gs wr ∧ gs.length = k ∧ ∀ (i : Nat) (h : i < gs.length), gs[i].length = 2 ∧ Bd gs[i] 3) (fun i _ => n - (RowKit.intOf i).toNat)
  case atStart => exact ⟨0, _, [], Nat.zero_le _, rfl, I4.out, rfl, fun i h => by simp at h⟩
  case round =>
    obtain ⟨k, u, gs, hk, rfl, hci, hgl, hgb⟩ := hrel
    have HC := Lib.hid hci
    have HGL := Lib.hid hgl
    have HGB := Lib.hid hgb
    clear hci hgb
    obtain ⟨⟨-, -, m2⟩, -, -, mf2⟩ := HC.out.2.1.tri
    by_cases hlt : k < n
    · obtain ⟨ua, uc, rfl, hum, _⟩ := HC.out.2.2.2.1.rw.shape
      rw [hgl] at m2 HC
      have LW := Lib.hid HC.out.2.2.2.2.2.2.1
      have LM := Lib.hid HC.out.2.2.2.2.2.2.2
      have CU := Lib.hid HC.out.2.2.2.2.1
      clear hum
      go_wp2_with fail
      refine T_begin (z := fun k => 5 < k) (S := fun (w' : World) => w'.cell? ⟨w3.heap.size, 2, none⟩ = some (.slice ua k uc)) (by kernel_rfl) ?_
      show wpAnyT _ _ _ _ _ _ 8 _ _ _
      have hS0 := Lib.hid (show (fun (w' : World) => w'.cell? ⟨w3.heap.size, 2, none⟩ = some (.slice ua k uc)) wr.drew from m2)
      refine T_take (i := 0) (v := .pointer (some ⟨w3.heap.size, 2, none⟩)) rfl (by kernel_rfl) (by kernel_rfl) (by kernel_rfl) (by kernel_rfl) (fun _ _ _ h => h) hS0.out (by kernel_rfl) (fun w' hS' => by go_simp) ?_
      refine T_take (i := 1) (v := .slice ua k uc) rfl (by kernel_rfl) (by kernel_rfl) (by kernel_rfl) (by kernel_rfl) (fun _ _ _ h => h) hS0.out (by kernel_rfl) (fun w' hS' => by (try dsimp only at hS'); go_simp) ?_
      refine T_take (i := 2) (v := .pointer (some ⟨p, 0, none⟩)) rfl (by kernel_rfl) (by kernel_rfl) (by kernel_rfl) (by kernel_rfl) (fun _ _ _ h => h) hS0.out (by kernel_rfl) (fun w' hS' => by go_simp) ?_
      refine T_step (i := 3) rfl (by kernel_rfl) rfl (by kernel_rfl) ?_
      intro K hK
      go_simp
      refine (d_draw _ p 2 3 (by omega) (by omega) (by omega) wr.drew (CU.out.below (Below.refl _ _).drew)).mono ?_
      rintro e w5 ⟨⟨x, g, rfl, hg, ho⟩, hc5, hk5⟩
      have hk5 : Kept p (p + 1) wr w5 := (Kept.of_below (lo := p) (hi := p + 1) (Below.refl wr.heap.size wr).drew).trans hk5
      obtain ⟨xa, xc, rfl, _⟩ := ho.shape1
      rw [intVals_len, hg.1] at ho ⊢
      have HG := Lib.hid hg
      have HO := Lib.hid (show OwnV 3 wr.heap.size w5.heap.size w5 _ _ from ho)
      have I5 := Lib.hid (HC.out.kept hp hc5 hk5)
      have HK5 := Lib.hid hk5
      have s1 := I5.out.2.1.tri.1.2.2
      have OR5 := Lib.hid (show OwR 24 3 (w3.heap.size + 1) wr.heap.size w5 (.slice ua k uc) gs from HC.out.2.2.2.1.kept hk5 (.inr (by have := LM.out; omega)))
      clear ho hc5 hk5 m2 hS0 mf2 hg
      refine hK.out _ _ s1 ?_
      clear hK K s1
      refine T_step (i := 4) rfl (by kernel_rfl) rfl (by kernel_rfl) ?_
      intro K hK
      go_simp
      have hb6 := below1 w5 (.cells #[.slice xa 2 xc] 24)
      have HN := Lib.hid (heap_alloc_new w5 (.cells #[.slice xa 2 xc] 24))
      have HO6 := Lib.hid ((HO.out.below hb6).mono (Nat.le_refl _) hb6.size)
      have OR6 := Lib.hid (OR5.out.below hb6)
      have K6a := Lib.hid (I5.out.1.below hb6)
      have K6b := Lib.hid (I5.out.2.1.below hb6)
      have K6c := Lib.hid (I5.out.2.2.1.below hb6)
      have K6d := Lib.hid (I5.out.2.2.2.2.1.below hb6)
      have K6e := Lib.hid (I5.out.2.2.2.2.2.1.then_below hb6)
      have Z6 := Lib.hid (show w3.heap.size + 1 ≤ (w5.alloc (.cells #[.slice xa 2 xc] 24)).heap.size from Nat.le_trans I5.out.2.2.2.2.2.2.1 hb6.size)
      have Z7 := Lib.hid (show wr.heap.size ≤ (w5.alloc (.cells #[.slice xa 2 xc] 24)).heap.size from Nat.le_trans HK5.out.size hb6.size)
      have s2 := K6b.out.tri.1.2.2
      refine hK.out _ _ s2 ?_
      clear hK K s2 hb6
      refine T_step (i := 5) rfl (by kernel_rfl) rfl (by kernel_rfl) ?_
      intro K hK
      refine wp_app_row _ _ (by rfl) (w3.heap.size + 1) wr.heap.size _ _ gs g (by rfl) OR6.out HO6.out w5.heap.size (by rfl) HN.out (by have := HGL.out; omega) LW.out Z7.out ?_
      intro q cap w7 ho hk7
      rw [HGL.out] at ho ⊢
      have hw3 := LM.out
      have P1 := Lib.hid (K6a.out.kept hk7 (.inl (by omega)))
      have P2 := Lib.hid (K6b.out.kept hk7 (.inl (by omega)))
      have P3 := Lib.hid (K6c.out.kept hk7 (.inl (by omega)))
      have P5 := Lib.hid ho
      have hbel : Below (w3.heap.size + 1) (w5.alloc (.cells #[.slice xa 2 xc] 24)) w7 := hk7.below (Nat.le_refl _) Z6.out
      have P6 := Lib.hid (K6d.out.belowB hbel (by omega))
      have P7 := Lib.hid (K6e.out.andB (hbel.mono (by omega)))
      have P8 := Lib.hid (Nat.le_trans Z6.out hk7.size)
      have s3 := P2.out.tri.1.2.2
      clear ho hk7 hbel OR6 HO6 HN
      refine hK.out _ _ s3 ?_
      clear hK K s3
      refine T_anytake (i := 6) (v := .pointer (some ⟨w3.heap.size, 2, none⟩)) rfl (by kernel_rfl) (by kernel_rfl) (by kernel_rfl) rfl (fun _ _ _ h => h) rfl (fun w' => by go_simp) ?_
      obtain ⟨⟨-, -, q0⟩, -, -, q1⟩ := P2.out.tri
      refine T_last (i := 7) rfl (by kernel_rfl) (by kernel_rfl) rfl rfl ?_
      go_simp
      go_wp2_with fail
      have KP := Lib.hid ((Kept.refl w3.heap.size (w3.heap.size + 1) w7).setCell (p := ⟨w3.heap.size, 2, none⟩) (Nat.le_refl _) (Nat.lt_succ_self _) (.slice (some ⟨q, 0, none⟩) (k + 1) cap))
      refine ⟨⟨k + 1, _, gs ++ [g], by omega, by go_num, ⟨P1.out.kept KP.out (.inl (by omega)), P2.out.tri2 _, P3.out.kept KP.out (.inl (Nat.le_refl _)), (P5.out.kept KP.out (.inr (Nat.le_refl _))).mono (Nat.le_refl _) KP.out.size, P6.out.belowB ((Below.refl w3.heap.size w7).setCell (p := ⟨w3.heap.size, 2, none⟩) (Nat.le_refl _) _) (by omega), P7.out.andB ((Below.refl w.heap.size w7).setCell (p := ⟨w3.heap.size, 2, none⟩) (by show w.heap.size ≤ w3.heap.size; omega) _), Nat.le_trans P8.out KP.out.size, hw3⟩, by rw [List.length_append, HGL.out]; rfl, ?_⟩, by simp [RowKit.intOf]; omega⟩
      · intro i hi
        by_cases h : i < gs.length
        · rw [List.getElem_append_left h]; exact HGB.out i h
        · obtain rfl : i = gs.length := by simp at hi; omega
          rw [List.getElem_append_right (Nat.le_refl _)]
          simp only [Nat.sub_self, List.getElem_cons_zero]
          exact HG.out
    · obtain rfl : k = n := by omega
      have CU := Lib.hid HC.out.2.2.2.2.1
      clear m2 mf2 hgl
      go_wp2_with fail
      refine (d_once _ p 14 _ CU.out (by omega) (by omega)).mono ?_
      rintro e w8 ⟨⟨b8, rfl⟩, hc8, hk8⟩
      have I8 := Lib.hid (HC.out.kept hp hc8 hk8)
      clear hc8 hk8
      cases b8
      · skip
        have FEW := Lib.hid (show FewT ((1 - 2 * bi), s, gs) from ⟨HS.out, by have := HGL.out; show gs.length ≤ 2; omega, HGB.out⟩)
        obtain ⟨ua, uc, rfl, _, _⟩ := I8.out.2.2.2.1.rw.shape
        obtain ⟨⟨n0, n1, n2⟩, -⟩ := I8.out.2.1.tri
        obtain ⟨⟨p0, p1, p2⟩, pf0, pf1, pf2⟩ := I8.out.1.tri
        go_wp2_with fail
        refine bodyPost_ret (v := .agg #[.int .i64 (1 - 2 * bi), .slice ra 2 rc, .slice ua gs.length uc]) ?_ rfl (I8.out.ret hp FEW.out)
        simp [results, Try.results88, go_sem, p0, p1, p2]
      · skip
        go_wp2_with fail
        refine (draw_pick_int _ p w8.heap.size [.int .i64 0, .int .i64 2] _ (I8.out.2.2.2.2.1.below ((Below.refl _ _).alloc (Nat.le_refl _) _)) (by decide) (by decide) (Nat.ne_of_gt I8.out.2.2.2.2.1.lt) (heap_alloc_new w8 _)).mono ?_
        rintro e w9 ⟨⟨v, rfl, hv⟩, hc9, hg9⟩
        obtain ⟨z9, rfl⟩ := pick_sign hv
        obtain ⟨ua, uc, rfl, _, _⟩ := I8.out.2.2.2.1.rw.shape
        have b3 := below1 w8 (.cells #[.int .i64 0, .int .i64 2] 3)
        have I9 := Lib.hid ((I8.out.below b3).kept hp hc9 (Kept.of_grown hg9))
        obtain ⟨⟨n0, n1, n2⟩, nf0, nf1, nf2⟩ := I9.out.2.1.tri
        clear hv hc9 hg9 b3
        have I10 := Lib.hid (I9.out.sign (z' := z9) hp)
        have FEW := Lib.hid (show FewT (z9, s, gs) from ⟨HS.out, by have := HGL.out; show gs.length ≤ 2; omega, HGB.out⟩)
        obtain ⟨⟨r0, r1, r2⟩, -⟩ := I10.out.2.1.tri
        obtain ⟨⟨p0, p1, p2⟩, pf0, pf1, pf2⟩ := I10.out.1.tri
        go_wp2_with fail
        refine bodyPost_ret (v := .agg #[.int .i64 z9, .slice ra 2 rc, .slice ua gs.length uc]) ?_ rfl (I10.out.ret hp FEW.out)
        simp [results, Try.results88, go_sem, p0, p1, p2]
end Go.Proofs.Ytjijgagdaolkcaa
/- The draws of FnSeries: a term and a vector; a list of terms and a vector. -/
namespace Go.Proofs.Ytjijgagdaolkcaa
open Go Go.RowKit Go.Lib

/-- A term and a vector were drawn. -/
def DrewTA (w : World) (e : Ending) (w' : World) : Prop := (∃ (t : Tm) (x : List Int) (u g v : Value), e = .returned (.tuple #[.agg #[.int .i64 t.1, u, g], v]) ∧ (FewT t ∧ x.length = 2 ∧ Bd x 21) ∧ ETm w.heap.size w'.heap.size w' [.int .i64 t.1, u, g] t ∧ OwnV 3 w.heap.size w'.heap.size w' v (intVals x)) ∧ Below w.heap.size w w'

theorem ETm.own1 {lo hi : Nat} {w : World} {z u g : Value} {t : Tm} (h : ETm lo hi w [z, u, g] t) : OwnV 3 lo hi w u (intVals t.2.1) := by
  obtain ⟨u, g, a, b, c, d, e, k1, k2, k3, _⟩ := h
  simp only [List.cons.injEq, and_true] at e
  obtain ⟨_, rfl, _⟩ := e
  exact k1.mono k3.1 k3.2.2
theorem ETm.own2 {lo hi : Nat} {w : World} {z u g : Value} {t : Tm} (h : ETm lo hi w [z, u, g] t) : OwR 24 3 lo hi w g t.2.2 := by
  obtain ⟨u, g, a, b, c, d, e, k1, k2, k3, k4, _⟩ := h
  simp only [List.cons.injEq, and_true] at e
  obtain ⟨_, _, rfl⟩ := e
  exact k2.mono k4.1 k4.2.2
theorem bd_add3 {x y : List Int} {t z : Int} (hl : x.length = y.length) (hx : Bd x t) (hy : Bd y 3) (h1 : 0 ≤ z) (h2 : z ≤ 3) : Bd (scaleL y z) 21 ∧ Bd (addL x (scaleL y z)) (t + 9) := by
  have hb : Bd (scaleL y z) 9 := by
    intro k hk
    have hk3 : k < y.length := by simp [scaleL] at hk; omega
    have e : (scaleL y z)[k] = y[k] * z := by simp [scaleL]
    rw [e]
    have := hy k hk3
    rcases (by omega : z = 0 ∨ z = 1 ∨ z = 2 ∨ z = 3) with rfl | rfl | rfl | rfl <;> omega
  refine ⟨fun k hk => by have := hb k hk; omega, ?_⟩
  intro k hk
  have hk2 : k < x.length := by simp [addL, scaleL] at hk; omega
  have hk3 : k < y.length := by omega
  have e : (addL x (scaleL y z))[k] = x[k] + (scaleL y z)[k]'(by simp [scaleL]; omega) := by simp [addL]
  rw [e]
  have := hb k (by simp [scaleL]; omega)
  have := hx k hk2
  omega
theorem ta_ret {w w8 : World} {t : Tm} {x : List Int} {u g v : Value} {lo1 hi1 lo2 hi2 : Nat} (ht : ETm lo1 hi1 w8 [.int .i64 t.1, u, g] t) (hx : OwnV 3 lo2 hi2 w8 v (intVals x)) (h1 : w.heap.size + 1 ≤ lo1) (h2 : hi1 ≤ w8.heap.size) (h3 : w.heap.size + 1 ≤ lo2) (h4 : hi2 ≤ w8.heap.size) (hb : Below w.heap.size w w8) (hf : FewT t ∧ x.length = 2 ∧ Bd x 21) :
    DrewTA w (.returned (.tuple #[.agg #[.int .i64 t.1, u, g], v])) (((w8.setCell ⟨w.heap.size, 0, none⟩ (.int .i64 t.1)).setCell ⟨w.heap.size, 1, none⟩ u).setCell ⟨w.heap.size, 2, none⟩ g) := by
  have hkk := (((Kept.refl w.heap.size (w.heap.size + 1) w8).setCell (p := ⟨w.heap.size, 0, none⟩) (Nat.le_refl _) (Nat.lt_succ_self _) (.int .i64 t.1)).setCell (p := ⟨w.heap.size, 1, none⟩) (Nat.le_refl _) (Nat.lt_succ_self _) u).setCell (p := ⟨w.heap.size, 2, none⟩) (Nat.le_refl _) (Nat.lt_succ_self _) g
  have hs := hkk.size
  exact ⟨⟨t, x, u, g, v, rfl, hf, (ht.kept hkk (.inr h1)).mono (by omega) (by omega), (hx.kept hkk (.inr h3)).mono (by omega) (by omega)⟩, ((hb.setCell (by simp) _).setCell (by simp) _).setCell (by simp) _⟩
theorem ETm.rows3 {lo hi : Nat} {w : World} {z u g : Value} {t : Tm} (h : ETm lo hi w [z, u, g] t) : Rw w g t.2.2 := by
  obtain ⟨u, g, a, b, c, d, e, k1, k2, k3, _⟩ := h
  simp only [List.cons.injEq, and_true] at e
  obtain ⟨_, _, rfl⟩ := e
  exact k2.rw
set_option maxRecDepth 100000 in
set_option maxHeartbeats 1600000 in
theorem d_termat (a : Option Addr) (c : Nat) (zs : List Int) (w0 w : World) (hbw : Below w0.heap.size w0 w) (hc : CodeIn w0 a zs) :
    Calls Try.prog 35 #[.slice a zs.length c] w (DrewTA w) := by
  have HC := Lib.hid hc
  have HB0 := Lib.hid hbw
  have K0 := Lib.hid (Bk.new w #[.int .i64 0, .slice none 0 0, .slice none 0 0] 49)
  have B0 := Lib.hid (below1 w (.cells #[.int .i64 0, .slice none 0 0, .slice none 0 0] 49))
  clear hc hbw
  go_enter Try.func35, Try.ntmps35
  go_wp2_with fail
  refine (draw_new' a c zs w0 _ (HB0.out.trans (B0.out.mono HB0.out.size)) HC.out).mono ?_
  rintro e w1 ⟨⟨p, rfl, hp, hcur⟩, hb1⟩
  have KA1 := Lib.hid (K0.out.below hb1)
  have HB1 := Lib.hid (B0.out.trans (hb1.mono B0.out.size))
  obtain ⟨base, HU1⟩ : ∃ q, Hid (CurAt q w1 p) := ⟨_, Lib.hid hcur⟩
  have HP := Lib.hid (show w.heap.size + 1 ≤ p by simpa using hp)
  have PL := Lib.hid (show p < w1.heap.size from hcur.lt)
  clear hb1 hcur hp
  go_wp2_with fail
  refine (d_term _ p _ HU1.out).mono ?_
  rintro e w2 ⟨⟨t, u, g, rfl, ho, hf⟩, hc2, hk2⟩
  have FEW := Lib.hid hf
  have KA2 := Lib.hid (KA1.out.kept hk2 (.inl HP.out))
  have HB2 := Lib.hid (HB1.out.trans (hk2.below (B := w.heap.size) (by have := HP.out; omega) HB1.out.size))
  have W1L := Lib.hid (show w.heap.size + 1 ≤ w1.heap.size from KA1.out.lt)
  have PL2 := Lib.hid (Nat.lt_of_lt_of_le PL.out hk2.size)
  have S12 := Lib.hid hk2.size
  obtain ⟨ua, uc, ga, gc, rfl, rfl⟩ := ho.shape
  rw [hf.1.1] at ho ⊢
  have KB := Lib.hid (Bk.new w2 #[.int .i64 t.1, .slice ua 2 uc, .slice ga t.2.2.length gc] 49)
  have B2 := below1 w2 (.cells #[.int .i64 t.1, .slice ua 2 uc, .slice ga t.2.2.length gc] 49)
  have KA3 := Lib.hid (KA2.out.below B2)
  have HC3 := Lib.hid (show CurAt base (w2.alloc (.cells #[.int .i64 t.1, .slice ua 2 uc, .slice ga t.2.2.length gc] 49)) p from hc2.below B2)
  have OT3 := Lib.hid (ho.below B2)
  have HB3 := Lib.hid (HB2.out.trans (B2.mono HB2.out.size))
  clear ho hc2 hk2 B2 hf
  have OU := Lib.hid (OT3.out.own1)
  have HVS := Lib.hid (show (w2.alloc (.cells #[.int .i64 t.1, .slice ua 2 uc, .slice ga t.2.2.length gc] 49)).heap.size = w2.heap.size + 1 by simp)
  have HEM := Lib.hid (show ((w2.alloc (.cells #[.int .i64 t.1, .slice ua 2 uc, .slice ga t.2.2.length gc] 49)).alloc (.cells #[] 3)).ownsRow (w2.heap.size + 1) 3 1 (.slice (some ⟨w2.heap.size + 1, 0, none⟩) 0 0) 0 (intVals []) by
    have h := owns_none (e := 3) (w := w2.alloc (.cells #[.int .i64 t.1, .slice ua 2 uc, .slice ga t.2.2.length gc] 49)) (Nat.le_of_eq HVS.out.symm)
    rw [HVS.out] at h; exact h)
  have OU2 := Lib.hid (OU.out.below (below1 _ (.cells #[] 3)))
  obtain ⟨hc0, hc1, hc2⟩ := KB.out.tri.1
  go_wp2_with (at_builtin; refine list_app_ints rfl _ _ rfl (w2.heap.size + 1) _ 0 [] t.2.1 (.slice ua 2 uc) _ _ rfl HEM.out rfl OU2.out (by rw [FEW.out.1.1]; decide) (by simp) ?_; intro v' w5 hown5 hbel5; have HO5 := Lib.hid hown5; have HB5 := Lib.hid hbel5; clear hown5 hbel5)
  have X5 := Lib.hid (show OwnV 3 (w2.heap.size + 1) w5.heap.size w5 v' (intVals t.2.1) by have h := OwnV.of_owns HO5.out; rwa [List.nil_append] at h)
  have b5 : Below w2.heap.size w2 w5 := ((below1 w2 (.cells #[.int .i64 t.1, .slice ua 2 uc, .slice ga t.2.2.length gc] 49)).trans (below1 _ (.cells #[] 3) |>.mono (by simp))).trans (HB5.out.mono (by simp))
  have b5' : Below (w2.alloc (.cells #[.int .i64 t.1, .slice ua 2 uc, .slice ga t.2.2.length gc] 49)).heap.size (w2.alloc (.cells #[.int .i64 t.1, .slice ua 2 uc, .slice ga t.2.2.length gc] 49)) w5 := (below1 _ (.cells #[] 3)).trans (HB5.out.mono (by simp))
  have KA5 := Lib.hid (KA3.out.below b5')
  have KB5 := Lib.hid (KB.out.below b5')
  have OT5 := Lib.hid (OT3.out.below b5')
  have HC5 := Lib.hid (HC3.out.below b5')
  have HB6 := Lib.hid (HB3.out.trans (b5'.mono HB3.out.size))
  clear HO5 HB5 b5 b5' hc0 hc1 hc2 KB OT3 HC3 HB3 KA3
  go_loopw [6, 7] (fun o i wr => ∃ (k : Nat) (x : List Int), k ≤ t.2.2.length ∧ i = .int .i64 k ∧ (x.length = 2 ∧ Bd x (3 + 9 * k)) ∧ OwnV 3 (w2.heap.size + 1) wr.heap.size wr o (intVals x) ∧ Bk wr w.heap.size #[.int .i64 0, .slice none 0 0, .slice none 0 0] 49 ∧ Bk wr w2.heap.size #[.int .i64 t.1, .slice ua 2 uc, .slice ga t.2.2.length gc] 49 ∧ ETm w1.heap.size w2.heap.size wr [.int .i64 t.1, .slice ua 2 uc, .slice ga t.2.2.length gc] t ∧ CurAt base wr p ∧ Below w.heap.size w wr) (fun _ i _ => t.2.2.length - (RowKit.intOf i).toNat)
  case atStart => exact ⟨0, t.2.1, Nat.zero_le _, rfl, FEW.out.1, X5.out, KA5.out, KB5.out, OT5.out, HC5.out, HB6.out⟩
  case round =>
    obtain ⟨k, x, hk, rfl, hx, hox, hka, hkb, hot, hcu, hbr⟩ := hrel
    have HX := Lib.hid hx
    have OX := Lib.hid hox
    have KAr := Lib.hid hka
    have KBr := Lib.hid hkb
    have OTr := Lib.hid hot
    have CUr := Lib.hid hcu
    have HBr := Lib.hid hbr
    obtain ⟨xa, xc, rfl, _⟩ := hox.shape1
    rw [intVals_len, hx.1] at OX ⊢
    have hcell := hkb.tri.1.2.2
    have LN := Lib.hid FEW.out.2.1
    clear hx hox hka hkb hot hcu hbr
    by_cases hlt : k < t.2.2.length
    · obtain ⟨gb, r, el, hg1, hg2, hg3, hcr, -, hor, -, -⟩ := OTr.out.own2.at k hlt rfl
      subst el
      obtain ⟨ra, rc, rfl, _⟩ := hor.shape1
      have HR := Lib.hid (FEW.out.2.2 k hlt)
      rw [intVals_len, HR.out.1] at hor hcr
      have OR := Lib.hid hor
      have GB := Lib.hid (And.intro hg1 hg2)
      have HXB := Lib.hid (bd_add3 (z := 0) (t := 3 + 9 * (k : Int)) (x := x) (y := t.2.2[k]) (by rw [HX.out.1, HR.out.1]) HX.out.2 HR.out.2 (by omega) (by omega))
      have hk3 : k ≤ 1 := by have := LN.out; omega
      clear hor hg1 hg2 hg3
      go_wp2_with fail
      refine T_begin (z := fun k => 9 < k) (S := fun (w' : World) => w'.cell? ⟨w2.heap.size, 2, none⟩ = some (.slice (some ⟨gb, 0, none⟩) t.2.2.length gc) ∧ w'.cell? ⟨gb, k, none⟩ = some (.slice ra 2 rc)) (by kernel_rfl) ?_
      show wpAnyT _ _ _ _ _ _ 11 _ _ _
      have hS0 := Lib.hid (show (fun (w' : World) => w'.cell? ⟨w2.heap.size, 2, none⟩ = some (.slice (some ⟨gb, 0, none⟩) t.2.2.length gc) ∧ w'.cell? ⟨gb, k, none⟩ = some (.slice ra 2 rc)) wr.drew from ⟨hcell, hcr⟩)
      refine T_take (i := 0) (v := .slice xa 2 xc) rfl (by kernel_rfl) (by kernel_rfl) (by kernel_rfl) (by kernel_rfl) (fun _ _ _ h => h) hS0.out (by kernel_rfl) (fun w' hS' => by (try dsimp only at hS'); obtain ⟨h1, h2⟩ := hS'; go_simp) ?_
      refine T_take (i := 1) (v := .pointer (some ⟨w2.heap.size, 2, none⟩)) rfl (by kernel_rfl) (by kernel_rfl) (by kernel_rfl) (by kernel_rfl) (fun _ _ _ h => h) hS0.out (by kernel_rfl) (fun w' hS' => by (try dsimp only at hS'); obtain ⟨h1, h2⟩ := hS'; go_simp) ?_
      refine T_take (i := 2) (v := .slice (some ⟨gb, 0, none⟩) t.2.2.length gc) rfl (by kernel_rfl) (by kernel_rfl) (by kernel_rfl) (by kernel_rfl) (fun _ _ _ h => h) hS0.out (by kernel_rfl) (fun w' hS' => by (try dsimp only at hS'); obtain ⟨h1, h2⟩ := hS'; go_simp) ?_
      refine T_take (i := 3) (v := .int .i64 k) rfl (by kernel_rfl) (by kernel_rfl) (by kernel_rfl) (by kernel_rfl) (fun _ _ _ h => h) hS0.out (by kernel_rfl) (fun w' hS' => by (try dsimp only at hS'); obtain ⟨h1, h2⟩ := hS'; go_simp) ?_
      refine T_take (i := 4) (v := .pointer (some ⟨gb, k, none⟩)) rfl (by kernel_rfl) (by kernel_rfl) (by kernel_rfl) (by kernel_rfl) (fun _ _ _ h => h) hS0.out (by kernel_rfl) (fun w' hS' => by (try dsimp only at hS'); obtain ⟨h1, h2⟩ := hS'; go_simp; try omega) ?_
      refine T_take (i := 5) (v := .slice ra 2 rc) rfl (by kernel_rfl) (by kernel_rfl) (by kernel_rfl) (by kernel_rfl) (fun _ _ _ h => h) hS0.out (by kernel_rfl) (fun w' hS' => by (try dsimp only at hS'); obtain ⟨h1, h2⟩ := hS'; go_simp) ?_
      refine T_take (i := 6) (v := .pointer (some ⟨p, 0, none⟩)) rfl (by kernel_rfl) (by kernel_rfl) (by kernel_rfl) (by kernel_rfl) (fun _ _ _ h => h) hS0.out (by kernel_rfl) (fun w' hS' => by (try dsimp only at hS'); obtain ⟨h1, h2⟩ := hS'; go_simp) ?_
      refine T_step (i := 7) rfl (by kernel_rfl) rfl (by kernel_rfl) ?_
      intro K hK
      go_simp
      refine (draw_below base p 4 wr.drew (CUr.out.below (Below.refl _ _).drew) (by omega) (by omega)).mono ?_
      rintro e w6 ⟨⟨v, rfl, z, rfl, z0, z1⟩, hc6, hg6⟩
      have hk6 : Kept p (p + 1) wr w6 := (Kept.of_below (lo := p) (hi := p + 1) (Below.refl wr.heap.size wr).drew).trans (Kept.of_grown hg6)
      have CU6 := Lib.hid hc6
      have WS := Lib.hid (And.intro PL2.out KBr.out.lt)
      have KA6 := Lib.hid (KAr.out.kept hk6 (.inl HP.out))
      have KB6 := Lib.hid (KBr.out.kept hk6 (.inr (by have := PL2.out; omega)))
      have OT6 := Lib.hid (OTr.out.kept hk6 (.inr PL.out))
      have OX6 := Lib.hid (OX.out.kept hk6 (.inr (by have := PL2.out; omega)))
      have OR6 := Lib.hid (OR.out.kept hk6 (.inr PL.out))
      have HB6' := Lib.hid (HBr.out.trans (hk6.below (B := w.heap.size) (by have := HP.out; omega) HBr.out.size))
      have s1 := And.intro KB6.out.tri.1.2.2 ((hk6.cellAt (p := ⟨gb, k, none⟩) (by have := GB.out; have := WS.out; show gb < _; omega) (.inr (by have := GB.out; have := PL.out; show p + 1 ≤ gb; omega))).trans hcr)
      have S6 := Lib.hid hk6.size
      have HXB := Lib.hid (bd_add3 (z := z) (t := 3 + 9 * (k : Int)) (x := x) (y := t.2.2[k]) (by rw [HX.out.1, HR.out.1]) HX.out.2 HR.out.2 z0 (by omega))
      have ZB := Lib.hid (And.intro z0 z1)
      refine hK.out _ _ s1 ?_
      clear hK K hc6 hg6 hk6
      refine T_step (i := 8) rfl (by kernel_rfl) rfl (by kernel_rfl) ?_
      intro K hK
      go_simp
      refine (s_scale t.2.2[k] (by have := HR.out.1; omega) 3 3 z HR.out.2 (by have := ZB.out; omega) (by have := ZB.out; omega) (by omega) _ w6 OR6.out.sl).mono ?_
      rintro e w7 ⟨⟨yv, rfl, hy⟩, hb7⟩
      obtain ⟨ya, yc, rfl, _⟩ := hy.shape1
      have LY : (scaleL t.2.2[k] z).length = 2 := by simp [scaleL]; exact HR.out.1
      rw [intVals_len, LY] at hy ⊢
      have s2 := And.intro ((hb7.cell (p := ⟨w2.heap.size, 2, none⟩) KB6.out.lt).trans s1.1) ((hb7.cell (p := ⟨gb, k, none⟩) (by have := GB.out; have := WS.out; have := S6.out; show gb < _; omega)).trans s1.2)
      have OY7 := Lib.hid hy
      have HB7 := Lib.hid hb7
      have OX7 := Lib.hid (OX6.out.below hb7)
      refine hK.out _ _ s2 ?_
      clear hK K hy hb7 s1
      refine T_step (i := 9) rfl (by kernel_rfl) rfl (by kernel_rfl) ?_
      intro K hK
      go_simp
      refine (s_add x (scaleL t.2.2[k] z) (by rw [HX.out.1, LY]) (by rw [HX.out.1]; omega) 21 (by omega) (fun q hq => by have := HX.out.2 q hq; omega) HXB.out.1 _ _ w7 OX7.out.sl OY7.out.sl).mono ?_
      rintro e w8 ⟨⟨nv, rfl, hn⟩, hb8⟩
      have s3 := And.intro ((hb8.cell (p := ⟨w2.heap.size, 2, none⟩) (Nat.lt_of_lt_of_le KB6.out.lt HB7.out.size)).trans s2.1) ((hb8.cell (p := ⟨gb, k, none⟩) (by have := GB.out; have := WS.out; have := S6.out; have := HB7.out.size; show gb < _; omega)).trans s2.2)
      have HB8 := Lib.hid (HB7.out.trans (hb8.mono HB7.out.size))
      have ON := Lib.hid (hn.mono (lo' := w2.heap.size + 1) (hi' := w8.heap.size) (by have := WS.out.2; have := S6.out; have := HB7.out.size; omega) (Nat.le_refl _))
      have LN2 := Lib.hid (show (addL x (scaleL t.2.2[k] z)).length = 2 by simp [addL, LY, HX.out.1])
      refine hK.out _ _ s3 ?_
      clear hK K hn hb8 s2
      refine T_last (i := 10) rfl (by kernel_rfl) (by kernel_rfl) rfl rfl ?_
      go_simp
      go_wp2_with fail
      exact ⟨⟨k + 1, addL x (scaleL t.2.2[k] z), by omega, by go_num, ⟨LN2.out, by have h := HXB.out.2; rwa [show (3 : Int) + 9 * ((k + 1 : Nat) : Int) = 3 + 9 * (k : Int) + 9 by omega]⟩, ON.out, KA6.out.below HB8.out, KB6.out.below HB8.out, OT6.out.below HB8.out, CU6.out.below HB8.out, HB6'.out.trans (HB8.out.mono HB6'.out.size)⟩, by simp [RowKit.intOf]; omega⟩
    · obtain rfl : k = t.2.2.length := by omega
      go_wp2_with fail
      refine (d_once _ p 3 _ CUr.out (by omega) (by omega)).mono ?_
      rintro e w8 ⟨⟨b8, rfl⟩, hc8, hk8⟩
      have CU8 := Lib.hid hc8
      have WS := Lib.hid (And.intro PL2.out KBr.out.lt)
      have KA8 := Lib.hid (KAr.out.kept hk8 (.inl HP.out))
      have KB8 := Lib.hid (KBr.out.kept hk8 (.inr (by have := PL2.out; omega)))
      have OT8 := Lib.hid (OTr.out.kept hk8 (.inr PL.out))
      have OX8 := Lib.hid (OX.out.kept hk8 (.inr (by have := PL2.out; omega)))
      have HB8 := Lib.hid (HBr.out.trans (hk8.below (B := w.heap.size) (by have := HP.out; omega) HBr.out.size))
      have hk8s := Lib.hid hk8.size
      clear hc8 hk8
      cases b8
      · skip
        obtain ⟨⟨c0, c1, c2⟩, f0, f1, f2⟩ := KA8.out.tri
        obtain ⟨⟨b0, b1, b2⟩, -⟩ := KB8.out.tri
        have FIN := Lib.hid (ta_ret OT8.out OX8.out W1L.out (by have := KB8.out.lt; omega) (by have := WS.out; have := S12.out; have := W1L.out; omega) (by have := hk8s.out; omega) HB8.out ⟨FEW.out, HX.out.1, fun q hq => by have := HX.out.2 q hq; have := LN.out; omega⟩)
        go_wp2_with fail
        refine bodyPost_ret (v := .tuple #[.agg #[.int .i64 t.1, .slice ua 2 uc, .slice ga t.2.2.length gc], .slice xa 2 xc]) ?_ rfl FIN.out
        simp [results, Try.results35, go_sem, c0, c1, c2]
      · skip
        go_wp2_with fail
        refine T_begin (z := fun k => 3 < k) (S := fun (w' : World) => Bk w' w2.heap.size #[.int .i64 t.1, .slice ua 2 uc, .slice ga t.2.2.length gc] 49) (by kernel_rfl) ?_
        show wpAnyT _ _ _ _ _ _ 5 _ _ _
        have hS0 := Lib.hid (show (fun (w' : World) => Bk w' w2.heap.size #[.int .i64 t.1, .slice ua 2 uc, .slice ga t.2.2.length gc] 49) w8.drew from KB8.out)
        refine T_take (i := 0) (v := .agg #[.int .i64 t.1, .slice ua 2 uc, .slice ga t.2.2.length gc]) rfl (by kernel_rfl) (by kernel_rfl) (by kernel_rfl) (by kernel_rfl) (fun _ _ _ h => h) hS0.out (by kernel_rfl) (fun w' hS' => by obtain ⟨⟨h0, h1, h2⟩, -⟩ := (show Bk _ _ _ _ from hS').tri; go_simp) ?_
        refine T_take (i := 1) (v := .pointer (some ⟨p, 0, none⟩)) rfl (by kernel_rfl) (by kernel_rfl) (by kernel_rfl) (by kernel_rfl) (fun _ _ _ h => h) hS0.out (by kernel_rfl) (fun w' hS' => by go_simp) ?_
        refine T_step (i := 2) rfl (by kernel_rfl) rfl (by kernel_rfl) ?_
        intro K hK
        go_simp
        refine (d_draw _ p 2 6 (by omega) (by omega) (by omega) _ (CU8.out.below (Below.refl _ _).drew)).mono ?_
        rintro e' w9 ⟨⟨y, zs, rfl, hz, hy⟩, hc9, hk9⟩
        have hk9 : Kept p (p + 1) w8 w9 := (Kept.of_below (lo := p) (hi := p + 1) (Below.refl w8.heap.size w8).drew).trans hk9
        have hy : OwnV 3 w8.heap.size w9.heap.size w9 y (intVals zs) := hy
        obtain ⟨ya, yc, rfl, _⟩ := hy.shape1
        rw [intVals_len, hz.1] at hy ⊢
        have KA9 := Lib.hid (KA8.out.kept hk9 (.inl HP.out))
        have KB9 := Lib.hid (KB8.out.kept hk9 (.inr (by have := PL2.out; omega)))
        have OT9 := Lib.hid (OT8.out.kept hk9 (.inr PL.out))
        have HB9 := Lib.hid (HB8.out.trans (hk9.below (B := w.heap.size) (by have := HP.out; omega) HB8.out.size))
        have FIN := Lib.hid (ta_ret OT9.out hy W1L.out (by have := KB9.out.lt; omega) KA8.out.lt (Nat.le_refl _) HB9.out ⟨FEW.out, hz.1, fun q hq => by have := hz.2 q hq; omega⟩)
        refine hK.out _ _ KB9.out ?_
        clear hK K hc9 hk9 hy hz
        obtain ⟨⟨c0, c1, c2⟩, f0, f1, f2⟩ := KA9.out.tri
        refine T_step (i := 3) rfl (by kernel_rfl) rfl (by kernel_rfl) ?_
        intro K hK
        go_simp
        have KB7 := Lib.hid (((KB9.out.other (p := ⟨w.heap.size, 0, none⟩) (by have := KA9.out.lt; have := WS.out; have := S12.out; have := W1L.out; simp; omega) (.int .i64 t.1)).other (p := ⟨w.heap.size, 1, none⟩) (by have := WS.out; have := S12.out; have := W1L.out; simp; omega) (.slice ua 2 uc)).other (p := ⟨w.heap.size, 2, none⟩) (by have := WS.out; have := S12.out; have := W1L.out; simp; omega) (.slice ga t.2.2.length gc))
        refine hK.out _ _ KB7.out ?_
        clear hK K
        refine T_last (i := 4) rfl (by kernel_rfl) (by kernel_rfl) rfl (by kernel_rfl) ?_
        go_simp
        clear hS0
        go_wp2
        refine bodyPost_ret (v := .tuple #[.agg #[.int .i64 t.1, .slice ua 2 uc, .slice ga t.2.2.length gc], .slice ya 2 yc]) ?_ rfl FIN.out
        simp [results, Try.results35, go_sem, c0, c1, c2]
end Go.Proofs.Ytjijgagdaolkcaa
/- The draw of a list of terms and a vector. -/
namespace Go.Proofs.Ytjijgagdaolkcaa
open Go Go.RowKit Go.Lib

theorem series_len (c : Cn) (s : List Int) : (seriesR c s).1.length ≤ 60 := by
  by_cases h : (seriesR c s).2 = true
  · obtain ⟨x, y, r, _, _, _, _, _, h2, e⟩ := series_list h
    rw [e, List.length_append]
    simp only [pairsT, onesT, List.length_map, List.length_range]
    omega
  · unfold seriesR at h ⊢
    split
    · rename_i k; rw [if_pos k] at h; exact absurd rfl h
    · exact Nat.zero_le _
/-- A list of terms and a vector were drawn. -/
def DrewSA (w : World) (e : Ending) (w' : World) : Prop := (∃ (ts : List Tm) (x : List Int) (u v : Value), e = .returned (.tuple #[u, v]) ∧ (ts.length ≤ 61 ∧ x.length = 2 ∧ Bd x 8) ∧ OwT w.heap.size w'.heap.size w' u ts ∧ OwnV 3 w.heap.size w'.heap.size w' v (intVals x)) ∧ Below w.heap.size w w'

set_option maxRecDepth 100000 in
set_option maxHeartbeats 1600000 in
theorem d_seriesat (a : Option Addr) (c : Nat) (zs : List Int) (w0 w : World) (hbw : Below w0.heap.size w0 w) (hc : CodeIn w0 a zs) :
    Calls Try.prog 36 #[.slice a zs.length c] w (DrewSA w) := by
  have HC := Lib.hid hc
  have HB0 := Lib.hid hbw
  clear hc hbw
  go_enter Try.func36, Try.ntmps36
  go_wp2_with fail
  refine (draw_new' a c zs w0 _ HB0.out HC.out).mono ?_
  rintro e w1 ⟨⟨p, rfl, hp, hcur⟩, hb1⟩
  have HB1 := Lib.hid hb1
  obtain ⟨base, HU1⟩ : ∃ q, Hid (CurAt q w1 p) := ⟨_, Lib.hid hcur⟩
  have HP := Lib.hid (show w.heap.size ≤ p by simpa using hp)
  have PL := Lib.hid (show p < w1.heap.size from hcur.lt)
  clear hb1 hcur hp
  go_wp2_with fail
  refine (d_cone _ p _ HU1.out).mono ?_
  rintro e w2 ⟨⟨k, u, t, rfl, ho⟩, hc2, hk2⟩
  obtain ⟨ua, uc, ta, tc, rfl, rfl⟩ := ho.shape
  have CU2 := Lib.hid hc2
  have OC2 := Lib.hid ho
  have HB2 := Lib.hid (HB1.out.trans (hk2.below (B := w.heap.size) HP.out HB1.out.size))
  have S2 := Lib.hid hk2.size
  clear ho hc2 hk2
  go_wp2_with fail
  refine (d_draw _ p 2 3 (by omega) (by omega) (by omega) _ CU2.out).mono ?_
  rintro e w3 ⟨⟨sv, s, rfl, hs, hy⟩, hc3, hk3⟩
  obtain ⟨sa, sc, rfl, _⟩ := hy.shape1
  rw [intVals_len, hs.1] at hy ⊢
  have CU3 := Lib.hid hc3
  have OC3 := Lib.hid (OC2.out.kept hk3 (.inr PL.out))
  have OS3 := Lib.hid hy
  have HB3 := Lib.hid (HB2.out.trans (hk3.below (B := w.heap.size) HP.out HB2.out.size))
  have S3 := Lib.hid (Nat.le_trans S2.out hk3.size)
  clear hy hc3 hk3 hs
  go_wp2_with fail
  refine (s_series k s _ _ w3 OC3.out.cv OS3.out.sl).mono ?_
  rintro e w4 ⟨⟨tv, rfl, hts⟩, hb4⟩
  have LE := Lib.hid (series_len k s)
  obtain ⟨ts, ok, hq⟩ : ∃ ts ok, seriesR k s = (ts, ok) := ⟨_, _, rfl⟩
  rw [hq] at hts LE ⊢
  dsimp only at hts LE ⊢
  have CU4 := Lib.hid (CU3.out.below hb4)
  have HB4 := Lib.hid (HB3.out.trans (hb4.mono HB3.out.size))
  have OT4 := Lib.hid (hts.mono (lo' := w1.heap.size) (hi' := w4.heap.size) S3.out (Nat.le_refl _))
  obtain ⟨la, lc, rfl, _, _⟩ := hts.shape
  have S4 := Lib.hid (Nat.le_trans S3.out hb4.size)
  clear hts hb4 hq
  go_wp2_with fail
  refine (d_once _ p 4 _ CU4.out (by omega) (by omega)).mono ?_
  rintro e w5 ⟨⟨b, rfl⟩, hc5, hk5⟩
  have CU5 := Lib.hid hc5
  have HB5 := Lib.hid (HB4.out.trans (hk5.below (B := w.heap.size) HP.out HB4.out.size))
  have OT5 := Lib.hid ((OwL.kept keepsT OT4.out hk5 (.inr PL.out)).mono (Nat.le_refl _) hk5.size)
  have S5 := Lib.hid (Nat.le_trans S4.out hk5.size)
  clear hc5 hk5
  cases b
  · go_wp2_with fail
    refine (d_draw _ p 2 8 (by omega) (by omega) (by omega) _ CU5.out).mono ?_
    rintro e' w9 ⟨⟨y9, ys9, rfl, hz, hy⟩, hc9, hk9⟩
    obtain ⟨y9a, y9c, rfl, _⟩ := hy.shape1
    rw [intVals_len, hz.1] at hy ⊢
    have FIN := Lib.hid (show DrewSA w (.returned (.tuple #[.slice la ts.length lc, .slice y9a 2 y9c])) w9 from ⟨⟨ts, ys9, _, _, rfl, ⟨by have := LE.out; omega, hz⟩, (OwL.kept keepsT OT5.out hk9 (.inr (by have := PL.out; omega))).mono (by have := HB1.out.size; omega) hk9.size, hy.mono (by have := HB5.out.size; omega) (Nat.le_refl _)⟩, HB5.out.trans (hk9.below (B := w.heap.size) HP.out HB5.out.size)⟩)
    clear hc9 hk9 hy hz
    go_wp2_with fail
    refine bodyPost_ret (v := .tuple #[.slice la ts.length lc, .slice y9a 2 y9c]) ?_ rfl FIN.out
    simp [results, Try.results36, go_sem]
  · go_wp2_with fail
    refine (d_term _ p _ CU5.out).mono ?_
    rintro e w6 ⟨⟨z, gu, gg, rfl, hz, hf⟩, hc6, hk6⟩
    obtain ⟨za, zc, ga, gc, rfl, rfl⟩ := hz.shape
    have hba := below1 w6 (.cells #[.int .i64 z.1, .slice za z.2.1.length zc, .slice ga z.2.2.length gc] 49)
    have CU6 := Lib.hid (hc6.below hba)
    have HB6 := Lib.hid ((HB5.out.trans (hk6.below (B := w.heap.size) HP.out HB5.out.size)).trans (hba.mono (Nat.le_trans HB5.out.size hk6.size)))
    have OT6 := Lib.hid (OwL.below keepsT (OwL.kept keepsT OT5.out hk6 (.inr PL.out)) hba)
    have OZ6 := Lib.hid ((hz.below hba).mono (lo' := w5.heap.size) (hi' := (w6.alloc (.cells #[.int .i64 z.1, .slice za z.2.1.length zc, .slice ga z.2.2.length gc] 49)).heap.size) (Nat.le_refl _) hba.size)
    have HN := Lib.hid (heap_alloc_new w6 (.cells #[.int .i64 z.1, .slice za z.2.1.length zc, .slice ga z.2.2.length gc] 49))
    have S6 := Lib.hid (Nat.le_trans hk6.size hba.size)
    clear hc6 hk6 hz hf hba
    go_wp2_with (at_builtin; refine list_app_term rfl _ _ rfl w1.heap.size w5.heap.size _ ts z _ _ _ rfl OT6.out OZ6.out w6.heap.size rfl HN.out (by have := LE.out; omega) S5.out S6.out ?_; intro g7 cap7 w7 ho7 hk7; have HO7 := Lib.hid ho7; have HK7 := Lib.hid hk7; clear ho7 hk7)
    have hk7 := HK7.out
    have CU7 := Lib.hid (CU6.out.belowB (hk7.below (Nat.le_refl _) (Nat.le_trans S5.out S6.out)) PL.out)
    have HB7 := Lib.hid (HB6.out.trans (hk7.below (B := w.heap.size) (by have := HB1.out.size; omega) HB6.out.size))
    have HL7 := Lib.hid (show (ts ++ [z]).length ≤ 61 by have := LE.out; simp; omega)
    refine (d_draw _ p 2 8 (by omega) (by omega) (by omega) _ CU7.out).mono ?_
    rintro e' w9 ⟨⟨y9, ys9, rfl, hz, hy⟩, hc9, hk9⟩
    obtain ⟨y9a, y9c, rfl, _⟩ := hy.shape1
    rw [intVals_len, hz.1] at hy ⊢
    have FIN := Lib.hid (show DrewSA w (.returned (.tuple #[.slice (some ⟨g7, 0, none⟩) (ts.length + 1) cap7, .slice y9a 2 y9c])) w9 from ⟨⟨ts ++ [z], ys9, _, _, rfl, ⟨HL7.out, hz⟩, (OwL.kept keepsT HO7.out hk9 (.inr (by have := PL.out; omega))).mono (by have := HB1.out.size; omega) hk9.size, hy.mono (by have := HB7.out.size; omega) (Nat.le_refl _)⟩, HB7.out.trans (hk9.below (B := w.heap.size) HP.out HB7.out.size)⟩)
    clear hc9 hk9 hy hz
    go_wp2_with fail
    refine bodyPost_ret (v := .tuple #[.slice (some ⟨g7, 0, none⟩) (ts.length + 1) cap7, .slice y9a 2 y9c]) ?_ rfl FIN.out
    simp [results, Try.results36, go_sem]
end Go.Proofs.Ytjijgagdaolkcaa
