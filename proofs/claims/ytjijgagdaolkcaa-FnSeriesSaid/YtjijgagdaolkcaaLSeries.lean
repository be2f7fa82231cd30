/- FnSeries holds for every input. Conditions: none. -/
import Derived.Test.YtjijgagdaolkcaaMbh
import Derived.Test.YtjijgagdaolkcaaTmQ
import Derived.Test.YtjijgagdaolkcaaMay
import Derived.Test.YtjijgagdaolkcaaMbe
import Derived.Test.YtjijgagdaolkcaaMbf
import Derived.Test.YtjijgagdaolkcaaCode
import Derived.Test.YtjijgagdaolkcaaLaw
import Derived.Test.YtjijgagdaolkcaaRows
namespace Go.Proofs.Ytjijgagdaolkcaa.fnSeries
open Go.ChangeShapes Go.WideShapes Go.ChangeAt Go.RowKit Go.Lib
open Go.ChangeMaps (open_string shut_string)
theorem isV_small {a b : Int} (ha : -100 ≤ a ∧ a ≤ 100) (hb : -100 ≤ b ∧ b ≤ 100) : isV (rowOf (a, b)) = true := by
  unfold isV rowOf small inR
  simp
  omega
theorem bd_row6 {a b : Int} (ha : -6 ≤ a ∧ a ≤ 6) (hb : -6 ≤ b ∧ b ≤ 6) : Bd (rowOf (a, b)) 6 := by
  intro k hk
  have hk2 : k < 2 := hk
  rcases (by omega : k = 0 ∨ k = 1) with rfl | rfl
  · exact ha
  · exact hb
theorem ser_at {c : Cn} {s : List Int} (h : (seriesR c s).2 = true) (hb : Bd s 5) {i k : Int} (hi : -6 ≤ i ∧ i ≤ 6) (hk : -6 ≤ k ∧ k ≤ 6) : seriesAtR (seriesR c s).1 (addL s (rowOf (i, k))) = if inconeR c (rowOf (i, k)) = true then 1 else 0 := by
  have hs := (seriesR_t h).2.1
  obtain ⟨-, hl, he, -⟩ := planeR_t hs
  obtain ⟨p, hp⟩ : ∃ p, ptOf s = p := ⟨_, rfl⟩
  rw [hp] at he
  have h0 := hb 0 (by omega)
  have h1 := hb 1 (by omega)
  subst he
  obtain ⟨a, b⟩ := p
  have e0 : -5 ≤ a ∧ a ≤ 5 := h0
  have e1 : -5 ≤ b ∧ b ≤ 5 := h1
  have ea : addL (rowOf (a, b)) (rowOf (i, k)) = rowOf (a + i, b + k) := rfl
  rw [ea]
  refine series_sum h ?_ ?_ (isV_small (by omega) (by omega))
  · unfold planeR
    rw [isV_small (by omega) (by omega)]; rfl
  · show ((a + i - a, b + k - b) : P2) = (i, k)
    rw [show a + i - a = i by omega, show b + k - b = k by omega]
theorem series_no {c : Cn} {s : List Int} (h : (seriesR c s).2 = false) : (seriesR c s).1 = [] := by
  unfold seriesR at h ⊢
  split
  · rename_i k; rw [if_pos k] at h; cases h
  · rfl
set_option maxRecDepth 100000 in
set_option maxHeartbeats 400000 in
theorem walk_big (a : Option Addr) (n c : Nat) (hl : 1048576 < n) (w : World) :
    Calls Try.prog 4 #[.slice a n c] w fun e w' => e = .returned (.bool true) ∧ Below w.heap.size w w' := by
  have hd : decide ((1048576 : Int) < n) = true := by simp; omega
  go_enter Try.func4, Try.ntmps4
  go_wp2_with fail
  refine (big_any a n c _).mono ?_
  rintro e w1 ⟨rfl, rfl⟩
  rw [hd]
  go_wp2_with fail
  go_ret
  exact ⟨rfl, Below.refl _ _⟩
set_option linter.unusedVariables false in
set_option maxRecDepth 100000 in
set_option maxHeartbeats 12800000 in
theorem walk_small (a : Option Addr) (c : Nat) (zs : List Int) (w : World) (hc : CodeIn w a zs) :
    Calls Try.prog 4 #[.slice a zs.length c] w fun e w' => e = .returned (.bool true) ∧ Below w.heap.size w w' := by
  have hd : decide ((1048576 : Int) < zs.length) = false := by have := hc.1; simp; omega
  have HC := Lib.hid hc
  have HD := Lib.hid hd
  clear hc hd
  have B0 := Lib.hid (Below.refl w.heap.size w)
  go_enter Try.func4, Try.ntmps4
  go_wp2_with fail
  refine (big_any a zs.length c _).mono ?_
  rintro e w1 ⟨rfl, rfl⟩
  rw [HD.out]
  go_wp2_with fail
  refine (d_seriesofc a c zs w _ B0.out HC.out).mono ?_
  rintro e w1 ⟨⟨k, s, _, _, _, rfl, hsb, hoc, hs⟩, hb1⟩
  have HSB := Lib.hid hsb
  clear hsb
  obtain ⟨ua, uc, ta, tc, rfl, rfl⟩ := hoc.shape
  obtain ⟨sa, sc, rfl, _⟩ := hs.shape1
  rw [intVals_len] at hs ⊢
  have B1 := Lib.hid (B0.out.trans (hb1.mono B0.out.size))
  have S1 := Lib.hid hb1.size
  have C_1 := Lib.hid hoc.cv
  have S_1 := Lib.hid hs.sl
  clear hb1 hoc hs
  have CS1 := Lib.hid (fun v b W (h : Cv W v k) (h2 : Sl W b (intVals s)) => i_series k s v b W h h2)
  have CS2 := Lib.hid (fun v b W (h : Cv W v k) (h2 : Sl W b (intVals s)) => s_series k s v b W h h2)
  obtain ⟨RS, eRS⟩ : ∃ q, seriesR k s = q := ⟨_, rfl⟩
  rw [eRS] at CS1 CS2
  have ERS := Lib.hid eRS
  clear eRS
  have LEN := Lib.hid (series_len k s)
  rw [ERS.out] at LEN
  obtain ⟨L, ok⟩ := RS
  have hb2 := below1 w1 (.cells #[.slice ua k.1.length uc, .slice ta k.2.length tc] 26)
  have B2 := Lib.hid (B1.out.trans (hb2.mono B1.out.size))
  have S2 := Lib.hid (alloc_lt w1 (.cells #[.slice ua k.1.length uc, .slice ta k.2.length tc] 26))
  have C_2 := Lib.hid (C_1.out.below hb2)
  have S_2 := Lib.hid (S_1.out.below hb2)
  have P3_2 := Lib.hid (Bk.new w1 #[.slice ua k.1.length uc, .slice ta k.2.length tc] 26)
  clear hb2 C_1 S_1
  obtain ⟨⟨lP30, lP31⟩, -⟩ := P3_2.out.two
  go_wp2_with fail
  refine (CS1.out _ _ _ C_2.out S_2.out).mono ?_
  rintro e w3 ⟨⟨_, rfl, hl⟩, hb3⟩
  dsimp only at hl ⊢
  obtain ⟨lpa, lpc, rfl, _, _⟩ := hl.shape
  clear lP30 lP31
  have B3 := Lib.hid (B2.out.trans (hb3.mono B2.out.size))
  have S3 := Lib.hid hb3.size
  have C_3 := Lib.hid (C_2.out.below hb3)
  have S_3 := Lib.hid (S_2.out.below hb3)
  have P3_3 := Lib.hid (P3_2.out.below hb3)
  have L1_3 := Lib.hid hl.tms
  clear hb3 C_2 S_2 P3_2 hl
  obtain ⟨⟨lP30, lP31⟩, -⟩ := P3_3.out.two
  go_wp2_with fail
  refine (CS2.out _ _ _ C_3.out S_3.out).mono ?_
  rintro e w4 ⟨⟨_, rfl, hl⟩, hb4⟩
  dsimp only at hl ⊢
  obtain ⟨lqa, lqc, rfl, _, _⟩ := hl.shape
  clear lP30 lP31
  have B4 := Lib.hid (B3.out.trans (hb4.mono B3.out.size))
  have S4 := Lib.hid hb4.size
  have C_4 := Lib.hid (C_3.out.below hb4)
  have S_4 := Lib.hid (S_3.out.below hb4)
  have P3_4 := Lib.hid (P3_3.out.below hb4)
  have L1_4 := Lib.hid (L1_3.out.below hb4)
  have L2_4 := Lib.hid hl.tms
  clear hb4 C_3 S_3 P3_3 L1_3 hl
  go_wp2_with fail
  refine (d_termat a c zs w _ B4.out HC.out).mono ?_
  rintro e w5 ⟨⟨t, x, u, g, v, rfl, -, ho, hx⟩, hb5⟩
  obtain ⟨fa, fc, ga, gc, rfl, rfl⟩ := ho.shape
  obtain ⟨xa, xc, rfl, _⟩ := hx.shape1
  rw [intVals_len] at hx ⊢
  have B5 := Lib.hid (B4.out.trans (hb5.mono B4.out.size))
  have S5 := Lib.hid hb5.size
  have C_5 := Lib.hid (C_4.out.below hb5)
  have S_5 := Lib.hid (S_4.out.below hb5)
  have P3_5 := Lib.hid (P3_4.out.below hb5)
  have L1_5 := Lib.hid (L1_4.out.below hb5)
  have L2_5 := Lib.hid (L2_4.out.below hb5)
  have T_5 := Lib.hid ho.tv
  have X_5 := Lib.hid hx.sl
  clear hb5 C_4 S_4 P3_4 L1_4 L2_4 ho hx
  have hb6 := below1 w5 (.cells #[.int .i64 t.1, .slice fa t.2.1.length fc, .slice ga t.2.2.length gc] 49)
  have B6 := Lib.hid (B5.out.trans (hb6.mono B5.out.size))
  have S6 := Lib.hid (alloc_lt w5 (.cells #[.int .i64 t.1, .slice fa t.2.1.length fc, .slice ga t.2.2.length gc] 49))
  have C_6 := Lib.hid (C_5.out.below hb6)
  have S_6 := Lib.hid (S_5.out.below hb6)
  have P3_6 := Lib.hid (P3_5.out.below hb6)
  have L1_6 := Lib.hid (L1_5.out.below hb6)
  have L2_6 := Lib.hid (L2_5.out.below hb6)
  have T_6 := Lib.hid (T_5.out.below hb6)
  have X_6 := Lib.hid (X_5.out.below hb6)
  have P6_6 := Lib.hid (Bk.new w5 #[.int .i64 t.1, .slice fa t.2.1.length fc, .slice ga t.2.2.length gc] 49)
  clear hb6 C_5 S_5 P3_5 L1_5 L2_5 T_5 X_5
  go_wp2_with fail
  refine (d_seriesat a c zs w _ B6.out HC.out).mono ?_
  rintro e w7 ⟨⟨ts, y, u, v, rfl, hlen, ho, hy⟩, hb7⟩
  have HLEN := Lib.hid hlen.1
  clear hlen
  obtain ⟨ma, mc, rfl, _, _⟩ := ho.shape
  obtain ⟨ya, yc, rfl, _⟩ := hy.shape1
  rw [intVals_len] at hy ⊢
  have B7 := Lib.hid (B6.out.trans (hb7.mono B6.out.size))
  have S7 := Lib.hid hb7.size
  have C_7 := Lib.hid (C_6.out.below hb7)
  have S_7 := Lib.hid (S_6.out.below hb7)
  have P3_7 := Lib.hid (P3_6.out.below hb7)
  have L1_7 := Lib.hid (L1_6.out.below hb7)
  have L2_7 := Lib.hid (L2_6.out.below hb7)
  have T_7 := Lib.hid (T_6.out.below hb7)
  have X_7 := Lib.hid (X_6.out.below hb7)
  have P6_7 := Lib.hid (P6_6.out.below hb7)
  have A_7 := Lib.hid ho.tms
  have Y_7 := Lib.hid hy.sl
  clear hb7 C_6 S_6 P3_6 L1_6 L2_6 T_6 X_6 P6_6 ho hy
  have CT1 := Lib.hid (fun v b W (h : Tv W v t) (h2 : Sl W b (intVals x)) => i_termat t x v b W h h2)
  have CT2 := Lib.hid (fun v b W (h : Tv W v t) (h2 : Sl W b (intVals x)) => s_termat t x v b W h h2)
  obtain ⟨qt, eqt⟩ : ∃ q, termAtR t x = q := ⟨_, rfl⟩
  rw [eqt] at CT1 CT2
  have Eqt := Lib.hid eqt
  clear eqt
  have CA1 := Lib.hid (fun v b W (h : Tms W v ts) (h2 : Sl W b (intVals y)) => i_seriesat ts y v b W h h2)
  have CA2 := Lib.hid (fun v b W (h : Tms W v ts) (h2 : Sl W b (intVals y)) => s_seriesat ts y v b W h h2)
  obtain ⟨qs, eqs⟩ : ∃ q, seriesAtR ts y = q := ⟨_, rfl⟩
  rw [eqs] at CA1 CA2
  have Eqs := Lib.hid eqs
  clear eqs
  have CI1 := Lib.hid (fun v W (h : Tv W v t) => i_term t v W h)
  have CI2 := Lib.hid (fun v W (h : Tv W v t) => s_term t v W h)
  obtain ⟨qi, eqi⟩ : ∃ q, termR t = q := ⟨_, rfl⟩
  rw [eqi] at CI1 CI2
  have Eqi := Lib.hid eqi
  clear eqi
  have CN1 := Lib.hid (fun v W (h : Tms W v ts) => i_count ts v W h (by have := HLEN.out; omega))
  have CN2 := Lib.hid (fun v W (h : Tms W v ts) => s_count ts v W h (by have := HLEN.out; omega))
  obtain ⟨qn, eqn⟩ : ∃ q, countR ts = q := ⟨_, rfl⟩
  rw [eqn] at CN1 CN2
  have Eqn := Lib.hid eqn
  clear eqn
  go_wp2_with fail
  obtain ⟨V, hV⟩ : ∃ V, w7 = V := ⟨_, rfl⟩
  rw [hV] at C_7 S_7 P3_7 L1_7 L2_7 T_7 X_7 P6_7 A_7 Y_7 B7 ⊢
  have BV := Lib.hid B7.out
  refine T_begin (z := fun k => 40 < k) (S := fun (w' : World) => Bk w' (w1.heap.size) #[.slice ua k.1.length uc, .slice ta k.2.length tc] 26 ∧ Bk w' (w5.heap.size) #[.int .i64 t.1, .slice fa t.2.1.length fc, .slice ga t.2.2.length gc] 49 ∧ Below V.heap.size V w') (by kernel_rfl) ?_
  show wpAnyT _ _ _ _ _ _ 41 _ _ _
  have hS0 := Lib.hid (show (fun (w' : World) => Bk w' (w1.heap.size) #[.slice ua k.1.length uc, .slice ta k.2.length tc] 26 ∧ Bk w' (w5.heap.size) #[.int .i64 t.1, .slice fa t.2.1.length fc, .slice ga t.2.2.length gc] 49 ∧ Below V.heap.size V w') (V.drew) from ⟨P3_7.out, P6_7.out, (Below.refl _ _).drew⟩)
  refine T_take (i := 0) (v := .bool ok) rfl (by kernel_rfl) (by kernel_rfl) (by kernel_rfl) (by kernel_rfl) (fun _ _ _ h => h) hS0.out (by kernel_rfl) (fun w' hS' => by obtain ⟨⟨h0, h1⟩, -⟩ := hS'.1.two; obtain ⟨⟨h2, h3, h4⟩, -⟩ := hS'.2.1.tri; go_simp) ?_
  refine T_take (i := 1) (v := .bool ok) rfl (by kernel_rfl) (by kernel_rfl) (by kernel_rfl) (by kernel_rfl) (fun _ _ _ h => h) hS0.out (by kernel_rfl) (fun w' hS' => by obtain ⟨⟨h0, h1⟩, -⟩ := hS'.1.two; obtain ⟨⟨h2, h3, h4⟩, -⟩ := hS'.2.1.tri; go_simp) ?_
  refine T_take (i := 2) (v := .bool false) rfl (by kernel_rfl) (by kernel_rfl) (by kernel_rfl) (by kernel_rfl) (fun _ _ _ h => h) hS0.out (by kernel_rfl) (fun w' hS' => by obtain ⟨⟨h0, h1⟩, -⟩ := hS'.1.two; obtain ⟨⟨h2, h3, h4⟩, -⟩ := hS'.2.1.tri; go_simp) ?_
  refine T_take (i := 3) (v := .bool false) rfl (by kernel_rfl) (by kernel_rfl) (by kernel_rfl) (by kernel_rfl) (fun _ _ _ h => h) hS0.out (by kernel_rfl) (fun w' hS' => by obtain ⟨⟨h0, h1⟩, -⟩ := hS'.1.two; obtain ⟨⟨h2, h3, h4⟩, -⟩ := hS'.2.1.tri; go_simp) ?_
  refine T_take (i := 4) (v := .slice lpa L.length lpc) rfl (by kernel_rfl) (by kernel_rfl) (by kernel_rfl) (by kernel_rfl) (fun _ _ _ h => h) hS0.out (by kernel_rfl) (fun w' hS' => by obtain ⟨⟨h0, h1⟩, -⟩ := hS'.1.two; obtain ⟨⟨h2, h3, h4⟩, -⟩ := hS'.2.1.tri; go_simp) ?_
  refine T_take (i := 5) (v := .slice lqa L.length lqc) rfl (by kernel_rfl) (by kernel_rfl) (by kernel_rfl) (by kernel_rfl) (fun _ _ _ h => h) hS0.out (by kernel_rfl) (fun w' hS' => by obtain ⟨⟨h0, h1⟩, -⟩ := hS'.1.two; obtain ⟨⟨h2, h3, h4⟩, -⟩ := hS'.2.1.tri; go_simp) ?_
  refine T_step (i := 6) rfl (by kernel_rfl) rfl (by kernel_rfl) ?_
  intro K hK
  go_simp
  refine (same_terms L _ _ _ (L1_7.out.below hS0.out.2.2) (L2_7.out.below hS0.out.2.2)).mono ?_
  rintro e' wT1 ⟨rfl, hb1⟩
  have hS1 := Lib.hid (show (fun (w' : World) => Bk w' (w1.heap.size) #[.slice ua k.1.length uc, .slice ta k.2.length tc] 26 ∧ Bk w' (w5.heap.size) #[.int .i64 t.1, .slice fa t.2.1.length fc, .slice ga t.2.2.length gc] 49 ∧ Below V.heap.size V w') wT1 from ⟨hS0.out.1.below hb1, hS0.out.2.1.below hb1, hS0.out.2.2.trans (hb1.mono hS0.out.2.2.size)⟩)
  refine hK.out _ _ hS1.out ?_
  clear hK K
  refine T_take (i := 7) (v := .bool false) rfl (by kernel_rfl) (by kernel_rfl) (by kernel_rfl) (by kernel_rfl) (fun _ _ _ h => h) hS1.out (by kernel_rfl) (fun w' hS' => by obtain ⟨⟨h0, h1⟩, -⟩ := hS'.1.two; obtain ⟨⟨h2, h3, h4⟩, -⟩ := hS'.2.1.tri; go_simp) ?_
  refine T_take (i := 8) (v := .bool false) rfl (by kernel_rfl) (by kernel_rfl) (by kernel_rfl) (by kernel_rfl) (fun _ _ _ h => h) hS1.out (by kernel_rfl) (fun w' hS' => by obtain ⟨⟨h0, h1⟩, -⟩ := hS'.1.two; obtain ⟨⟨h2, h3, h4⟩, -⟩ := hS'.2.1.tri; go_simp) ?_
  refine T_take (i := 9) (v := .bool false) rfl (by kernel_rfl) (by kernel_rfl) (by kernel_rfl) (by kernel_rfl) (fun _ _ _ h => h) hS1.out (by kernel_rfl) (fun w' hS' => by obtain ⟨⟨h0, h1⟩, -⟩ := hS'.1.two; obtain ⟨⟨h2, h3, h4⟩, -⟩ := hS'.2.1.tri; go_simp) ?_
  refine T_take (i := 10) (v := .agg #[.int .i64 t.1, .slice fa t.2.1.length fc, .slice ga t.2.2.length gc]) rfl (by kernel_rfl) (by kernel_rfl) (by kernel_rfl) (by kernel_rfl) (fun _ _ _ h => h) hS1.out (by kernel_rfl) (fun w' hS' => by obtain ⟨⟨h0, h1⟩, -⟩ := hS'.1.two; obtain ⟨⟨h2, h3, h4⟩, -⟩ := hS'.2.1.tri; go_simp) ?_
  refine T_take (i := 11) (v := .slice xa x.length xc) rfl (by kernel_rfl) (by kernel_rfl) (by kernel_rfl) (by kernel_rfl) (fun _ _ _ h => h) hS1.out (by kernel_rfl) (fun w' hS' => by obtain ⟨⟨h0, h1⟩, -⟩ := hS'.1.two; obtain ⟨⟨h2, h3, h4⟩, -⟩ := hS'.2.1.tri; go_simp) ?_
  refine T_take (i := 13) (v := .agg #[.int .i64 t.1, .slice fa t.2.1.length fc, .slice ga t.2.2.length gc]) rfl (by kernel_rfl) (by kernel_rfl) (by kernel_rfl) (by kernel_rfl) (fun _ _ _ h => h) hS1.out (by kernel_rfl) (fun w' hS' => by obtain ⟨⟨h0, h1⟩, -⟩ := hS'.1.two; obtain ⟨⟨h2, h3, h4⟩, -⟩ := hS'.2.1.tri; go_simp) ?_
  refine T_take (i := 14) (v := .slice xa x.length xc) rfl (by kernel_rfl) (by kernel_rfl) (by kernel_rfl) (by kernel_rfl) (fun _ _ _ h => h) hS1.out (by kernel_rfl) (fun w' hS' => by obtain ⟨⟨h0, h1⟩, -⟩ := hS'.1.two; obtain ⟨⟨h2, h3, h4⟩, -⟩ := hS'.2.1.tri; go_simp) ?_
  refine T_step (i := 12) rfl (by kernel_rfl) rfl (by kernel_rfl) ?_
  intro K hK
  go_simp
  refine (CT1.out _ _ _ (T_7.out.below hS1.out.2.2) (X_7.out.below hS1.out.2.2)).mono ?_
  rintro e' wT2 ⟨rfl, hb2⟩
  have hS2 := Lib.hid (show (fun (w' : World) => Bk w' (w1.heap.size) #[.slice ua k.1.length uc, .slice ta k.2.length tc] 26 ∧ Bk w' (w5.heap.size) #[.int .i64 t.1, .slice fa t.2.1.length fc, .slice ga t.2.2.length gc] 49 ∧ Below V.heap.size V w') wT2 from ⟨hS1.out.1.below hb2, hS1.out.2.1.below hb2, hS1.out.2.2.trans (hb2.mono hS1.out.2.2.size)⟩)
  refine hK.out _ _ hS2.out ?_
  clear hK K
  refine T_step (i := 15) rfl (by kernel_rfl) rfl (by kernel_rfl) ?_
  intro K hK
  go_simp
  refine (CT2.out _ _ _ (T_7.out.below hS2.out.2.2) (X_7.out.below hS2.out.2.2)).mono ?_
  rintro e' wT3 ⟨rfl, hb3⟩
  have hS3 := Lib.hid (show (fun (w' : World) => Bk w' (w1.heap.size) #[.slice ua k.1.length uc, .slice ta k.2.length tc] 26 ∧ Bk w' (w5.heap.size) #[.int .i64 t.1, .slice fa t.2.1.length fc, .slice ga t.2.2.length gc] 49 ∧ Below V.heap.size V w') wT3 from ⟨hS2.out.1.below hb3, hS2.out.2.1.below hb3, hS2.out.2.2.trans (hb3.mono hS2.out.2.2.size)⟩)
  refine hK.out _ _ hS3.out ?_
  clear hK K
  refine T_take (i := 16) (v := .bool false) rfl (by kernel_rfl) (by kernel_rfl) (by kernel_rfl) (by kernel_rfl) (fun _ _ _ h => h) hS3.out (by kernel_rfl) (fun w' hS' => by obtain ⟨⟨h0, h1⟩, -⟩ := hS'.1.two; obtain ⟨⟨h2, h3, h4⟩, -⟩ := hS'.2.1.tri; go_simp) ?_
  refine T_take (i := 17) (v := .bool false) rfl (by kernel_rfl) (by kernel_rfl) (by kernel_rfl) (by kernel_rfl) (fun _ _ _ h => h) hS3.out (by kernel_rfl) (fun w' hS' => by obtain ⟨⟨h0, h1⟩, -⟩ := hS'.1.two; obtain ⟨⟨h2, h3, h4⟩, -⟩ := hS'.2.1.tri; go_simp) ?_
  refine T_take (i := 18) (v := .bool false) rfl (by kernel_rfl) (by kernel_rfl) (by kernel_rfl) (by kernel_rfl) (fun _ _ _ h => h) hS3.out (by kernel_rfl) (fun w' hS' => by obtain ⟨⟨h0, h1⟩, -⟩ := hS'.1.two; obtain ⟨⟨h2, h3, h4⟩, -⟩ := hS'.2.1.tri; go_simp) ?_
  refine T_take (i := 19) (v := .slice ma ts.length mc) rfl (by kernel_rfl) (by kernel_rfl) (by kernel_rfl) (by kernel_rfl) (fun _ _ _ h => h) hS3.out (by kernel_rfl) (fun w' hS' => by obtain ⟨⟨h0, h1⟩, -⟩ := hS'.1.two; obtain ⟨⟨h2, h3, h4⟩, -⟩ := hS'.2.1.tri; go_simp) ?_
  refine T_take (i := 20) (v := .slice ya y.length yc) rfl (by kernel_rfl) (by kernel_rfl) (by kernel_rfl) (by kernel_rfl) (fun _ _ _ h => h) hS3.out (by kernel_rfl) (fun w' hS' => by obtain ⟨⟨h0, h1⟩, -⟩ := hS'.1.two; obtain ⟨⟨h2, h3, h4⟩, -⟩ := hS'.2.1.tri; go_simp) ?_
  refine T_take (i := 22) (v := .slice ma ts.length mc) rfl (by kernel_rfl) (by kernel_rfl) (by kernel_rfl) (by kernel_rfl) (fun _ _ _ h => h) hS3.out (by kernel_rfl) (fun w' hS' => by obtain ⟨⟨h0, h1⟩, -⟩ := hS'.1.two; obtain ⟨⟨h2, h3, h4⟩, -⟩ := hS'.2.1.tri; go_simp) ?_
  refine T_take (i := 23) (v := .slice ya y.length yc) rfl (by kernel_rfl) (by kernel_rfl) (by kernel_rfl) (by kernel_rfl) (fun _ _ _ h => h) hS3.out (by kernel_rfl) (fun w' hS' => by obtain ⟨⟨h0, h1⟩, -⟩ := hS'.1.two; obtain ⟨⟨h2, h3, h4⟩, -⟩ := hS'.2.1.tri; go_simp) ?_
  refine T_step (i := 21) rfl (by kernel_rfl) rfl (by kernel_rfl) ?_
  intro K hK
  go_simp
  refine (CA1.out _ _ _ (A_7.out.below hS3.out.2.2) (Y_7.out.below hS3.out.2.2)).mono ?_
  rintro e' wT4 ⟨rfl, hb4⟩
  have hS4 := Lib.hid (show (fun (w' : World) => Bk w' (w1.heap.size) #[.slice ua k.1.length uc, .slice ta k.2.length tc] 26 ∧ Bk w' (w5.heap.size) #[.int .i64 t.1, .slice fa t.2.1.length fc, .slice ga t.2.2.length gc] 49 ∧ Below V.heap.size V w') wT4 from ⟨hS3.out.1.below hb4, hS3.out.2.1.below hb4, hS3.out.2.2.trans (hb4.mono hS3.out.2.2.size)⟩)
  refine hK.out _ _ hS4.out ?_
  clear hK K
  refine T_step (i := 24) rfl (by kernel_rfl) rfl (by kernel_rfl) ?_
  intro K hK
  go_simp
  refine (CA2.out _ _ _ (A_7.out.below hS4.out.2.2) (Y_7.out.below hS4.out.2.2)).mono ?_
  rintro e' wT5 ⟨rfl, hb5⟩
  have hS5 := Lib.hid (show (fun (w' : World) => Bk w' (w1.heap.size) #[.slice ua k.1.length uc, .slice ta k.2.length tc] 26 ∧ Bk w' (w5.heap.size) #[.int .i64 t.1, .slice fa t.2.1.length fc, .slice ga t.2.2.length gc] 49 ∧ Below V.heap.size V w') wT5 from ⟨hS4.out.1.below hb5, hS4.out.2.1.below hb5, hS4.out.2.2.trans (hb5.mono hS4.out.2.2.size)⟩)
  refine hK.out _ _ hS5.out ?_
  clear hK K
  refine T_take (i := 25) (v := .bool false) rfl (by kernel_rfl) (by kernel_rfl) (by kernel_rfl) (by kernel_rfl) (fun _ _ _ h => h) hS5.out (by kernel_rfl) (fun w' hS' => by obtain ⟨⟨h0, h1⟩, -⟩ := hS'.1.two; obtain ⟨⟨h2, h3, h4⟩, -⟩ := hS'.2.1.tri; go_simp) ?_
  refine T_take (i := 26) (v := .bool false) rfl (by kernel_rfl) (by kernel_rfl) (by kernel_rfl) (by kernel_rfl) (fun _ _ _ h => h) hS5.out (by kernel_rfl) (fun w' hS' => by obtain ⟨⟨h0, h1⟩, -⟩ := hS'.1.two; obtain ⟨⟨h2, h3, h4⟩, -⟩ := hS'.2.1.tri; go_simp) ?_
  refine T_take (i := 27) (v := .bool false) rfl (by kernel_rfl) (by kernel_rfl) (by kernel_rfl) (by kernel_rfl) (fun _ _ _ h => h) hS5.out (by kernel_rfl) (fun w' hS' => by obtain ⟨⟨h0, h1⟩, -⟩ := hS'.1.two; obtain ⟨⟨h2, h3, h4⟩, -⟩ := hS'.2.1.tri; go_simp) ?_
  refine T_take (i := 28) (v := .agg #[.int .i64 t.1, .slice fa t.2.1.length fc, .slice ga t.2.2.length gc]) rfl (by kernel_rfl) (by kernel_rfl) (by kernel_rfl) (by kernel_rfl) (fun _ _ _ h => h) hS5.out (by kernel_rfl) (fun w' hS' => by obtain ⟨⟨h0, h1⟩, -⟩ := hS'.1.two; obtain ⟨⟨h2, h3, h4⟩, -⟩ := hS'.2.1.tri; go_simp) ?_
  refine T_take (i := 30) (v := .agg #[.int .i64 t.1, .slice fa t.2.1.length fc, .slice ga t.2.2.length gc]) rfl (by kernel_rfl) (by kernel_rfl) (by kernel_rfl) (by kernel_rfl) (fun _ _ _ h => h) hS5.out (by kernel_rfl) (fun w' hS' => by obtain ⟨⟨h0, h1⟩, -⟩ := hS'.1.two; obtain ⟨⟨h2, h3, h4⟩, -⟩ := hS'.2.1.tri; go_simp) ?_
  refine T_step (i := 29) rfl (by kernel_rfl) rfl (by kernel_rfl) ?_
  intro K hK
  go_simp
  refine (CI1.out _ _ (T_7.out.below hS5.out.2.2)).mono ?_
  rintro e' wT6 ⟨rfl, hb6⟩
  have hS6 := Lib.hid (show (fun (w' : World) => Bk w' (w1.heap.size) #[.slice ua k.1.length uc, .slice ta k.2.length tc] 26 ∧ Bk w' (w5.heap.size) #[.int .i64 t.1, .slice fa t.2.1.length fc, .slice ga t.2.2.length gc] 49 ∧ Below V.heap.size V w') wT6 from ⟨hS5.out.1.below hb6, hS5.out.2.1.below hb6, hS5.out.2.2.trans (hb6.mono hS5.out.2.2.size)⟩)
  refine hK.out _ _ hS6.out ?_
  clear hK K
  refine T_step (i := 31) rfl (by kernel_rfl) rfl (by kernel_rfl) ?_
  intro K hK
  go_simp
  refine (CI2.out _ _ (T_7.out.below hS6.out.2.2)).mono ?_
  rintro e' wT7 ⟨rfl, hb7⟩
  have hS7 := Lib.hid (show (fun (w' : World) => Bk w' (w1.heap.size) #[.slice ua k.1.length uc, .slice ta k.2.length tc] 26 ∧ Bk w' (w5.heap.size) #[.int .i64 t.1, .slice fa t.2.1.length fc, .slice ga t.2.2.length gc] 49 ∧ Below V.heap.size V w') wT7 from ⟨hS6.out.1.below hb7, hS6.out.2.1.below hb7, hS6.out.2.2.trans (hb7.mono hS6.out.2.2.size)⟩)
  refine hK.out _ _ hS7.out ?_
  clear hK K
  refine T_take (i := 32) (v := .bool false) rfl (by kernel_rfl) (by kernel_rfl) (by kernel_rfl) (by kernel_rfl) (fun _ _ _ h => h) hS7.out (by kernel_rfl) (fun w' hS' => by obtain ⟨⟨h0, h1⟩, -⟩ := hS'.1.two; obtain ⟨⟨h2, h3, h4⟩, -⟩ := hS'.2.1.tri; go_simp) ?_
  refine T_take (i := 33) (v := .bool false) rfl (by kernel_rfl) (by kernel_rfl) (by kernel_rfl) (by kernel_rfl) (fun _ _ _ h => h) hS7.out (by kernel_rfl) (fun w' hS' => by obtain ⟨⟨h0, h1⟩, -⟩ := hS'.1.two; obtain ⟨⟨h2, h3, h4⟩, -⟩ := hS'.2.1.tri; go_simp) ?_
  refine T_take (i := 34) (v := .bool false) rfl (by kernel_rfl) (by kernel_rfl) (by kernel_rfl) (by kernel_rfl) (fun _ _ _ h => h) hS7.out (by kernel_rfl) (fun w' hS' => by obtain ⟨⟨h0, h1⟩, -⟩ := hS'.1.two; obtain ⟨⟨h2, h3, h4⟩, -⟩ := hS'.2.1.tri; go_simp) ?_
  refine T_take (i := 35) (v := .slice ma ts.length mc) rfl (by kernel_rfl) (by kernel_rfl) (by kernel_rfl) (by kernel_rfl) (fun _ _ _ h => h) hS7.out (by kernel_rfl) (fun w' hS' => by obtain ⟨⟨h0, h1⟩, -⟩ := hS'.1.two; obtain ⟨⟨h2, h3, h4⟩, -⟩ := hS'.2.1.tri; go_simp) ?_
  refine T_take (i := 37) (v := .slice ma ts.length mc) rfl (by kernel_rfl) (by kernel_rfl) (by kernel_rfl) (by kernel_rfl) (fun _ _ _ h => h) hS7.out (by kernel_rfl) (fun w' hS' => by obtain ⟨⟨h0, h1⟩, -⟩ := hS'.1.two; obtain ⟨⟨h2, h3, h4⟩, -⟩ := hS'.2.1.tri; go_simp) ?_
  refine T_step (i := 36) rfl (by kernel_rfl) rfl (by kernel_rfl) ?_
  intro K hK
  go_simp
  refine (CN1.out _ _ (A_7.out.below hS7.out.2.2)).mono ?_
  rintro e' wT8 ⟨rfl, hb8⟩
  have hS8 := Lib.hid (show (fun (w' : World) => Bk w' (w1.heap.size) #[.slice ua k.1.length uc, .slice ta k.2.length tc] 26 ∧ Bk w' (w5.heap.size) #[.int .i64 t.1, .slice fa t.2.1.length fc, .slice ga t.2.2.length gc] 49 ∧ Below V.heap.size V w') wT8 from ⟨hS7.out.1.below hb8, hS7.out.2.1.below hb8, hS7.out.2.2.trans (hb8.mono hS7.out.2.2.size)⟩)
  refine hK.out _ _ hS8.out ?_
  clear hK K
  refine T_step (i := 38) rfl (by kernel_rfl) rfl (by kernel_rfl) ?_
  intro K hK
  go_simp
  refine (CN2.out _ _ (A_7.out.below hS8.out.2.2)).mono ?_
  rintro e' wT9 ⟨rfl, hb9⟩
  have hS9 := Lib.hid (show (fun (w' : World) => Bk w' (w1.heap.size) #[.slice ua k.1.length uc, .slice ta k.2.length tc] 26 ∧ Bk w' (w5.heap.size) #[.int .i64 t.1, .slice fa t.2.1.length fc, .slice ga t.2.2.length gc] 49 ∧ Below V.heap.size V w') wT9 from ⟨hS8.out.1.below hb9, hS8.out.2.1.below hb9, hS8.out.2.2.trans (hb9.mono hS8.out.2.2.size)⟩)
  refine hK.out _ _ hS9.out ?_
  clear hK K
  refine T_take (i := 39) (v := .bool false) rfl (by kernel_rfl) (by kernel_rfl) (by kernel_rfl) (by kernel_rfl) (fun _ _ _ h => h) hS9.out (by kernel_rfl) (fun w' hS' => by obtain ⟨⟨h0, h1⟩, -⟩ := hS'.1.two; obtain ⟨⟨h2, h3, h4⟩, -⟩ := hS'.2.1.tri; go_simp) ?_
  refine T_take (i := 40) (v := .bool false) rfl (by kernel_rfl) (by kernel_rfl) (by kernel_rfl) (by kernel_rfl) (fun _ _ _ h => h) hS9.out (by kernel_rfl) (fun w' hS' => by obtain ⟨⟨h0, h1⟩, -⟩ := hS'.1.two; obtain ⟨⟨h2, h3, h4⟩, -⟩ := hS'.2.1.tri; go_simp) ?_
  refine ⟨by kernel_rfl, ?_⟩
  have PB := Lib.hid hS9.out.1
  have BW := Lib.hid hS9.out.2.2
  clear hS0 hS1 hS2 hS3 hS4 hS5 hS6 hS7 hS8 hS9
  cases ok with
  | false =>
    have r0 : L = [] := by have h := series_no (c := k) (s := s) (by rw [ERS.out]); rwa [ERS.out] at h
    subst r0
    go_wp2_with fail
    go_ret
    exact ⟨rfl, BV.out.trans (BW.out.mono BV.out.size)⟩
  | true =>
    have SOK : (seriesR k s).2 = true := by rw [ERS.out]
    have SAT := Lib.hid (fun (i q : Int) (hi : -6 ≤ i ∧ i ≤ 6) (hk : -6 ≤ q ∧ q ≤ 6) => ser_at (c := k) SOK HSB.out.2 hi hk)
    have CNT := series_one SOK
    have HL2 := Lib.hid (show s.length = 2 from (planeR_t (seriesR_t SOK).2.1).2.1)
    rw [ERS.out] at SAT CNT
    have CNT := Lib.hid CNT
    dsimp only at SAT
    clear SOK
    have CL := Lib.hid (fun v b W X (h : Tms W v L) (h2 : Sl W b (intVals X)) => i_seriesat L X v b W h h2)
    have CC := Lib.hid (fun v W (h : Tms W v L) => i_count L v W h (by have := LEN.out; omega))
    rw [show countR L = 1 from CNT.out] at CC
    go_wp2_with fail
    go_loopw [13] (fun o wr => ∃ z : Int, (-6 ≤ z ∧ z ≤ 7) ∧ o = .int .i64 z ∧ Bk wr (w1.heap.size) #[.slice ua k.1.length uc, .slice ta k.2.length tc] 26 ∧ Below V.heap.size V wr) (fun o _ => (7 - RowKit.intOf o).toNat)
    case atStart => exact ⟨-6, by omega, rfl, PB.out, BW.out⟩
    case round =>
      obtain ⟨z, hz, rfl, hpb, hbr⟩ := hrel
      have PBr := Lib.hid hpb
      have BWr := Lib.hid hbr
      clear hpb hbr PB BW
      by_cases hlt : z ≤ 6
      · skip
        have f7 : IntKind.i64.wrap (z + 1) = z + 1 := IntWalk.i64_in _ (by omega)
        have ZB := Lib.hid (And.intro hz.1 hlt)
        clear hz
        go_wp2_with fail
        go_loopw [14] (fun o wr => ∃ y : Int, (-6 ≤ y ∧ y ≤ 7) ∧ o = .int .i64 y ∧ Bk wr (w1.heap.size) #[.slice ua k.1.length uc, .slice ta k.2.length tc] 26 ∧ Below V.heap.size V wr) (fun o _ => (7 - RowKit.intOf o).toNat)
        case atStart => exact ⟨-6, by omega, rfl, PBr.out, BWr.out⟩
        case round =>
          obtain ⟨y0, hy, rfl, hpb, hbr⟩ := hrel
          have PBi := Lib.hid hpb
          have BWi := Lib.hid hbr
          clear hpb hbr PBr BWr
          by_cases hlt2 : y0 ≤ 6
          · skip
            have g7 : IntKind.i64.wrap (y0 + 1) = y0 + 1 := IntWalk.i64_in _ (by omega)
            have YB := Lib.hid (And.intro hy.1 hlt2)
            clear hy
            obtain ⟨⟨l0, l1⟩, -⟩ := PBi.out.two
            go_wp2_with fail
            have hb1 := below1 wr (.cells #[.int .i64 z, .int .i64 y0] 3)
            have PB1 := Lib.hid (PBi.out.below hb1)
            have BW1 := Lib.hid (BWi.out.trans (hb1.mono BWi.out.size))
            clear hb1 l0 l1
            refine (s_incone k (rowOf (z, y0)) _ _ _ (C_7.out.below BW1.out) (own_two (Bk.new wr _ 3) (Nat.le_refl _) (Nat.lt_succ_self _)).sl).mono ?_
            rintro e v1 ⟨rfl, hb2⟩
            have PB2 := Lib.hid (PB1.out.below hb2)
            have BW2 := Lib.hid (BW1.out.trans (hb2.mono BW1.out.size))
            clear hb2
            obtain ⟨b, hb⟩ : ∃ b, inconeR k (rowOf (z, y0)) = b := ⟨_, rfl⟩
            have SA := Lib.hid (SAT.out z y0 ZB.out YB.out)
            rw [hb] at SA ⊢
            clear hb
            cases b
            · have SA1 := Lib.hid (show seriesAtR L (addL s (rowOf (z, y0))) = 0 from SA.out)
              clear SA
              go_wp2_with fail
              have hb3 := below1 v1 (.cells #[.int .i64 z, .int .i64 y0] 3)
              have PB3 := Lib.hid (PB2.out.below hb3)
              have BW3 := Lib.hid (BW2.out.trans (hb3.mono BW2.out.size))
              clear hb3
              refine (l_plus s (rowOf (z, y0)) (by rw [HL2.out]; rfl) (by rw [HL2.out]; omega) 6 (by omega) (fun j hj => by have := HSB.out.2 j hj; omega) (bd_row6 ZB.out YB.out) _ _ _ (S_7.out.below BW3.out) (own_two (Bk.new v1 _ 3) (Nat.le_refl _) (Nat.lt_succ_self _)).sl).mono ?_
              rintro e v2 ⟨⟨pv, rfl, hp⟩, hb4⟩
              have PB4 := Lib.hid (PB3.out.below hb4)
              have BW4 := Lib.hid (BW3.out.trans (hb4.mono BW3.out.size))
              have HPV := Lib.hid hp.sl
              clear hb4 hp
              go_wp2_with fail
              refine (CL.out _ _ _ _ (L1_7.out.below BW4.out) HPV.out).mono ?_
              rintro e v3 ⟨rfl, hb5⟩
              have PB5 := Lib.hid (PB4.out.below hb5)
              have BW5 := Lib.hid (BW4.out.trans (hb5.mono BW4.out.size))
              clear hb5
              rw [SA1.out]
              go_wp2_with fail
              exact ⟨⟨y0 + 1, by have := YB.out; omega, rfl, PB5.out, BW5.out⟩, by have := YB.out; simp [RowKit.intOf]; omega⟩
            · have SA1 := Lib.hid (show seriesAtR L (addL s (rowOf (z, y0))) = 1 from SA.out)
              clear SA
              go_wp2_with fail
              have hb3 := below1 v1 (.cells #[.int .i64 z, .int .i64 y0] 3)
              have PB3 := Lib.hid (PB2.out.below hb3)
              have BW3 := Lib.hid (BW2.out.trans (hb3.mono BW2.out.size))
              clear hb3
              refine (l_plus s (rowOf (z, y0)) (by rw [HL2.out]; rfl) (by rw [HL2.out]; omega) 6 (by omega) (fun j hj => by have := HSB.out.2 j hj; omega) (bd_row6 ZB.out YB.out) _ _ _ (S_7.out.below BW3.out) (own_two (Bk.new v1 _ 3) (Nat.le_refl _) (Nat.lt_succ_self _)).sl).mono ?_
              rintro e v2 ⟨⟨pv, rfl, hp⟩, hb4⟩
              have PB4 := Lib.hid (PB3.out.below hb4)
              have BW4 := Lib.hid (BW3.out.trans (hb4.mono BW3.out.size))
              have HPV := Lib.hid hp.sl
              clear hb4 hp
              go_wp2_with fail
              refine (CL.out _ _ _ _ (L1_7.out.below BW4.out) HPV.out).mono ?_
              rintro e v3 ⟨rfl, hb5⟩
              have PB5 := Lib.hid (PB4.out.below hb5)
              have BW5 := Lib.hid (BW4.out.trans (hb5.mono BW4.out.size))
              clear hb5
              rw [SA1.out]
              go_wp2_with fail
              exact ⟨⟨y0 + 1, by have := YB.out; omega, rfl, PB5.out, BW5.out⟩, by have := YB.out; simp [RowKit.intOf]; omega⟩
          · have g9 : ¬ y0 ≤ 6 := hlt2
            clear hy
            go_wp2_with fail
            exact ⟨⟨z + 1, by have := ZB.out; omega, rfl, PBi.out, BWi.out⟩, by have := ZB.out; simp [RowKit.intOf]; omega⟩
      · have g9 : ¬ z ≤ 6 := hlt
        clear hz
        go_wp2_with fail
        refine (CC.out _ _ (L1_7.out.below BWr.out)).mono ?_
        rintro e v1 ⟨rfl, hb1⟩
        have BW1 := Lib.hid (BWr.out.trans (hb1.mono BWr.out.size))
        clear hb1
        go_wp2_with fail
        go_ret
        exact ⟨rfl, BV.out.trans (BW1.out.mono BV.out.size)⟩

theorem walk (l : List Int) (a : Option Addr) (n c : Nat) (w : World) (hlen : l.length = n) (hs : Sl w (.slice a n c) (numVals .u8 l)) (hz : ∀ z ∈ l, (Lit.int .u8 z).wf = true) :
    Calls Try.prog 4 #[.slice a n c] w fun e w' => e = .returned (.bool true) ∧ Below w.heap.size w w' := by
  by_cases hl : n ≤ 1048576
  · have hc := code_in hlen hs hz hl
    subst hlen
    exact walk_small a c l w hc
  · exact walk_big a n c (by omega) w

theorem own : ownKnob Try.prog.godebug = none := by kernel_rfl
theorem laidOut : laidOutB Try.prog = true := by kernel_rfl


set_option maxRecDepth 100000 in
set_option linter.unusedVariables false in
theorem contract (H : Type) (enc : TypeId × Value → H) (W : World) (base : Nat) (args : Array Value) (ds gs : List (DataW H)) (before : List MemPlace)
    (hval : ∀ (j : Nat) t v, Try.f4.params[j]? = some t → args[j]? = some v → Value.okWide Try.prog W .any base t v)
    (hW : DataW.Whole enc Try.prog Try.f4.params.toList Rows.fnSeriesSpec.vars false W args.toList ds gs before) :
    Calls Try.prog 4 args W fun e W' => ∃ v, e = .returned v ∧ Rows.fnSeriesSpec.post enc Try.prog Try.f4 false true false false W args v W' := by
  have hW' := hW
  obtain ⟨p, q, hA0, hV, rfl, hfz, hnd⟩ := hW
  have hA : DataW.TrodAll enc Try.prog W 0 (fun _ => true) true Try.f4.params.toList args.toList ds p := hA0
  rw [Try.params4] at hA hval
  obtain ⟨v0, vs0, d0, ds0, p0, q0, hargs, rfl, rfl, h0, r0⟩ := trodAll_cons hA
  obtain ⟨rfl, rfl, rfl⟩ := trodAll_nil r0
  obtain rfl : args = #[v0] := by cases args; simp_all
  obtain ⟨lA, lL, lC, rfl⟩ := okWide_slice Try.underlying22 (hval 0 22 v0 rfl rfl)
  obtain ⟨l, wl⟩ : ∃ zs : List Int, zs.length = lL ∧ Sl W (.slice lA lL lC) (numVals .u8 zs) ∧ ∀ z ∈ zs, (Lit.int .u8 z).wf = true := by
    obtain ⟨fuel, hf⟩ := h0
    exact nums_came Try.underlying22 Try.underlying5 (by kernel_rfl) hf
  refine (walk l _ _ _ W wl.1 wl.2.1 wl.2.2).mono fun e W' ⟨he, hb⟩ => ?_
  subst he
  exact ⟨_, rfl, law_post laidOut (by kernel_rfl) rfl Try.underlying4 rfl hW' (fun ds' h => by match ds', h with | [d0], _ => rfl) hb⟩


set_option maxRecDepth 100000 in
theorem lifted (os : Os) (started : os.Started) (H : Type) (enc : TypeId × Value → H) :
    ReturnsInHanded {} Try.checked os 4 .any (Rows.fnSeriesSpec.pre6 enc Try.prog Try.f4 Rows.fnSeriesRow.domain false) (Rows.fnSeriesSpec.post enc Try.prog Try.f4 false true false false) := by
  refine returnsInHanded_of_change (C := Try.checked) own started (by kernel_rfl) Try.func4
    (ChangeSpec.witness6 (enc := enc) (C := Try.checked) false ⟨#[], #[.slice none 0 0], []⟩ 8 (by kernel_rfl) (by kernel_rfl) (by kernel_rfl) (by kernel_rfl)) ?_
  intro W base args ds gs before hval hW _ _
  exact contract H enc W base args ds gs before hval hW

theorem said : Rows.FnSeriesSaid :=
  OpenClaim.holds_of_wide 4 Try.f4 rfl rfl rfl rfl rfl rfl rfl ⟨rfl, rfl, rfl, rfl, rfl⟩ rfl rfl rfl rfl rfl (by kernel_rfl) Try.func4 (by kernel_rfl)
    (of_decide_eq_true (by kernel_rfl)) (by unfold Func.isWrapper; first | (rw [if_pos (by decide +kernel)]; kernel_rfl) | (rw [if_neg (by decide +kernel)]; exact ⟨rfl, rfl⟩))
    (fun os started H enc _ => lifted os started H enc)
end Go.Proofs.Ytjijgagdaolkcaa.fnSeries
