/- The program's turns. -/
import Derived.Test.YtoekgcafhcamjaaPgA
import Derived.Test.YtoekgcafhcamjaaPgT
import Derived.Test.YtoekgcafhcamjaaPgB
namespace Go.Proofs.Ytoekgcafhcamjaa
open Go Go.RowKit Go.Lib

set_option maxRecDepth 100000 in
set_option maxHeartbeats 800000 in
theorem i_cross4 (a b c d e f : Int) (ha : -4000 ≤ a ∧ a ≤ 4000) (hb : -4000 ≤ b ∧ b ≤ 4000) (hc : -4000 ≤ c ∧ c ≤ 4000) (hd : -4000 ≤ d ∧ d ≤ 4000) (he : -4000 ≤ e ∧ e ≤ 4000) (hf : -4000 ≤ f ∧ f ≤ 4000) (w : World) :
    Calls Try.prog 107 #[.agg #[.int .i64 a, .int .i64 b, .int .i64 c], .agg #[.int .i64 d, .int .i64 e, .int .i64 f]] w (Arr w (b * f - c * e) (c * d - a * f) (a * e - b * d)) := by
  obtain ⟨p1, q1⟩ := prodT hb hf
  obtain ⟨p2, q2⟩ := prodT hc he
  obtain ⟨p3, q3⟩ := prodT hc hd
  obtain ⟨p4, q4⟩ := prodT ha hf
  obtain ⟨p5, q5⟩ := prodT ha he
  obtain ⟨p6, q6⟩ := prodT hb hd
  clear ha hb hc hd he hf
  go_enter Try.func107, Try.ntmps107
  go_wp2
  refine bodyPost_ret (v := .agg #[.int .i64 (b * f - c * e), .int .i64 (c * d - a * f), .int .i64 (a * e - b * d)]) ?_ rfl ⟨rfl, ?_⟩
  · simp [results, Try.results107, go_sem]
  · exact (((Below.refl _ _).alloc (Nat.le_refl _) _).alloc (by simp) _).alloc (by simp; omega) _

set_option maxRecDepth 100000 in
set_option maxHeartbeats 800000 in
theorem i_pdet4 (a b c d e f : Int) (ha : -4000 ≤ a ∧ a ≤ 4000) (hb : -4000 ≤ b ∧ b ≤ 4000) (hc : -4000 ≤ c ∧ c ≤ 4000) (hd : -4000 ≤ d ∧ d ≤ 4000) (he : -4000 ≤ e ∧ e ≤ 4000) (hf : -4000 ≤ f ∧ f ≤ 4000) (w : World) :
    Calls Try.prog 62 #[.agg #[.int .i64 a, .int .i64 b, .int .i64 c], .agg #[.int .i64 d, .int .i64 e, .int .i64 f]] w (Quiet w (.int .i64 (a * e - b * d))) := by
  have CR := Lib.hid (fun W => i_cross4 a b c d e f ha hb hc hd he hf W)
  have B0 := Lib.hid (below2 w (.cells #[.int .i64 a, .int .i64 b, .int .i64 c] 65) (.cells #[.int .i64 d, .int .i64 e, .int .i64 f] 65))
  generalize b * f - c * e = n0 at CR
  generalize c * d - a * f = n1 at CR
  generalize a * e - b * d = n2 at *
  clear ha hb hc hd he hf
  obtain ⟨-, -, ix2⟩ := idx3P (.int .i64 n0) (.int .i64 n1) (.int .i64 n2)
  go_enter Try.func62, Try.ntmps62
  go_wp2_with fail
  refine (CR.out _).mono ?_
  rintro e w1 ⟨rfl, hb⟩
  have B1 := Lib.hid (B0.out.trans (hb.mono B0.out.size))
  clear hb
  go_wp2_with fail
  go_ret
  exact ⟨rfl, B1.out⟩

/-- A point as the program holds it. -/
def ptV (p : P2) : Value := .agg #[.int .i64 p.1, .int .i64 p.2, .int .i64 0]
theorem bk3c {w : World} {b : Nat} {x y z : Value} {T : TypeId} (h : Bk w b #[x, y, z] T) : w.cell? ⟨b, 0, none⟩ = some x ∧ w.cell? ⟨b, 1, none⟩ = some y ∧ w.cell? ⟨b, 2, none⟩ = some z := ⟨h.cell 0 rfl, h.cell 1 rfl, h.cell 2 rfl⟩
set_option maxRecDepth 100000 in
set_option maxHeartbeats 800000 in
theorem i_turn (p q r : P2) (hp : BdP 50 p) (hq : BdP 50 q) (hr : BdP 1000 r) (w : World) :
    Calls Try.prog 125 #[ptV p, ptV q, ptV r] w (Quiet w (.int .i64 (turnP p q r))) := by
  obtain ⟨a, b⟩ := p
  obtain ⟨c, d⟩ := q
  obtain ⟨e, f⟩ := r
  unfold ptV
  unfold BdP at hp hq hr
  simp only at hp hq hr ⊢
  have HT := Lib.hid (show turnP (a, b) (c, d) (e, f) = (c + -1 * a) * (f + -1 * b) - (d + -1 * b) * (e + -1 * a) by unfold turnP; simp only; rw [show c + -1 * a = c - a by omega, show f + -1 * b = f - b by omega, show d + -1 * b = d - b by omega, show e + -1 * a = e - a by omega])
  have A1 := Lib.hid (fun W => i_addtP c d 0 (-1) a b 0 W (by omega) (by omega) (by omega) (by omega) (by omega) (by omega))
  have A2 := Lib.hid (fun W => i_addtP e f 0 (-1) a b 0 W (by omega) (by omega) (by omega) (by omega) (by omega) (by omega))
  have A3 := Lib.hid (fun W => i_pdet4 (c + -1 * a) (d + -1 * b) (0 + -1 * 0) (e + -1 * a) (f + -1 * b) (0 + -1 * 0) (by omega) (by omega) (by omega) (by omega) (by omega) (by omega) W)
  rw [HT.out]
  generalize c + -1 * a = x1 at *
  generalize d + -1 * b = x2 at *
  generalize e + -1 * a = y1 at *
  generalize f + -1 * b = y2 at *
  generalize (0 : Int) + -1 * 0 = z0 at *
  clear hp hq hr HT
  have B0 := Lib.hid (((below1 w (.cells #[.int .i64 a, .int .i64 b, .int .i64 0] 65)).alloc (by simp) (.cells #[.int .i64 c, .int .i64 d, .int .i64 0] 65)).alloc (by simp; omega) (.cells #[.int .i64 e, .int .i64 f, .int .i64 0] 65))
  go_enter Try.func125, Try.ntmps125
  go_wp2_with fail
  refine wgen ?_
  intro w1 hw1
  have B1 := Lib.hid (show Below w.heap.size w w1 by rw [hw1]; exact B0.out)
  have hsz : w1.heap.size = w.heap.size + 3 := by rw [hw1]; simp
  have K0 : Bk w1 w.heap.size #[.int .i64 a, .int .i64 b, .int .i64 0] 65 := by rw [hw1]; exact ((Bk.new w _ _).below (below1 _ _)).below (below1 _ _)
  have K1 : Bk w1 (w.heap.size + 1) #[.int .i64 c, .int .i64 d, .int .i64 0] 65 := by rw [hw1]; have h := (Bk.new (w.alloc (.cells #[.int .i64 a, .int .i64 b, .int .i64 0] 65)) #[.int .i64 c, .int .i64 d, .int .i64 0] 65).below (below1 _ (.cells #[.int .i64 e, .int .i64 f, .int .i64 0] 65)); simpa using h
  have K2 : Bk w1 (w.heap.size + 2) #[.int .i64 e, .int .i64 f, .int .i64 0] 65 := by rw [hw1]; have h := Bk.new ((w.alloc (.cells #[.int .i64 a, .int .i64 b, .int .i64 0] 65)).alloc (.cells #[.int .i64 c, .int .i64 d, .int .i64 0] 65)) #[.int .i64 e, .int .i64 f, .int .i64 0] 65; simpa using h
  clear hw1 B0 hsz
  refine T_begin (z := fun q => 6 < q) (S := fun (W : World) => Bk W w.heap.size #[.int .i64 a, .int .i64 b, .int .i64 0] 65 ∧ Bk W (w.heap.size + 1) #[.int .i64 c, .int .i64 d, .int .i64 0] 65 ∧ Bk W (w.heap.size + 2) #[.int .i64 e, .int .i64 f, .int .i64 0] 65) (by kernel_rfl) ?_
  show wpAnyT _ _ _ _ _ _ 8 _ _ _
  have s1 := show (fun (W : World) => Bk W w.heap.size #[.int .i64 a, .int .i64 b, .int .i64 0] 65 ∧ Bk W (w.heap.size + 1) #[.int .i64 c, .int .i64 d, .int .i64 0] 65 ∧ Bk W (w.heap.size + 2) #[.int .i64 e, .int .i64 f, .int .i64 0] 65) w1.drew from ⟨K0, K1, K2⟩
  have hS0 := Lib.hid s1
  clear K0 K1 K2
  refine T_take (i := 0) (v := .agg #[.int .i64 c, .int .i64 d, .int .i64 0]) rfl (by kernel_rfl) (by kernel_rfl) (by kernel_rfl) (by kernel_rfl) (fun _ _ _ h => h) hS0.out (by kernel_rfl) (fun w' hS' => by obtain ⟨h0, h1, h2⟩ := bk3c hS'.2.1; go_simp) ?_
  refine T_take (i := 1) (v := .agg #[.int .i64 a, .int .i64 b, .int .i64 0]) rfl (by kernel_rfl) (by kernel_rfl) (by kernel_rfl) (by kernel_rfl) (fun _ _ _ h => h) hS0.out (by kernel_rfl) (fun w' hS' => by obtain ⟨h0, h1, h2⟩ := bk3c hS'.1; go_simp) ?_
  refine T_take (i := 3) (v := .agg #[.int .i64 e, .int .i64 f, .int .i64 0]) rfl (by kernel_rfl) (by kernel_rfl) (by kernel_rfl) (by kernel_rfl) (fun _ _ _ h => h) hS0.out (by kernel_rfl) (fun w' hS' => by obtain ⟨h0, h1, h2⟩ := bk3c hS'.2.2; go_simp) ?_
  refine T_take (i := 4) (v := .agg #[.int .i64 a, .int .i64 b, .int .i64 0]) rfl (by kernel_rfl) (by kernel_rfl) (by kernel_rfl) (by kernel_rfl) (fun _ _ _ h => h) hS0.out (by kernel_rfl) (fun w' hS' => by obtain ⟨h0, h1, h2⟩ := bk3c hS'.1; go_simp) ?_
  refine T_step (i := 2) rfl (by kernel_rfl) rfl (by kernel_rfl) ?_
  intro K hK
  go_simp
  refine (A1.out _).mono ?_
  rintro e' w2 ⟨rfl, hb2⟩
  have s2 := show (fun (W : World) => Bk W w.heap.size #[.int .i64 a, .int .i64 b, .int .i64 0] 65 ∧ Bk W (w.heap.size + 1) #[.int .i64 c, .int .i64 d, .int .i64 0] 65 ∧ Bk W (w.heap.size + 2) #[.int .i64 e, .int .i64 f, .int .i64 0] 65) w2 from ⟨s1.1.below hb2, s1.2.1.below hb2, s1.2.2.below hb2⟩
  refine hK.out _ _ s2 ?_
  clear hK K
  refine T_step (i := 5) rfl (by kernel_rfl) rfl (by kernel_rfl) ?_
  intro K hK
  go_simp
  refine (A2.out _).mono ?_
  rintro e' w3 ⟨rfl, hb3⟩
  have s3 := show (fun (W : World) => Bk W w.heap.size #[.int .i64 a, .int .i64 b, .int .i64 0] 65 ∧ Bk W (w.heap.size + 1) #[.int .i64 c, .int .i64 d, .int .i64 0] 65 ∧ Bk W (w.heap.size + 2) #[.int .i64 e, .int .i64 f, .int .i64 0] 65) w3 from ⟨s2.1.below hb3, s2.2.1.below hb3, s2.2.2.below hb3⟩
  refine hK.out _ _ s3 ?_
  clear hK K
  refine T_step (i := 6) rfl (by kernel_rfl) rfl (by kernel_rfl) ?_
  intro K hK
  go_simp
  refine (A3.out _).mono ?_
  rintro e' w4 ⟨rfl, hb4⟩
  have s4 := show (fun (W : World) => Bk W w.heap.size #[.int .i64 a, .int .i64 b, .int .i64 0] 65 ∧ Bk W (w.heap.size + 1) #[.int .i64 c, .int .i64 d, .int .i64 0] 65 ∧ Bk W (w.heap.size + 2) #[.int .i64 e, .int .i64 f, .int .i64 0] 65) w4 from ⟨s3.1.below hb4, s3.2.1.below hb4, s3.2.2.below hb4⟩
  refine hK.out _ _ s4 ?_
  clear hK K
  have hS4 := Lib.hid s4
  have B4 := Lib.hid (((B1.out.trans ((Below.refl w1.heap.size w1).drew.mono B1.out.size)).trans (hb2.mono B1.out.size)).trans ((hb3.mono (Nat.le_trans B1.out.size hb2.size)).trans (hb4.mono (Nat.le_trans (Nat.le_trans B1.out.size hb2.size) hb3.size))))
  refine T_last (i := 7) rfl (by kernel_rfl) (by kernel_rfl) rfl rfl ?_
  go_simp
  go_wp2
  go_ret
  exact ⟨rfl, B4.out⟩
/-- The determinant of two points. -/
theorem i_pdet (p q : P2) (hp : BdP 4000 p) (hq : BdP 4000 q) (w : World) :
    Calls Try.prog 62 #[ptV p, ptV q] w (Quiet w (.int .i64 (p.1 * q.2 - p.2 * q.1))) :=
  i_pdet4 p.1 p.2 0 q.1 q.2 0 hp.1 hp.2 (by omega) hq.1 hq.2 (by omega) w
end Go.Proofs.Ytoekgcafhcamjaa
