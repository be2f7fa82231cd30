/- Drawn regions that are bent a little. -/
import Derived.Test.YtmogncpkdkdodaaDrawR2
import Derived.Test.YtmogncpkdkdodaaHfMark
namespace Go.Proofs.Ytmogncpkdkdodaa
open Go Go.RowKit Go.Lib

theorem pick_dim {v : Value} (hv : v ∈ [Value.int .i64 0, .int .i64 4, .int .i64 2]) : ∃ x : Int, v = .int .i64 x ∧ 0 ≤ x ∧ x ≤ 4 := by
  simp only [List.mem_cons, List.not_mem_nil, or_false] at hv
  rcases hv with h | h | h <;> exact ⟨_, h, by omega, by omega⟩
theorem pick_bound {v : Value} (hv : v ∈ [Value.int .i64 200, .int .i64 201, .int .i64 (-201), .int .i64 (-200)]) : ∃ x : Int, v = .int .i64 x ∧ -201 ≤ x ∧ x ≤ 201 := by
  simp only [List.mem_cons, List.not_mem_nil, or_false] at hv
  rcases hv with h | h | h | h <;> exact ⟨_, h, by omega, by omega⟩
theorem pick_norm {v : Value} (hv : v ∈ [Value.int .i64 20, .int .i64 21, .int .i64 (-21), .int .i64 0]) : ∃ x : Int, v = .int .i64 x ∧ -21 ≤ x ∧ x ≤ 21 := by
  simp only [List.mem_cons, List.not_mem_nil, or_false] at hv
  rcases hv with h | h | h | h <;> exact ⟨_, h, by omega, by omega⟩
/-- What is known of a bent region. -/
def Bent (r : Rgn) : Prop := 0 ≤ r.1 ∧ r.1 ≤ 4 ∧ r.2.length ≤ 6 ∧ ∀ h, h ∈ r.2 → 1 ≤ h.1.length ∧ h.1.length ≤ 3
theorem mem_set {α : Type} {l : List α} {j : Nat} {x y : α} (h : y ∈ l.set j x) : y ∈ l ∨ y = x := by
  rcases List.mem_or_eq_of_mem_set h with h | h
  · exact .inl h
  · exact .inr h
/-- What has come when the region's own choice is made. -/
def BentI (base p : Nat) (w : World) (z : Int) (V : Value) (hs : List Hf) (B : Nat) (wr : World) : Prop :=
  Bk wr w.heap.size #[.int .i64 0, .slice none 0 0] 26 ∧ Bk wr B #[.int .i64 z, V] 26 ∧ OwH 48 3 (w.heap.size + 1) B wr V hs ∧ CurAt base wr p ∧ Kept p (p + 1) w wr ∧ w.heap.size + 1 ≤ B

/-- What is handed back. -/
def BentE (base p : Nat) (w : World) (z : Int) (V : Value) (hs : List Hf) (wr : World) : Prop :=
  Bk wr w.heap.size #[.int .i64 0, .slice none 0 0] 26 ∧ OwH 48 3 (w.heap.size + 1) wr.heap.size wr V hs ∧ CurAt base wr p ∧ Kept p (p + 1) w wr
theorem BentI.e {base p : Nat} {w : World} {z : Int} {V : Value} {hs : List Hf} {B : Nat} {wr : World} (h : BentI base p w z V hs B wr) : BentE base p w z V hs wr :=
  ⟨h.1, h.2.2.1.mono (Nat.le_refl _) (Nat.le_of_lt h.2.1.lt), h.2.2.2.1, h.2.2.2.2.1⟩
theorem bent_end {base p : Nat} {w : World} {z : Int} {V : Value} {hs : List Hf} {wr : World} (hp : p < w.heap.size) (h : BentE base p w z V hs wr) (hb : Bent (z, hs)) :
    DrewG base p w Bent (.returned (.agg #[.int .i64 z, V])) ((wr.setCell ⟨w.heap.size, 0, none⟩ (.int .i64 z)).setCell ⟨w.heap.size, 1, none⟩ V) := by
  have hbe := ((Below.refl w.heap.size wr).setCell (p := ⟨w.heap.size, 0, none⟩) (Nat.le_refl _) (.int .i64 z)).setCell (p := ⟨w.heap.size, 1, none⟩) (Nat.le_refl _) V
  exact ⟨⟨_, (z, hs), rfl, hb, V, rfl, (h.2.1.kept (((Kept.refl w.heap.size (w.heap.size + 1) wr).setCell (p := ⟨w.heap.size, 0, none⟩) (Nat.le_refl _) (Nat.lt_succ_self _) _).setCell (p := ⟨w.heap.size, 1, none⟩) (Nat.le_refl _) (Nat.lt_succ_self _) _) (.inr (Nat.le_refl _))).mono (by omega) (by simp [World.setCell])⟩, h.2.2.1.belowB hbe hp, h.2.2.2.andB hbe⟩
theorem BentI.dim {base p : Nat} {w : World} {z : Int} {V : Value} {hs : List Hf} {B : Nat} {wr : World} (hp : p < w.heap.size) (h : BentI base p w z V hs B wr) (x : Int) : BentI base p w x V hs B (wr.setCell ⟨B, 0, none⟩ (.int .i64 x)) := by
  have hBB := h.2.2.2.2.2
  have hbe := (Below.refl w.heap.size wr).setCell (p := ⟨B, 0, none⟩) (by show w.heap.size ≤ B; omega) (.int .i64 x)
  exact ⟨h.1.other (by show B ≠ _; omega) _, h.2.1.set0 _, h.2.2.1.kept ((Kept.refl B (B + 1) wr).setCell (p := ⟨B, 0, none⟩) (Nat.le_refl _) (Nat.lt_succ_self _) _) (.inl (Nat.le_refl _)), h.2.2.2.1.belowB hbe hp, h.2.2.2.2.1.andB hbe, hBB⟩
theorem BentI.bound {base p : Nat} {w : World} {z : Int} {g n c : Nat} {hs : List Hf} {B : Nat} {wr : World} (hp : p < w.heap.size) (h : BentI base p w z (.slice (some ⟨g, 0, none⟩) n c) hs B wr) (h0 : 0 < hs.length) (x : Int) :
    BentI base p w z (.slice (some ⟨g, 0, none⟩) n c) (hs.set 0 (hs[0].1, x)) B (wr.setCell ⟨g, 1, none⟩ (.int .i64 x)) := by
  obtain ⟨g', -, e1, g1, g2, -⟩ := h.2.2.1.at 0 h0 rfl
  simp only [Option.some.injEq, Addr.mk.injEq, and_true] at e1
  subst e1
  have hbe := (Below.refl w.heap.size wr).setCell (p := ⟨g, 1, none⟩) (by show w.heap.size ≤ g; omega) (.int .i64 x)
  exact ⟨h.1.other (by show g ≠ _; omega) _, h.2.1.other (by show g ≠ _; omega) _, h.2.2.1.bound 0 h0 x, h.2.2.2.1.belowB hbe hp, h.2.2.2.2.1.andB hbe, h.2.2.2.2.2⟩
theorem BentI.norm {base p : Nat} {w : World} {z : Int} {g n c gx cx : Nat} {hs : List Hf} {B : Nat} {wr : World} (hp : p < w.heap.size) (h : BentI base p w z (.slice (some ⟨g, 0, none⟩) n c) hs B wr) (h0 : 0 < hs.length)
    (hc : wr.cell? ⟨g, 0, none⟩ = some (.slice (some ⟨gx, 0, none⟩) hs[0].1.length cx)) (ho : OwnV 3 (w.heap.size + 1) B wr (.slice (some ⟨gx, 0, none⟩) hs[0].1.length cx) (intVals hs[0].1)) (x : Int) :
    BentI base p w z (.slice (some ⟨g, 0, none⟩) n c) (hs.set 0 (hs[0].1.set 0 x, hs[0].2)) B (wr.setCell ⟨gx, 0, none⟩ (.int .i64 x)) := by
  have hgx := ho.place (b := gx) rfl
  have hbe := (Below.refl w.heap.size wr).setCell (p := ⟨gx, 0, none⟩) (by show w.heap.size ≤ gx; omega) (.int .i64 x)
  have hoo := ho.owns
  rw [intVals_len] at hoo
  have hst := (hoo.stored 0 (.int .i64 x)).1
  rw [← intVals_set] at hst
  have hown : OwnV 3 (w.heap.size + 1) B (wr.setCell ⟨gx, 0, none⟩ (.int .i64 x)) (.slice (some ⟨gx, 0, none⟩) hs[0].1.length cx) (intVals (hs[0].1.set 0 x)) := by
    have h3 := OwnV.of_owns hst
    rcases h3 with h3 | ⟨g3, cap3, cur3, e3, q1, q2, q3⟩
    · exact .inl h3
    · refine .inr ⟨g3, cap3, cur3, e3, q1, ?_, q3⟩
      simp only [Value.slice.injEq, Option.some.injEq, Addr.mk.injEq, and_true] at e3
      rw [← e3.1]; exact hgx.2.1
  refine ⟨h.1.other (by show gx ≠ _; omega) _, h.2.1.other (by show gx ≠ _; omega) _, h.2.2.1.norm 0 h0 hc hown (fun q hq => ?_), h.2.2.2.1.belowB hbe hp, h.2.2.2.2.1.andB hbe, h.2.2.2.2.2⟩
  have hqg : gx = q := hq gx rfl
  subst hqg
  exact (Kept.refl gx (gx + 1) wr).setCell (p := ⟨gx, 0, none⟩) (Nat.le_refl _) (Nat.lt_succ_self _) _
theorem owh_empty {w : World} {lo : Nat} {T e : TypeId} (hb : lo ≤ w.heap.size) : OwH T e lo (w.alloc (.cells #[] T)).heap.size (w.alloc (.cells #[] T)) (.slice (some ⟨w.heap.size, 0, none⟩) 0 0) [] :=
  ⟨[], rfl, ⟨rfl, .inr ⟨w.heap.size, 0, #[], rfl, hb, heap_alloc_new w _, Nat.le_refl _, by simp, by simp, rfl⟩⟩, fun b hb => by simp [Value.ownBlock] at hb; subst hb; simp, fun i u h hu => by simp at hu, fun i j u u' b _ hu => by simp at hu, fun i u b hu => by simp at hu⟩

set_option maxRecDepth 100000 in
set_option maxHeartbeats 3200000 in
theorem d_lbent (base p : Nat) (w : World) (hc : CurAt base w p) :
    Calls Try.prog 47 #[.pointer (some ⟨p, 0, none⟩)] w (DrewG base p w Bent) := by
  have hp := hc.lt
  have HB0 := Lib.hid (below1 w (.cells #[.int .i64 0, .slice none 0 0] 26))
  have K0 := Lib.hid (Bk.new w #[.int .i64 0, .slice none 0 0] 26)
  have HC := Lib.hid (hc.below HB0.out)
  clear hc
  go_enter Try.func47, Try.ntmps47
  go_wp2_with fail
  refine (draw_below base p 3 _ HC.out (by omega) (by omega)).mono ?_
  rintro e w1 ⟨⟨v, rfl, x, rfl, h0, h1⟩, hc1, hg1⟩
  obtain ⟨m, rfl⟩ : ∃ m : Nat, x = m := ⟨x.toNat, by omega⟩
  have hm : m ≤ 2 := by omega
  have HU1 := Lib.hid hc1
  have K1 := Lib.hid (K0.out.kept (Kept.of_grown hg1) (.inr (by omega)))
  have G1 := Lib.hid ((Kept.of_below (lo := p) (hi := p + 1) HB0.out).trans (Kept.of_grown hg1))
  clear hc1 hg1 h0 h1
  go_wp2_with fail
  refine (d_region base p (1 + m) (by omega) (by omega) _ HU1.out).mono ?_
  rintro e w2 ⟨⟨v, r, rfl, ⟨hn, hl1, hl6, hmem⟩, V, rfl, ho⟩, hc2, hk2⟩
  obtain ⟨z, hs⟩ := r
  simp only at hn hl1 hl6 hmem ho ⊢
  subst hn
  obtain ⟨va, vc, rfl, hvm⟩ := ho.hs.shape
  obtain ⟨g, -, e1, g1, g2, -⟩ := ho.at 0 (by omega) rfl
  subst e1
  have N2 := Lib.hid (below1 w2 (.cells #[.int .i64 ((1 + m : Nat) : Int), .slice (some ⟨g, 0, none⟩) hs.length vc] 26))
  have hw1 : w.heap.size + 1 ≤ w1.heap.size := K1.out.lt
  have HI := Lib.hid (show BentI base p w ((1 + m : Nat) : Int) (.slice (some ⟨g, 0, none⟩) hs.length vc) hs w2.heap.size (w2.alloc (.cells #[.int .i64 ((1 + m : Nat) : Int), .slice (some ⟨g, 0, none⟩) hs.length vc] 26)) from
    ⟨(K1.out.kept hk2 (.inr (by omega))).alloc _, Bk.new _ _ _, (ho.below N2.out).mono hw1 (Nat.le_refl _), hc2.below N2.out, (G1.out.trans hk2).then_below N2.out, Nat.le_trans hw1 hk2.size⟩)
  have HL := Lib.hid (And.intro hl1 (And.intro hl6 hmem))
  clear ho hc2 hk2 hl1 hl6 hmem
  go_wp2_with fail
  refine (draw_below base p 14 _ HI.out.2.2.2.1 (by omega) (by omega)).mono ?_
  rintro e w3 ⟨⟨v, rfl, y, rfl, h0, h1⟩, hc3, hg3⟩
  have hkk := Kept.of_grown hg3
  have HJ := Lib.hid (show BentI base p w ((1 + m : Nat) : Int) (.slice (some ⟨g, 0, none⟩) hs.length vc) hs w2.heap.size w3 from
    ⟨HI.out.1.kept hkk (.inr (by omega)), HI.out.2.1.kept hkk (.inr (by have := HI.out.2.2.2.2.2; omega)), HI.out.2.2.1.kept hkk (.inr (by omega)), hc3, HI.out.2.2.2.2.1.trans hkk, HI.out.2.2.2.2.2⟩)
  clear hc3 hg3 hkk HI
  -- the end: what the variable holds is handed back
  have END : True := trivial
  by_cases y0 : y = 0
  · subst y0
    go_wp2_with fail
    have N3 := Lib.hid (below1 w3 (.cells #[.int .i64 0, .int .i64 4, .int .i64 2] 3))
    refine (draw_pick_int base p w3.heap.size [.int .i64 0, .int .i64 4, .int .i64 2] _ (HJ.out.2.2.2.1.below N3.out) (by decide) (by decide) (Nat.ne_of_gt HJ.out.2.2.2.1.lt) (heap_alloc_new w3 _)).mono ?_
    rintro e w4 ⟨⟨v4, rfl, hv⟩, hc4, hg4⟩
    obtain ⟨x, rfl, x1, x2⟩ := pick_dim hv
    have hkk := (Kept.of_below (lo := p) (hi := p + 1) N3.out).trans (Kept.of_grown hg4)
    have HQ := Lib.hid (show BentI base p w ((1 + m : Nat) : Int) (.slice (some ⟨g, 0, none⟩) hs.length vc) hs w2.heap.size w4 from
      ⟨HJ.out.1.kept hkk (.inr (by omega)), HJ.out.2.1.kept hkk (.inr (by have := HJ.out.2.2.2.2.2; omega)), HJ.out.2.2.1.kept hkk (.inr (by omega)), hc4, HJ.out.2.2.2.2.1.trans hkk, HJ.out.2.2.2.2.2⟩)
    clear hc4 hg4 hkk hv N3
    obtain ⟨⟨l0, l1⟩, lf0, lf1⟩ := HQ.out.2.1.two
    obtain ⟨⟨r0, r1⟩, rf0, rf1⟩ := HQ.out.1.two
    have hBB := HQ.out.2.2.2.2.2
    go_wp2
    have HE := HQ.out.dim hp x
    exact bodyPost_ret (v := .agg #[.int .i64 x, .slice (some ⟨g, 0, none⟩) hs.length vc]) (by simp [results, Try.results47, go_sem, r0, r1]) rfl (bent_end hp HE.e ⟨x1, x2, HL.out.2.1, fun q hq => by have := HL.out.2.2 q hq; omega⟩)
  have hl0 := HL.out.1
  have hne : ¬ hs = [] := by intro hh; rw [hh] at hl0; simp at hl0
  have hl0 := HL.out.1
  have hne : ¬ hs = [] := by intro hh; rw [hh] at hl0; simp at hl0
  have hl0 := HL.out.1
  have hne : ¬ hs = [] := by intro hh; rw [hh] at hl0; simp at hl0
  have hl0 := HL.out.1
  have hne : ¬ hs = [] := by intro hh; rw [hh] at hl0; simp at hl0
  have hl0 := HL.out.1
  have hne : ¬ hs = [] := by intro hh; rw [hh] at hl0; simp at hl0
  by_cases y1 : y = 1
  · subst y1
    go_wp2_with fail
    obtain ⟨⟨-, l1⟩, -⟩ := HJ.out.2.1.two
    refine T_begin (z := fun k => 4 < k) (S := fun (w' : World) => w'.cell? ⟨w2.heap.size, 1, none⟩ = some (.slice (some ⟨g, 0, none⟩) hs.length vc)) (by kernel_rfl) ?_
    show wpAnyT _ _ _ _ _ _ 8 _ _ _
    have hS0 := Lib.hid (show (fun (w' : World) => w'.cell? ⟨w2.heap.size, 1, none⟩ = some (.slice (some ⟨g, 0, none⟩) hs.length vc)) _ from l1)
    refine T_take (i := 0) (v := .pointer (some ⟨w2.heap.size, 1, none⟩)) rfl (by kernel_rfl) (by kernel_rfl) (by kernel_rfl) (by kernel_rfl) (fun _ _ _ h => h) hS0.out (by kernel_rfl) (fun w' hS' => by (try dsimp only at hS'); go_simp) ?_
    refine T_take (i := 1) (v := (.slice (some ⟨g, 0, none⟩) hs.length vc)) rfl (by kernel_rfl) (by kernel_rfl) (by kernel_rfl) (by kernel_rfl) (fun _ _ _ h => h) hS0.out (by kernel_rfl) (fun w' hS' => by (try dsimp only at hS'); go_simp) ?_
    refine T_take (i := 2) (v := .pointer (some ⟨p, 0, none⟩)) rfl (by kernel_rfl) (by kernel_rfl) (by kernel_rfl) (by kernel_rfl) (fun _ _ _ h => h) hS0.out (by kernel_rfl) (fun w' hS' => by (try dsimp only at hS'); go_simp) ?_
    refine T_step (i := 3) rfl (by kernel_rfl) rfl (by kernel_rfl) ?_
    intro K hK
    go_simp
    refine hK.out _ _ ((HJ.out.2.1.alloc _).two.1.2) ?_
    clear hK K
    refine T_step (i := 4) rfl (by kernel_rfl) rfl (by kernel_rfl) ?_
    intro K hK
    go_simp
    have N3 := Lib.hid (below1 w3 (.cells #[Value.int .i64 200, .int .i64 201, .int .i64 (-201), .int .i64 (-200)] 3))
    refine (draw_pick_int base p w3.heap.size [Value.int .i64 200, .int .i64 201, .int .i64 (-201), .int .i64 (-200)] _ ((HJ.out.2.2.2.1.below N3.out).below ((Below.refl _ _).drew)) (by decide) (by decide) (Nat.ne_of_gt HJ.out.2.2.2.1.lt) (heap_alloc_new w3 _)).mono ?_
    rintro e w4 ⟨⟨v4, rfl, hv⟩, hc4, hg4⟩
    obtain ⟨x, rfl, x1, x2⟩ := pick_bound hv
    have hkk := (Kept.of_below (lo := p) (hi := p + 1) (N3.out.drew)).trans (Kept.of_grown hg4)
    have HQ := Lib.hid (show BentI base p w ((1 + m : Nat) : Int) (.slice (some ⟨g, 0, none⟩) hs.length vc) hs w2.heap.size w4 from
      ⟨HJ.out.1.kept hkk (.inr (by omega)), HJ.out.2.1.kept hkk (.inr (by have := HJ.out.2.2.2.2.2; omega)), HJ.out.2.2.1.kept hkk (.inr (by omega)), hc4, HJ.out.2.2.2.2.1.trans hkk, HJ.out.2.2.2.2.2⟩)
    clear hc4 hg4 hkk hv N3
    refine hK.out _ _ (HQ.out.2.1.two.1.2) ?_
    clear hK K hS0
    refine T_anytake (i := 5) (v := .pointer (some ⟨g, 0, none⟩)) rfl (by kernel_rfl) (by kernel_rfl) (by kernel_rfl) (by kernel_rfl) (fun _ _ _ h => h) (by kernel_rfl) (fun w' => by go_simp <;> (intro hh; exact absurd hh hne)) ?_
    refine T_anytake (i := 6) (v := .pointer (some ⟨g, 1, none⟩)) rfl (by kernel_rfl) (by kernel_rfl) (by kernel_rfl) (by kernel_rfl) (fun _ _ _ h => h) (by kernel_rfl) (fun w' => by go_simp) ?_
    obtain ⟨g', u', e1, q1, q2, q3, c0, c1, f0, f1, -⟩ := HQ.out.2.2.1.at 0 hl0 rfl
    simp only [Option.some.injEq, Addr.mk.injEq, and_true] at e1
    subst e1
    refine T_last (i := 7) rfl (by kernel_rfl) (by kernel_rfl) rfl rfl ?_
    go_simp
    have HE := Lib.hid (HQ.out.bound hp hl0 x)
    obtain ⟨⟨l0, l1⟩, lf0, lf1⟩ := HE.out.2.1.two
    obtain ⟨⟨r0, r1⟩, rf0, rf1⟩ := HE.out.1.two
    have hBB := HQ.out.2.2.2.2.2
    go_wp2
    refine bodyPost_ret (v := .agg #[.int .i64 ((1 + m : Nat) : Int), .slice (some ⟨g, 0, none⟩) hs.length vc]) (by simp [results, Try.results47, go_sem, r0, r1]) rfl (bent_end hp HE.out.e ⟨by simp only; omega, by simp only; omega, by rw [List.length_set]; exact HL.out.2.1, fun q hq => ?_⟩)
    rcases mem_set hq with hq | rfl
    · have := HL.out.2.2 q hq; omega
    · have := HL.out.2.2 hs[0] (List.getElem_mem hl0)
      simp only [List.length_set]; omega
  by_cases y2 : y = 2
  · subst y2
    go_wp2_with fail
    obtain ⟨⟨-, l1⟩, -⟩ := HJ.out.2.1.two
    obtain ⟨g', u', e1, q1, q2, q3, c0, -, -, -, on, -⟩ := HJ.out.2.2.1.at 0 hl0 rfl
    simp only [Option.some.injEq, Addr.mk.injEq, and_true] at e1
    subst e1
    have hn0 : 0 < hs[0].1.length := by have := HL.out.2.2 hs[0] (List.getElem_mem hl0); omega
    have hn1 : ¬ hs[0].1 = [] := by intro hh; rw [hh] at hn0; simp at hn0
    obtain ⟨gx, cx, rfl, ox1, ox2⟩ := on.form (by rw [intVals_len]; exact hn0)
    rw [intVals_len] at c0 on
    have HON := Lib.hid on
    rw [Nat.zero_mul] at c0
    clear on
    refine T_begin (z := fun k => 7 < k) (S := fun (w' : World) => w'.cell? ⟨w2.heap.size, 1, none⟩ = some (.slice (some ⟨g, 0, none⟩) hs.length vc) ∧ w'.cell? ⟨g, 0, none⟩ = some (.slice (some ⟨gx, 0, none⟩) hs[0].1.length cx)) (by kernel_rfl) ?_
    show wpAnyT _ _ _ _ _ _ 10 _ _ _
    have hS0 := Lib.hid (show (fun (w' : World) => w'.cell? ⟨w2.heap.size, 1, none⟩ = some (.slice (some ⟨g, 0, none⟩) hs.length vc) ∧ w'.cell? ⟨g, 0, none⟩ = some (.slice (some ⟨gx, 0, none⟩) hs[0].1.length cx)) _ from ⟨l1, c0⟩)
    refine T_take (i := 0) (v := .pointer (some ⟨w2.heap.size, 1, none⟩)) rfl (by kernel_rfl) (by kernel_rfl) (by kernel_rfl) (by kernel_rfl) (fun _ _ _ h => h) hS0.out (by kernel_rfl) (fun w' hS' => by (try dsimp only at hS'); go_simp) ?_
    refine T_take (i := 1) (v := (.slice (some ⟨g, 0, none⟩) hs.length vc)) rfl (by kernel_rfl) (by kernel_rfl) (by kernel_rfl) (by kernel_rfl) (fun _ _ _ h => h) hS0.out (by kernel_rfl) (fun w' hS' => by (try dsimp only at hS'); go_simp) ?_
    refine T_take (i := 2) (v := .pointer (some ⟨g, 0, none⟩)) rfl (by kernel_rfl) (by kernel_rfl) (by kernel_rfl) (by kernel_rfl) (fun _ _ _ h => h) hS0.out (by kernel_rfl) (fun w' hS' => by (try dsimp only at hS'); go_simp <;> (intro hh; exact absurd hh hne)) ?_
    refine T_take (i := 3) (v := .pointer (some ⟨g, 0, none⟩)) rfl (by kernel_rfl) (by kernel_rfl) (by kernel_rfl) (by kernel_rfl) (fun _ _ _ h => h) hS0.out (by kernel_rfl) (fun w' hS' => by (try dsimp only at hS'); go_simp) ?_
    refine T_take (i := 4) (v := .slice (some ⟨gx, 0, none⟩) hs[0].1.length cx) rfl (by kernel_rfl) (by kernel_rfl) (by kernel_rfl) (by kernel_rfl) (fun _ _ _ h => h) hS0.out (by kernel_rfl) (fun w' hS' => by (try dsimp only at hS'); go_simp) ?_
    refine T_take (i := 5) (v := .pointer (some ⟨p, 0, none⟩)) rfl (by kernel_rfl) (by kernel_rfl) (by kernel_rfl) (by kernel_rfl) (fun _ _ _ h => h) hS0.out (by kernel_rfl) (fun w' hS' => by (try dsimp only at hS'); go_simp) ?_
    refine T_step (i := 6) rfl (by kernel_rfl) rfl (by kernel_rfl) ?_
    intro K hK
    go_simp
    refine hK.out _ _ ⟨(HJ.out.2.1.alloc _).two.1.2, ((below1 w3 _).cell (p := ⟨g, 0, none⟩) q3).trans c0⟩ ?_
    clear hK K
    refine T_step (i := 7) rfl (by kernel_rfl) rfl (by kernel_rfl) ?_
    intro K hK
    go_simp
    have N3 := Lib.hid (below1 w3 (.cells #[Value.int .i64 20, .int .i64 21, .int .i64 (-21), .int .i64 0] 3))
    refine (draw_pick_int base p w3.heap.size [Value.int .i64 20, .int .i64 21, .int .i64 (-21), .int .i64 0] _ ((HJ.out.2.2.2.1.below N3.out).below ((Below.refl _ _).drew)) (by decide) (by decide) (Nat.ne_of_gt HJ.out.2.2.2.1.lt) (heap_alloc_new w3 _)).mono ?_
    rintro e w4 ⟨⟨v4, rfl, hv⟩, hc4, hg4⟩
    obtain ⟨x, rfl, x1, x2⟩ := pick_norm hv
    have hkk := (Kept.of_below (lo := p) (hi := p + 1) (N3.out.drew)).trans (Kept.of_grown hg4)
    have HQ := Lib.hid (show BentI base p w ((1 + m : Nat) : Int) (.slice (some ⟨g, 0, none⟩) hs.length vc) hs w2.heap.size w4 from
      ⟨HJ.out.1.kept hkk (.inr (by omega)), HJ.out.2.1.kept hkk (.inr (by have := HJ.out.2.2.2.2.2; omega)), HJ.out.2.2.1.kept hkk (.inr (by omega)), hc4, HJ.out.2.2.2.2.1.trans hkk, HJ.out.2.2.2.2.2⟩)
    have c4 : w4.cell? ⟨g, 0, none⟩ = some (.slice (some ⟨gx, 0, none⟩) hs[0].1.length cx) := (hkk.cellAt (p := ⟨g, 0, none⟩) q3 (.inr (by show p + 1 ≤ g; omega))).trans c0
    have HO4 := Lib.hid (HON.out.kept hkk (.inr (by omega)))
    clear hc4 hg4 hkk hv N3
    refine hK.out _ _ ⟨HQ.out.2.1.two.1.2, c4⟩ ?_
    clear hK K hS0
    refine T_anytake (i := 8) (v := .pointer (some ⟨gx, 0, none⟩)) rfl (by kernel_rfl) (by kernel_rfl) (by kernel_rfl) (by kernel_rfl) (fun _ _ _ h => h) (by kernel_rfl) (fun w' => by go_simp <;> (intro hh; exact absurd hh hn1)) ?_
    have hoo := HO4.out.owns
    rw [intVals_len] at hoo
    obtain ⟨old, hmine⟩ : ∃ old : Int, w4.cell? ⟨gx, 0, none⟩ = some (.int .i64 old) := ⟨_, by rw [hoo.cellAt 0 (by omega)]; exact intVals_get _ 0 hn0⟩
    have hfree := hoo.frozenAt 0
    refine T_last (i := 9) rfl (by kernel_rfl) (by kernel_rfl) rfl rfl ?_
    go_simp
    have HE := Lib.hid (HQ.out.norm hp hl0 c4 HO4.out x)
    obtain ⟨⟨l0, l1⟩, lf0, lf1⟩ := HE.out.2.1.two
    obtain ⟨⟨r0, r1⟩, rf0, rf1⟩ := HE.out.1.two
    have hBB := HQ.out.2.2.2.2.2
    go_wp2
    refine bodyPost_ret (v := .agg #[.int .i64 ((1 + m : Nat) : Int), .slice (some ⟨g, 0, none⟩) hs.length vc]) (by simp [results, Try.results47, go_sem, r0, r1]) rfl (bent_end hp HE.out.e ⟨by simp only; omega, by simp only; omega, by rw [List.length_set]; exact HL.out.2.1, fun q hq => ?_⟩)
    rcases mem_set hq with hq | rfl
    · have := HL.out.2.2 q hq; omega
    · have := HL.out.2.2 hs[0] (List.getElem_mem hl0)
      simp only [List.length_set]; omega
  by_cases y3 : y = 3
  · subst y3
    have hBB := HJ.out.2.2.2.2.2
    have hBl := HJ.out.2.1.lt
    have N3 := Lib.hid (below1 w3 (.cells #[] 48))
    have KA := Lib.hid (HJ.out.2.1.alloc (.cells #[] 48))
    have KB := Lib.hid (HJ.out.1.alloc (.cells #[] 48))
    obtain ⟨⟨l0, l1⟩, lf0, lf1⟩ := HJ.out.2.1.two
    obtain ⟨⟨r0, r1⟩, rf0, rf1⟩ := HJ.out.1.two
    have hwl : w.heap.size < w3.heap.size := by omega
    have hne1 : ¬ w2.heap.size = w3.heap.size := by omega
    have hne2 : ¬ w.heap.size = w3.heap.size := by omega
    have HE := Lib.hid (show BentE base p w ((1 + m : Nat) : Int) (.slice (some ⟨w3.heap.size, 0, none⟩) 0 0) [] ((w3.alloc (.cells #[] 48)).setCell ⟨w2.heap.size, 1, none⟩ (.slice (some ⟨w3.heap.size, 0, none⟩) 0 0)) from
      ⟨KB.out.other (by show w2.heap.size ≠ _; omega) _, ((owh_empty (Nat.le_refl w3.heap.size)).kept ((Kept.refl w2.heap.size (w2.heap.size + 1) _).setCell (p := ⟨w2.heap.size, 1, none⟩) (Nat.le_refl _) (Nat.lt_succ_self _) _) (.inr (by omega))).mono (by omega) (by simp [World.setCell]), (HJ.out.2.2.2.1.below N3.out).belowB ((Below.refl w.heap.size _).setCell (p := ⟨w2.heap.size, 1, none⟩) (by show w.heap.size ≤ w2.heap.size; omega) _) hp, (HJ.out.2.2.2.2.1.then_below N3.out).andB ((Below.refl w.heap.size _).setCell (p := ⟨w2.heap.size, 1, none⟩) (by show w.heap.size ≤ w2.heap.size; omega) _)⟩)
    go_wp2
    obtain ⟨W, hW⟩ : ∃ W, W = (w3.alloc (.cells #[] 48)).setCell ⟨w2.heap.size, 1, none⟩ (.slice (some ⟨w3.heap.size, 0, none⟩) 0 0) := ⟨_, rfl⟩
    have hsw : ((((w3.setCell ⟨w2.heap.size, 1, none⟩ (.slice (some ⟨w3.heap.size, 0, none⟩) 0 0)).setCell ⟨w.heap.size, 0, none⟩ (.int .i64 (1 + (m : Int)))).setCell ⟨w.heap.size, 1, none⟩ (.slice (some ⟨w3.heap.size, 0, none⟩) 0 0)).alloc (.cells #[] 48)) = (W.setCell ⟨w.heap.size, 0, none⟩ (.int .i64 (1 + (m : Int)))).setCell ⟨w.heap.size, 1, none⟩ (.slice (some ⟨w3.heap.size, 0, none⟩) 0 0) := by
      rw [hW, World.setCell_alloc_past _ _ _ _ hBl, World.setCell_alloc_past _ _ _ _ (by simpa [World.setCell] using hwl), World.setCell_alloc_past _ _ _ _ (by simpa [World.setCell] using hwl)]
    rw [hsw]
    have HW := HE.out
    rw [← hW] at HW
    obtain ⟨⟨s0, s1⟩, -⟩ := HW.1.two
    exact bodyPost_ret (v := .agg #[.int .i64 ((1 + m : Nat) : Int), .slice (some ⟨w3.heap.size, 0, none⟩) 0 0]) (by simp [results, Try.results47, go_sem, s0, s1]) rfl (bent_end hp HW ⟨by simp only; omega, by simp only; omega, by simp, fun q hq => by simp at hq⟩)
  · obtain ⟨⟨l0, l1⟩, lf0, lf1⟩ := HJ.out.2.1.two
    obtain ⟨⟨r0, r1⟩, rf0, rf1⟩ := HJ.out.1.two
    have hBB := HJ.out.2.2.2.2.2
    have ne0 : (y == 0) = false := by rw [beq_eq_false_iff_ne]; exact y0
    have ne1 : (y == 1) = false := by rw [beq_eq_false_iff_ne]; exact y1
    have ne2 : (y == 2) = false := by rw [beq_eq_false_iff_ne]; exact y2
    have ne3 : (y == 3) = false := by rw [beq_eq_false_iff_ne]; exact y3
    go_wp2
    exact bodyPost_ret (v := .agg #[.int .i64 ((1 + m : Nat) : Int), .slice (some ⟨g, 0, none⟩) hs.length vc]) (by simp [results, Try.results47, go_sem, r0, r1]) rfl (bent_end hp HJ.out.e ⟨by simp only; omega, by simp only; omega, HL.out.2.1, fun q hq => by have := HL.out.2.2 q hq; omega⟩)
end Go.Proofs.Ytmogncpkdkdodaa
/- The draws of regions, points and slices. -/
namespace Go.Proofs.Ytmogncpkdkdodaa
open Go Go.RowKit Go.Lib

/-- A region was drawn out of a law's bytes; a region and a list; a region and two numbers. -/
def DrewGN (w : World) (P : Rgn → Prop) (e : Ending) (w' : World) : Prop := (∃ v r, e = .returned v ∧ P r ∧ OwG w.heap.size w'.heap.size w' v r) ∧ Below w.heap.size w w'
def DrewGL (w : World) (P : Rgn → List Int → Prop) (e : Ending) (w' : World) : Prop := (∃ v u r zs, e = .returned (.tuple #[v, u]) ∧ P r zs ∧ OwG w.heap.size w'.heap.size w' v r ∧ OwnV 3 w.heap.size w'.heap.size w' u (intVals zs)) ∧ Below w.heap.size w w'
def DrewGII (w : World) (P : Rgn → Int → Int → Prop) (e : Ending) (w' : World) : Prop := (∃ v r k n, e = .returned (.tuple #[v, .int .i64 k, .int .i64 n]) ∧ P r k n ∧ OwG w.heap.size w'.heap.size w' v r) ∧ Below w.heap.size w w'

set_option maxRecDepth 100000 in
theorem s_bit (b : Bool) (w : World) : Calls Try.prog 60 #[.bool b] w fun e w' => e = .returned (.int .i64 (if b = true then 1 else 0)) ∧ w = w' := by
  cases b with
  | true =>
    go_enter Try.func60, Try.ntmps60
    go_wp2
    go_ret
    exact ⟨rfl, rfl⟩
  | false =>
    go_enter Try.func60, Try.ntmps60
    go_wp2
    go_ret
    exact ⟨rfl, rfl⟩

set_option maxRecDepth 100000 in
set_option maxHeartbeats 800000 in
theorem d_pointsin (a : Option Addr) (c : Nat) (zs : List Int) (w0 w : World) (hbw : Below w0.heap.size w0 w) (hc : CodeIn w0 a zs) :
    Calls Try.prog 9 #[.slice a zs.length c] w (DrewGN w Bent) := by
  have HC := Lib.hid hc
  have B0 := Lib.hid (below1 w (.cells #[.int .i64 0, .slice none 0 0] 26))
  have K0 := Lib.hid (Bk.new w #[.int .i64 0, .slice none 0 0] 26)
  have HB0 := Lib.hid (hbw.trans (B0.out.mono hbw.size))
  clear hc hbw
  go_enter Try.func9, Try.ntmps9
  go_wp2_with fail
  refine (draw_new' a c zs w0 _ HB0.out HC.out).mono ?_
  rintro e w1 ⟨⟨p, rfl, hp, hcur⟩, hb1⟩
  have hp1 : w.heap.size + 1 ≤ p := by simpa using hp
  have HU1 := Lib.hid hcur
  have K1 := Lib.hid (K0.out.below hb1)
  have B1 := Lib.hid (B0.out.trans (hb1.mono B0.out.size))
  have hpl := hcur.lt
  clear hcur hb1 hp
  go_wp2_with fail
  refine (d_lbent _ p _ HU1.out).mono ?_
  rintro e w2 ⟨⟨v, r, rfl, hbent, V, rfl, ho⟩, hc2, hk2⟩
  obtain ⟨va, vc, rfl, _⟩ := ho.hs.shape
  have K2 := Lib.hid (K1.out.kept hk2 (.inl (by omega)))
  have B2 := Lib.hid (B1.out.trans (hk2.below (by omega) B1.out.size))
  have HO := Lib.hid ho
  have hs1 := B1.out.size
  have hk1 := K1.out.lt
  clear hc2 hk2 ho
  obtain ⟨⟨l0, l1⟩, lf0, lf1⟩ := K2.out.two
  go_wp2
  refine bodyPost_ret (v := .agg #[.int .i64 r.1, .slice va r.2.length vc]) (by simp [results, Try.results9, go_sem, l0, l1]) rfl ⟨⟨_, r, rfl, hbent, _, rfl, ?_⟩, (B2.out.setCell (p := ⟨w.heap.size, 0, none⟩) (Nat.le_refl _) _).setCell (p := ⟨w.heap.size, 1, none⟩) (Nat.le_refl _) _⟩
  exact (HO.out.kept (((Kept.refl w.heap.size (w.heap.size + 1) w2).setCell (p := ⟨w.heap.size, 0, none⟩) (Nat.le_refl _) (Nat.lt_succ_self _) _).setCell (p := ⟨w.heap.size, 1, none⟩) (Nat.le_refl _) (Nat.lt_succ_self _) _) (.inr (by omega))).mono (by omega) (by simp [World.setCell])

set_option maxRecDepth 100000 in
set_option maxHeartbeats 1600000 in
theorem d_haspoint (a : Option Addr) (c : Nat) (zs : List Int) (w0 w : World) (hbw : Below w0.heap.size w0 w) (hc : CodeIn w0 a zs) :
    Calls Try.prog 52 #[.slice a zs.length c] w (DrewGL w (fun r x => Bent r ∧ x.length ≤ 5 ∧ Bd x 4)) := by
  have HC := Lib.hid hc
  have B0 := Lib.hid (below1 w (.cells #[.int .i64 0, .slice none 0 0] 26))
  have K0 := Lib.hid (Bk.new w #[.int .i64 0, .slice none 0 0] 26)
  have HB0 := Lib.hid (hbw.trans (B0.out.mono hbw.size))
  clear hc hbw
  go_enter Try.func52, Try.ntmps52
  go_wp2_with fail
  refine (draw_new' a c zs w0 _ HB0.out HC.out).mono ?_
  rintro e w1 ⟨⟨p, rfl, hp, hcur⟩, hb1⟩
  have hp1 : w.heap.size + 1 ≤ p := by simpa using hp
  have HU1 := Lib.hid hcur
  have K1 := Lib.hid (K0.out.below hb1)
  have B1 := Lib.hid (B0.out.trans (hb1.mono B0.out.size))
  have hpl := hcur.lt
  clear hcur hb1 hp
  go_wp2_with fail
  refine (d_lbent _ p _ HU1.out).mono ?_
  rintro e w2 ⟨⟨v, r, rfl, hbent, V, rfl, ho⟩, hc2, hk2⟩
  obtain ⟨va, vc, rfl, _⟩ := ho.hs.shape
  have hs1 := B1.out.size
  have hk1 := K1.out.lt
  have K2 := Lib.hid ((K1.out.kept hk2 (.inl (by omega))).alloc (.cells #[.int .i64 r.1, .slice va r.2.length vc] 26))
  have X2 := Lib.hid (Bk.new w2 #[.int .i64 r.1, .slice va r.2.length vc] 26)
  have N2 := Lib.hid (below1 w2 (.cells #[.int .i64 r.1, .slice va r.2.length vc] 26))
  have B2 := Lib.hid ((B1.out.trans (hk2.below (by omega) B1.out.size)).trans (N2.out.mono (Nat.le_trans hs1 hk2.size)))
  have HO := Lib.hid (ho.below N2.out)
  have HU2 := Lib.hid (hc2.below N2.out)
  have hs2 := hk2.size
  clear hc2 hk2 ho
  obtain ⟨⟨x0, x1⟩, -⟩ := X2.out.two
  have hlt2 : w2.heap.size ≠ w.heap.size := by omega
  have hp2 : p < w2.heap.size := Nat.lt_of_lt_of_le hpl hs2
  go_wp2_with fail
  refine T_begin (z := fun k => 10 < k) (S := fun (w' : World) => w'.cell? ⟨w2.heap.size, 0, none⟩ = some (.int .i64 r.1) ∧ w'.cell? ⟨w2.heap.size, 1, none⟩ = some (.slice va r.2.length vc)) (by kernel_rfl) ?_
  show wpAnyT _ _ _ _ _ _ 12 _ _ _
  have hS0 := Lib.hid (show (fun (w' : World) => w'.cell? ⟨w2.heap.size, 0, none⟩ = some (.int .i64 r.1) ∧ w'.cell? ⟨w2.heap.size, 1, none⟩ = some (.slice va r.2.length vc)) _ from ⟨x0, x1⟩)
  refine T_take (i := 0) (v := .agg #[.int .i64 r.1, .slice va r.2.length vc]) rfl (by kernel_rfl) (by kernel_rfl) (by kernel_rfl) (by kernel_rfl) (fun _ _ _ h => h) hS0.out (by kernel_rfl) (fun w' hS' => by (try dsimp only at hS'); go_simp) ?_
  refine T_take (i := 1) (v := .pointer (some ⟨p, 0, none⟩)) rfl (by kernel_rfl) (by kernel_rfl) (by kernel_rfl) (by kernel_rfl) (fun _ _ _ h => h) hS0.out (by kernel_rfl) (fun w' hS' => by (try dsimp only at hS'); go_simp) ?_
  refine T_take (i := 2) (v := .pointer (some ⟨w2.heap.size, 0, none⟩)) rfl (by kernel_rfl) (by kernel_rfl) (by kernel_rfl) (by kernel_rfl) (fun _ _ _ h => h) hS0.out (by kernel_rfl) (fun w' hS' => by (try dsimp only at hS'); go_simp) ?_
  refine T_take (i := 3) (v := .int .i64 r.1) rfl (by kernel_rfl) (by kernel_rfl) (by kernel_rfl) (by kernel_rfl) (fun _ _ _ h => h) hS0.out (by kernel_rfl) (fun w' hS' => by (try dsimp only at hS'); go_simp) ?_
  refine T_take (i := 4) (v := .pointer (some ⟨p, 0, none⟩)) rfl (by kernel_rfl) (by kernel_rfl) (by kernel_rfl) (by kernel_rfl) (fun _ _ _ h => h) hS0.out (by kernel_rfl) (fun w' hS' => by (try dsimp only at hS'); go_simp) ?_
  refine T_step (i := 5) rfl (by kernel_rfl) rfl (by kernel_rfl) ?_
  intro K hK
  go_simp
  refine (d_once _ p 12 _ (HU2.out.below (Below.refl _ _).drew) (by omega) (by omega)).mono ?_
  rintro e w3 ⟨⟨bb, rfl⟩, hc3, hk3⟩
  have hk3' := (Kept.of_below (lo := p) (hi := p + 1) ((Below.refl _ _).drew)).trans hk3
  have HU3 := Lib.hid hc3
  have K3 := Lib.hid (K2.out.kept hk3' (.inl (by omega)))
  have X3 := Lib.hid (X2.out.kept hk3' (.inr (by omega)))
  have B3 := Lib.hid (B2.out.trans (hk3'.below (by omega) B2.out.size))
  have HO3 := Lib.hid (HO.out.kept hk3' (.inr (by omega)))
  have hs3 : w2.heap.size + 1 ≤ w3.heap.size := by have := hk3'.size; simpa using this
  clear hc3 hk3 hk3'
  refine hK.out _ _ X3.out.two.1 ?_
  clear hK K hS0
  refine T_step (i := 6) rfl (by kernel_rfl) rfl (by kernel_rfl) ?_
  intro K hK
  go_simp
  refine (s_bit bb _).mono ?_
  rintro e w4 ⟨rfl, rfl⟩
  obtain ⟨q, hq, q0, q1⟩ : ∃ q : Int, (if bb = true then (1 : Int) else 0) = q ∧ 0 ≤ q ∧ q ≤ 1 := ⟨_, rfl, by split <;> omega, by split <;> omega⟩
  rw [hq]
  refine hK.out _ _ X3.out.two.1 ?_
  clear hK K hq
  have hS1 := Lib.hid X3.out.two.1
  have hr0 := hbent.1
  have hr1 := hbent.2.1
  have hwq : IntKind.i64.wrap (r.1 + q) = r.1 + q := IntWalk.i64_in _ (by omega)
  refine T_take (i := 7) (v := .int .i64 (r.1 + q)) rfl (by kernel_rfl) (by kernel_rfl) (by kernel_rfl) (by kernel_rfl) (fun _ _ _ h => h) hS1.out (by kernel_rfl) (fun w' hS' => by (try dsimp only at hS'); go_simp) ?_
  refine T_step (i := 8) rfl (by kernel_rfl) rfl (by kernel_rfl) ?_
  intro K hK
  go_simp
  refine (s_max 1 (r.1 + q) _).mono ?_
  rintro e w4 ⟨rfl, rfl⟩
  obtain ⟨m, hm, m1⟩ : ∃ m : Nat, max 1 (r.1 + q) = m ∧ m ≤ 5 := ⟨(max 1 (r.1 + q)).toNat, by omega, by omega⟩
  rw [hm]
  refine hK.out _ _ X3.out.two.1 ?_
  clear hK K hS1
  refine T_step (i := 9) rfl (by kernel_rfl) rfl (by kernel_rfl) ?_
  intro K hK
  go_simp
  refine (d_draw _ p m 4 (by omega) (by omega) (by omega) _ HU3.out).mono ?_
  rintro e w5 ⟨⟨u, ys, rfl, ⟨hl, hbd⟩, ho5⟩, hc5, hk5⟩
  have K5 := Lib.hid (K3.out.kept hk5 (.inl (by omega)))
  have X5 := Lib.hid (X3.out.kept hk5 (.inr (by omega)))
  have B5 := Lib.hid (B3.out.trans (hk5.below (by omega) B3.out.size))
  have HO5 := Lib.hid (HO3.out.kept hk5 (.inr (by omega)))
  have HY5 := Lib.hid ho5
  have hs5 := hk5.size
  have HBD := Lib.hid hbd
  clear hc5 hk5 ho5 hbd
  refine hK.out _ _ X5.out.two.1 ?_
  clear hK K
  obtain ⟨⟨l0, l1⟩, lf0, lf1⟩ := K5.out.two
  refine T_step (i := 10) rfl (by kernel_rfl) rfl (by kernel_rfl) ?_
  intro K hK
  go_simp
  have hbb := ((Below.refl w.heap.size w5).setCell (p := ⟨w.heap.size, 0, none⟩) (Nat.le_refl _) (.int .i64 r.1)).setCell (p := ⟨w.heap.size, 1, none⟩) (Nat.le_refl _) (.slice va r.2.length vc)
  have hkb := (((Kept.refl w.heap.size (w.heap.size + 1) w5).setCell (p := ⟨w.heap.size, 0, none⟩) (Nat.le_refl _) (Nat.lt_succ_self _) (.int .i64 r.1)).setCell (p := ⟨w.heap.size, 1, none⟩) (Nat.le_refl _) (Nat.lt_succ_self _) (.slice va r.2.length vc))
  refine hK.out _ _ ((X5.out.kept hkb (.inr (by omega))).two.1) ?_
  clear hK K
  refine T_last (i := 11) rfl (by kernel_rfl) (by kernel_rfl) rfl rfl ?_
  go_simp
  go_wp2
  refine bodyPost_ret (v := .tuple #[.agg #[.int .i64 r.1, .slice va r.2.length vc], u]) (by simp [results, Try.results52, go_sem, l0, l1]) rfl ⟨⟨_, _, r, ys, rfl, ⟨hbent, by omega, HBD.out⟩, ⟨_, rfl, ?_⟩, ?_⟩, B5.out.trans hbb⟩
  · exact (HO5.out.kept hkb (.inr (by omega))).mono (by omega) (by simp [World.setCell]; omega)
  · exact (HY5.out.kept hkb (.inr (by omega))).mono (by omega) (by simp [World.setCell])

set_option maxRecDepth 100000 in
set_option maxHeartbeats 800000 in
theorem d_leastin (a : Option Addr) (c : Nat) (zs : List Int) (w0 w : World) (hbw : Below w0.heap.size w0 w) (hc : CodeIn w0 a zs) :
    Calls Try.prog 11 #[.slice a zs.length c] w (DrewGL w (fun r x => Bent r ∧ x.length ≤ 5 ∧ Bd x 4)) := by
  have HC := Lib.hid hc
  have B0 := Lib.hid (below1 w (.cells #[.int .i64 0, .slice none 0 0] 26))
  have K0 := Lib.hid (Bk.new w #[.int .i64 0, .slice none 0 0] 26)
  have HB0 := Lib.hid (hbw.trans (B0.out.mono hbw.size))
  clear hc hbw
  go_enter Try.func11, Try.ntmps11
  go_wp2_with fail
  refine (d_haspoint a c zs w0 _ HB0.out HC.out).mono ?_
  rintro e w1 ⟨⟨v, u, r, ys, rfl, hP, ⟨V, rfl, ho⟩, hy⟩, hb1⟩
  obtain ⟨va, vc, rfl, _⟩ := ho.hs.shape
  have K1 := Lib.hid ((K0.out.below hb1).alloc (.cells #[.int .i64 r.1, .slice va r.2.length vc] 26))
  have N1 := Lib.hid (below1 w1 (.cells #[.int .i64 r.1, .slice va r.2.length vc] 26))
  have X1 := Lib.hid (Bk.new w1 #[.int .i64 r.1, .slice va r.2.length vc] 26)
  have B1 := Lib.hid (B0.out.trans (hb1.mono B0.out.size))
  have hs1 : w.heap.size + 1 ≤ w1.heap.size := by have := hb1.size; simpa using this
  have HO := Lib.hid (ho.mono (lo' := w.heap.size + 1) (by simp) (Nat.le_refl _))
  have HY := Lib.hid (hy.mono (lo' := w.heap.size + 1) (by simp) (Nat.le_refl _))
  have hne1 : w1.heap.size ≠ w.heap.size := by omega
  have hlt1 : w.heap.size < w1.heap.size := by omega
  obtain ⟨⟨k0, k1⟩, kf0, kf1⟩ := (K0.out.below hb1).two
  clear hb1 ho hy
  go_wp2
  have hbb := ((Below.refl w.heap.size w1).setCell (p := ⟨w.heap.size, 0, none⟩) (Nat.le_refl _) (.int .i64 r.1)).setCell (p := ⟨w.heap.size, 1, none⟩) (Nat.le_refl _) (.slice va r.2.length vc)
  have hkb := (((Kept.refl w.heap.size (w.heap.size + 1) w1).setCell (p := ⟨w.heap.size, 0, none⟩) (Nat.le_refl _) (Nat.lt_succ_self _) (.int .i64 r.1)).setCell (p := ⟨w.heap.size, 1, none⟩) (Nat.le_refl _) (Nat.lt_succ_self _) (.slice va r.2.length vc))
  refine bodyPost_ret (v := .tuple #[.agg #[.int .i64 r.1, .slice va r.2.length vc], u]) (by simp [results, Try.results11, go_sem, k0, k1, hlt1, hne1]) rfl ⟨⟨_, _, r, ys, rfl, hP, ⟨_, rfl, ?_⟩, ?_⟩, (B1.out.trans hbb).alloc (B1.out.trans hbb).size _⟩
  · exact ((HO.out.kept hkb (.inr (Nat.le_refl _))).below (below1 _ _)).mono (by omega) (by simp [World.setCell])
  · exact ((HY.out.kept hkb (.inr (Nat.le_refl _))).below (below1 _ _)).mono (by omega) (by simp [World.setCell])

theorem pick_at {v : Value} (hv : v ∈ [Value.int .i64 0, .int .i64 1, .int .i64 (-1), .int .i64 2, .int .i64 3, .int .i64 6, .int .i64 7, .int .i64 (-7)]) : ∃ x : Int, v = .int .i64 x ∧ -7 ≤ x ∧ x ≤ 7 := by
  simp only [List.mem_cons, List.not_mem_nil, or_false] at hv
  rcases hv with h | h | h | h | h | h | h | h <;> exact ⟨_, h, by omega, by omega⟩

set_option maxRecDepth 100000 in
set_option maxHeartbeats 1600000 in
theorem d_sliceof (a : Option Addr) (c : Nat) (zs : List Int) (w0 w : World) (hbw : Below w0.heap.size w0 w) (hc : CodeIn w0 a zs) :
    Calls Try.prog 16 #[.slice a zs.length c] w (DrewGII w (fun r k n => Bent r ∧ -1 ≤ k ∧ k ≤ 2 ∧ -7 ≤ n ∧ n ≤ 7)) := by
  have HC := Lib.hid hc
  have B0 := Lib.hid (below1 w (.cells #[.int .i64 0, .slice none 0 0] 26))
  have K0 := Lib.hid (Bk.new w #[.int .i64 0, .slice none 0 0] 26)
  have HB0 := Lib.hid (hbw.trans (B0.out.mono hbw.size))
  clear hc hbw
  go_enter Try.func16, Try.ntmps16
  go_wp2_with fail
  refine (draw_new' a c zs w0 _ HB0.out HC.out).mono ?_
  rintro e w1 ⟨⟨p, rfl, hp, hcur⟩, hb1⟩
  have hp1 : w.heap.size + 1 ≤ p := by simpa using hp
  have HU1 := Lib.hid hcur
  have K1 := Lib.hid (K0.out.below hb1)
  have B1 := Lib.hid (B0.out.trans (hb1.mono B0.out.size))
  have hpl := hcur.lt
  clear hcur hb1 hp
  go_wp2_with fail
  refine (d_lbent _ p _ HU1.out).mono ?_
  rintro e w2 ⟨⟨v, r, rfl, hbent, V, rfl, ho⟩, hc2, hk2⟩
  obtain ⟨va, vc, rfl, _⟩ := ho.hs.shape
  have hs1 := B1.out.size
  have hk1 := K1.out.lt
  have K2 := Lib.hid ((K1.out.kept hk2 (.inl (by omega))).alloc (.cells #[.int .i64 r.1, .slice va r.2.length vc] 26))
  have X2 := Lib.hid (Bk.new w2 #[.int .i64 r.1, .slice va r.2.length vc] 26)
  have N2 := Lib.hid (below1 w2 (.cells #[.int .i64 r.1, .slice va r.2.length vc] 26))
  have B2 := Lib.hid ((B1.out.trans (hk2.below (by omega) B1.out.size)).trans (N2.out.mono (Nat.le_trans hs1 hk2.size)))
  have HO := Lib.hid (ho.below N2.out)
  have HU2 := Lib.hid (hc2.below N2.out)
  have hs2 := hk2.size
  clear hc2 hk2 ho
  have hlt2 : w2.heap.size ≠ w.heap.size := by omega
  have hp2 : p < w2.heap.size := Nat.lt_of_lt_of_le hpl hs2
  go_wp2_with fail
  refine (draw_below _ p 3 _ HU2.out (by omega) (by omega)).mono ?_
  rintro e w3 ⟨⟨v, rfl, x, rfl, x0, x1⟩, hc3, hg3⟩
  have hk3 := Kept.of_grown hg3
  have HU3 := Lib.hid hc3
  have K3 := Lib.hid (K2.out.kept hk3 (.inl (by omega)))
  have X3 := Lib.hid (X2.out.kept hk3 (.inr (by omega)))
  have B3 := Lib.hid (B2.out.trans (hk3.below (by omega) B2.out.size))
  have HO3 := Lib.hid (HO.out.kept hk3 (.inr (by omega)))
  have hs3 : w2.heap.size + 1 ≤ w3.heap.size := by have := hk3.size; simpa using this
  clear hc3 hg3 hk3
  go_wp2_with fail
  refine (d_once _ p 10 _ HU3.out (by omega) (by omega)).mono ?_
  rintro e w4 ⟨⟨bb, rfl⟩, hc4, hk4⟩
  have HU4 := Lib.hid hc4
  have K4 := Lib.hid (K3.out.kept hk4 (.inl (by omega)))
  have X4 := Lib.hid (X3.out.kept hk4 (.inr (by omega)))
  have B4 := Lib.hid (B3.out.trans (hk4.below (by omega) B3.out.size))
  have HO4 := Lib.hid (HO3.out.kept hk4 (.inr (by omega)))
  have hs4 := hk4.size
  clear hc4 hk4
  go_wp2_with fail
  refine (s_bit bb _).mono ?_
  rintro e w5 ⟨rfl, rfl⟩
  obtain ⟨q, hq, q0, q1⟩ : ∃ q : Int, (if bb = true then (1 : Int) else 0) = q ∧ 0 ≤ q ∧ q ≤ 1 := ⟨_, rfl, by split <;> omega, by split <;> omega⟩
  rw [hq]
  clear hq
  obtain ⟨⟨x0', x1'⟩, -⟩ := X4.out.two
  go_wp2_with fail
  refine T_begin (z := fun k => 6 < k) (S := fun (w' : World) => w'.cell? ⟨w2.heap.size, 0, none⟩ = some (.int .i64 r.1) ∧ w'.cell? ⟨w2.heap.size, 1, none⟩ = some (.slice va r.2.length vc)) (by kernel_rfl) ?_
  show wpAnyT _ _ _ _ _ _ 8 _ _ _
  have hS0 := Lib.hid (show (fun (w' : World) => w'.cell? ⟨w2.heap.size, 0, none⟩ = some (.int .i64 r.1) ∧ w'.cell? ⟨w2.heap.size, 1, none⟩ = some (.slice va r.2.length vc)) _ from ⟨x0', x1'⟩)
  refine T_take (i := 0) (v := .agg #[.int .i64 r.1, .slice va r.2.length vc]) rfl (by kernel_rfl) (by kernel_rfl) (by kernel_rfl) (by kernel_rfl) (fun _ _ _ h => h) hS0.out (by kernel_rfl) (fun w' hS' => by (try dsimp only at hS'); go_simp) ?_
  refine T_take (i := 1) (v := .int .i64 (x - q)) rfl (by kernel_rfl) (by kernel_rfl) (by kernel_rfl) (by kernel_rfl) (fun _ _ _ h => h) hS0.out (by kernel_rfl) (fun w' hS' => by (try dsimp only at hS'); go_simp) ?_
  refine T_take (i := 2) (v := .pointer (some ⟨p, 0, none⟩)) rfl (by kernel_rfl) (by kernel_rfl) (by kernel_rfl) (by kernel_rfl) (fun _ _ _ h => h) hS0.out (by kernel_rfl) (fun w' hS' => by (try dsimp only at hS'); go_simp) ?_
  refine T_step (i := 3) rfl (by kernel_rfl) rfl (by kernel_rfl) ?_
  intro K hK
  go_simp
  have N5 := Lib.hid (below1 w4 (.cells #[Value.int .i64 0, .int .i64 1, .int .i64 (-1), .int .i64 2, .int .i64 3, .int .i64 6, .int .i64 7, .int .i64 (-7)] 3))
  refine hK.out _ _ ((X4.out.alloc _).two.1) ?_
  clear hK K hS0
  refine T_step (i := 4) rfl (by kernel_rfl) rfl (by kernel_rfl) ?_
  intro K hK
  go_simp
  refine (draw_pick_int _ p w4.heap.size [Value.int .i64 0, .int .i64 1, .int .i64 (-1), .int .i64 2, .int .i64 3, .int .i64 6, .int .i64 7, .int .i64 (-7)] _ ((HU4.out.below N5.out).below ((Below.refl _ _).drew)) (by decide) (by decide) (Nat.ne_of_gt HU4.out.lt) (heap_alloc_new w4 _)).mono ?_
  rintro e w6 ⟨⟨v4, rfl, hv⟩, hc6, hg6⟩
  obtain ⟨y, rfl, y0, y1⟩ := pick_at hv
  have hk6 := (Kept.of_below (lo := p) (hi := p + 1) (N5.out.drew)).trans (Kept.of_grown hg6)
  have K6 := Lib.hid (K4.out.kept hk6 (.inl (by omega)))
  have X6 := Lib.hid (X4.out.kept hk6 (.inr (by omega)))
  have B6 := Lib.hid (B4.out.trans (hk6.below (by omega) B4.out.size))
  have HO6 := Lib.hid (HO4.out.kept hk6 (.inr (by omega)))
  have hs6 := hk6.size
  clear hc6 hg6 hk6 hv N5
  refine hK.out _ _ X6.out.two.1 ?_
  clear hK K
  obtain ⟨⟨l0, l1⟩, lf0, lf1⟩ := K6.out.two
  refine T_step (i := 5) rfl (by kernel_rfl) rfl (by kernel_rfl) ?_
  intro K hK
  go_simp
  have hbb := ((Below.refl w.heap.size w6).setCell (p := ⟨w.heap.size, 0, none⟩) (Nat.le_refl _) (.int .i64 r.1)).setCell (p := ⟨w.heap.size, 1, none⟩) (Nat.le_refl _) (.slice va r.2.length vc)
  have hkb := (((Kept.refl w.heap.size (w.heap.size + 1) w6).setCell (p := ⟨w.heap.size, 0, none⟩) (Nat.le_refl _) (Nat.lt_succ_self _) (.int .i64 r.1)).setCell (p := ⟨w.heap.size, 1, none⟩) (Nat.le_refl _) (Nat.lt_succ_self _) (.slice va r.2.length vc))
  refine hK.out _ _ ((X6.out.kept hkb (.inr (by omega))).two.1) ?_
  clear hK K
  refine T_step (i := 6) rfl (by kernel_rfl) rfl rfl ?_
  intro K hK
  go_simp
  refine hK.out _ _ ((X6.out.kept hkb (.inr (by omega))).two.1) ?_
  clear hK K
  refine T_last (i := 7) rfl (by kernel_rfl) (by kernel_rfl) rfl rfl ?_
  go_simp
  go_wp2
  refine bodyPost_ret (v := .tuple #[.agg #[.int .i64 r.1, .slice va r.2.length vc], .int .i64 (x - q), .int .i64 y]) (by simp [results, Try.results16, go_sem, l0, l1]) rfl ⟨⟨_, r, _, _, rfl, ⟨hbent, by omega, by omega, y0, y1⟩, ⟨_, rfl, ?_⟩⟩, B6.out.trans hbb⟩
  exact (HO6.out.kept hkb (.inr (by omega))).mono (by omega) (by simp [World.setCell]; omega)
end Go.Proofs.Ytmogncpkdkdodaa
