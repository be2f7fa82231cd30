/- The program's pointsOf: the points of a region, three numbers each. -/
import Derived.Test.YtmogncpkdkdodaaPtD
namespace Go.Proofs.Ytmogncpkdkdodaa
open Go Go.RowKit Go.Lib Go.Shelf

attribute [local go_sem] Oper.semAt_some

/-- The points of a region, three numbers each. -/
def triR (n : Int) (hs : List Hf) : List (List Int) := (trip n).filter (inA hs)
/-- What pointsOf's function reads: the region's box, the box of the halves, the halves. -/
def PoH (B G g c : Nat) (n : Int) (U : Value) (hs : List Hf) (W : World) : Prop :=
  Bk W B #[.int .i64 n, U] 26 ∧ Bk W G #[.slice (some ⟨g, 0, none⟩) hs.length c] 88 ∧ OwF 91 g (g + 1) W (.slice (some ⟨g, 0, none⟩) hs.length c) hs
/-- What pointsOf leaves: the function that yields the points of the region. -/
def SeqPts (w : World) (n : Int) (hs : List Hf) (e : Ending) (w' : World) : Prop :=
  ∃ B G g c U, e = .returned (.func (.func 97) #[] #[.pointer (some ⟨B, 0, none⟩), .pointer (some ⟨G, 0, none⟩)]) ∧ PoH B G g c n U hs w' ∧ Below w.heap.size w w' ∧ w.heap.size ≤ B ∧ w.heap.size ≤ G ∧ w.heap.size ≤ g
theorem OwF.tight {T : TypeId} {lo hi : Nat} {w : World} {g n c : Nat} {hs : List Hf} (h : OwF T lo hi w (.slice (some ⟨g, 0, none⟩) n c) hs) : OwF T g (g + 1) w (.slice (some ⟨g, 0, none⟩) n c) hs ∧ lo ≤ g ∧ g < w.heap.size := by
  obtain ⟨⟨h1, h2⟩, h3⟩ := h
  rcases h2 with ⟨e, _⟩ | ⟨g', cap, cur, e, hg, hh, hr⟩
  · cases e
  · simp only [Value.slice.injEq, Option.some.injEq, Addr.mk.injEq, and_true] at e
    obtain ⟨rfl, e2, rfl⟩ := e
    exact ⟨⟨⟨h1, .inr ⟨g, c, cur, by rw [e2], Nat.le_refl _, hh, hr⟩⟩, fun b hb => by simp [Value.ownBlock] at hb; omega⟩, hg, lt_of_heap hh⟩

theorem half_lens3 {n : Int} {hs : List Hf} (h : regOk n hs = true) (k : Nat) (hk : k < hs.length) : 1 ≤ hs[k].1.length ∧ hs[k].1.length ≤ 3 := by
  have := halfOk_t ((regOk_t h).2.2.2 k hk)
  omega

set_option maxRecDepth 100000 in
set_option maxHeartbeats 800000 in
theorem i_points (r : Rgn) (v : Value) (w : World) (hv : Rg w v r) (hr : regOk r.1 r.2 = true) :
    Calls Try.prog 50 #[v] w (SeqPts w r.1 r.2) := by
  obtain ⟨n, hs'⟩ := r
  have HR := Lib.hid hv
  obtain ⟨u, rfl, hss⟩ := hv
  have HL := Lib.hid (half_lens3 hr)
  have H8 := (regOk_t hr).2.2.1
  simp only at hss H8 ⊢
  have K := Lib.hid (Bk.new w #[.int .i64 n, u] 26)
  have B0 := Lib.hid (below1 w (.cells #[.int .i64 n, u] 26))
  obtain ⟨⟨l0, l1⟩, -⟩ := K.out.two
  clear hss hr
  go_enter Try.func50, Try.ntmps50
  go_wp2_with fail
  refine (i_fixed (n, hs') _ _ (HR.out.below B0.out) HL.out H8).mono ?_
  rintro e w1 ⟨⟨g, c, rfl, ho⟩, hb⟩
  obtain ⟨ho2, hg1, hg2⟩ := ho.tight
  have HO := Lib.hid ho2
  have HB := Lib.hid (B0.out.trans (hb.mono B0.out.size))
  have HK := Lib.hid (K.out.below hb)
  have HG := Lib.hid (show w.heap.size ≤ g by have := B0.out.size; omega)
  clear ho ho2 hb hg1 hg2 l0 l1
  go_wp2_with fail
  go_ret
  refine ⟨w.heap.size, w1.heap.size, g, c, u, rfl, ⟨HK.out.alloc _, Bk.new _ _ _, HO.out.below (below1 _ _)⟩, HB.out.alloc HB.out.size _, Nat.le_refl _, HB.out.size, HG.out⟩

theorem edge_le (n : Int) (k : Nat) : edge n k ≤ 6 := by unfold edge; split <;> omega
theorem PoH.fol {B G g c : Nat} {n : Int} {U : Value} {hs : List Hf} {W W' : World} {T : Bs} (h : PoH B G g c n U hs W) (hf : Fol T W W') (hT : ¬ T B ∧ ¬ T G ∧ ¬ T g) : PoH B G g c n U hs W' := by
  obtain ⟨h1, h2, h3⟩ := h
  refine ⟨hf.bk h1 hT.1, hf.bk h2 hT.2.1, ?_, h3.2⟩
  obtain ⟨⟨k1, k2⟩, _⟩ := h3
  refine ⟨k1, ?_⟩
  rcases k2 with k2 | ⟨g', cap, cur, e, hg, hh, hr⟩
  · exact .inl k2
  · have e2 := e
    simp only [Value.slice.injEq, Option.some.injEq, Addr.mk.injEq, and_true] at e2
    obtain ⟨rfl, _⟩ := e2
    exact .inr ⟨g, cap, cur, e, hg, (hf.block g (lt_of_heap hh) hT.2.2).trans hh, hr⟩
theorem filter_snoc {α : Type} (p : α → Bool) (l : List α) (x : α) : (l ++ [x]).filter p = l.filter p ++ (if p x = true then [x] else []) := by
  rw [List.filter_append]
  congr 1
  by_cases h : p x = true
  · simp [h]
  · simp [h]
theorem filter_prefix {α : Type} (p : α → Bool) {l m : List α} (h : l <+: m) : l.filter p <+: m.filter p := by
  obtain ⟨s, rfl⟩ := h
  exact ⟨s.filter p, by rw [List.filter_append]⟩

theorem leave_fol {T T' : Bs} {W w1 W2 : World} (o : Obj) (hb : Below W.heap.size W w1) (hg : Grew T T' w1) (hf : Fol T w1 W2) : Grew T T' W ∧ Fol T W (W2.putObj w1.heap.size o) := by
  have hs := hb.size
  refine ⟨fun k hk => (hg k hk).imp id (fun e => by omega), ?_, fun k hk ht => (World.putObj_heap_other (by omega)).trans ((hf.block k (by omega) ht).trans (hb.block k hk))⟩
  exact ((hb.mono (Nat.zero_le _)).trans hf.below).trans (putObj_fol W2 w1.heap.size o (T := fun k => k = w1.heap.size) (.inl rfl)).below
theorem half_small {n : Int} {hs : List Hf} (h : regOk n hs = true) (k : Nat) (hk : k < hs.length) : (-1000 ≤ hs[k].1.getD 0 0 ∧ hs[k].1.getD 0 0 ≤ 1000) ∧ (-1000 ≤ hs[k].1.getD 1 0 ∧ hs[k].1.getD 1 0 ≤ 1000) ∧ (-1000 ≤ hs[k].1.getD 2 0 ∧ hs[k].1.getD 2 0 ≤ 1000) := by
  have hb := (halfOk_t ((regOk_t h).2.2.2 k hk)).2.2.2.1
  have key : ∀ i : Nat, -1000 ≤ hs[k].1.getD i 0 ∧ hs[k].1.getD i 0 ≤ 1000 := fun i => by
    rw [List.getD_eq_getElem?_getD]
    by_cases hi : i < hs[k].1.length
    · rw [List.getElem?_eq_getElem hi]
      have := hb i hi
      simp only [Option.getD_some]; omega
    · rw [List.getElem?_eq_none (by omega)]
      simp
  exact ⟨key 0, key 1, key 2⟩

/-- What holds at the body's start: the box of the point is there. -/
def PtMid (J : List (List Int) → Bs → World → Prop) (f : List Int → Bool) (act : List Int → Nat → Act) (x : List Int) (a' : Act) (pre : List (List Int)) (T' : Bs) (W' : World) : Prop :=
  ∃ (T : Bs) (X : Nat), T' = (fun k => T k ∨ k = X) ∧ ¬ T X ∧ J (pre.filter f) T W' ∧ Bk W' X #[.int .i64 (x.getD 0 0), .int .i64 (x.getD 1 0), .int .i64 (x.getD 2 0)] 77 ∧ a' = act x X
theorem ptmid_sep {J : List (List Int) → Bs → World → Prop} (h : Sep J) (f : List Int → Bool) (act : List Int → Nat → Act) (x : List Int) (a' : Act) : Sep (PtMid J f act x a') := by
  refine ⟨fun s T w hj k hk => ?_, fun s T w w' hj hb hk => ?_⟩
  · obtain ⟨T0, X, rfl, h1, h2, h3, _⟩ := hj
    rcases hk with hk | rfl
    · exact h.lt _ _ _ h2 k hk
    · exact h3.lt
  · obtain ⟨T0, X, rfl, h1, h2, h3, h4⟩ := hj
    exact ⟨T0, X, rfl, h1, h.keep _ _ _ _ h2 hb (fun k e => hk k (.inl e)), (hk X (.inr rfl)).trans h3, h4⟩
theorem sep_map {α β : Type} {J : α → Bs → World → Prop} (h : Sep J) (f : β → α) : Sep (fun s => J (f s)) := ⟨fun s => h.lt (f s), fun s => h.keep (f s)⟩
theorem sep_and {α : Type} {J : α → Bs → World → Prop} (h : Sep J) (P : α → Prop) : Sep (fun s T w => P s ∧ J s T w) := ⟨fun s T w e => h.lt s T w e.2, fun s T w w' e hb hk => ⟨e.1, h.keep s T w w' e.2 hb hk⟩⟩

set_option maxRecDepth 100000 in
set_option maxHeartbeats 3200000 in
theorem i_points1 (B G g c : Nat) (n : Int) (U : Value) (hs : List Hf) (hr : regOk n hs = true) :
    SeqT Try.prog 97 #[.pointer (some ⟨B, 0, none⟩), .pointer (some ⟨G, 0, none⟩)] encN (triR n hs) (fun k => k = B ∨ k = G ∨ k = g) (PoH B G g c n U hs) := by
  intro l J Jx T W sJ sJx hH hU hY hJ0
  obtain ⟨m, rfl⟩ : ∃ m : Nat, n = m := ⟨n.toNat, by have := (regOk_t hr).1; omega⟩
  have hm1 : 1 ≤ m := by have := (regOk_t hr).1; omega
  have hm3 : m ≤ 3 := by have := (regOk_t hr).2.1; omega
  have HT := Lib.hid (show ¬ T B ∧ ¬ T G ∧ ¬ T g from ⟨fun e => hU _ e (.inl rfl), fun e => hU _ e (.inr (.inl rfl)), fun e => hU _ e (.inr (.inr rfl))⟩)
  have HTlt := Lib.hid (fun k e => sJ.lt _ _ _ hJ0 k e)
  have HH := Lib.hid hH
  have HY := Lib.hid hY
  have HJ := Lib.hid hJ0
  have HR := Lib.hid hr
  have KY := Lib.hid (Bk.new W #[.func (.yield l) #[] #[]] 118)
  have B0 := Lib.hid (below1 W (.cells #[.func (.yield l) #[] #[]] 118))
  have d0 : (W.alloc (.cells #[.func (.yield l) #[] #[]] 118)).cell? ⟨B, 0, none⟩ = some (.int .i64 m) := (hH.1.alloc _).cell 0 rfl
  clear hU hY hH hr hJ0
  refine callsIn_of_wp_marks Try.func97 rfl trivial ?_ rfl
  simp only [Try.ntmps97, List.size_toArray, List.length_cons, List.length_nil, Nat.reduceAdd, Nat.reduceSub, Array.replicate_succ, Array.replicate_zero, List.push_toArray, List.append_toArray, List.nil_append, List.cons_append]
  gi_wp2_with (refine ⟨trivial, ?_⟩; gi_at_call 98; refine (callsIn_wide.2 (i_box m hm1 hm3 _)).mono ?_; rintro e w1 ⟨rfl, hE, hb⟩)
  rw [World.size_alloc] at hE
  have HB1 := Lib.hid (B0.out.trans (hb.mono (by simp)))
  have HY1 := Lib.hid (KY.out.below hb)
  have HE := Lib.hid hE
  clear hb hE d0
  have hyt : ¬ T W.heap.size := fun e => by have := HTlt.out _ e; omega
  have het : ¬ T (W.heap.size + 1) := fun e => by have := HTlt.out _ e; omega
  refine wp_rangeT (gf := 126) (lb := #[.pointer (some ⟨W.heap.size + 1, 0, none⟩)]) rfl (enters_of Try.func126 (by kernel_rfl) rfl)
    (i_box1 (W.heap.size + 1) (edge m 0) (edge m 1) (edge m 2) (edge_le _ _) (edge_le _ _) (edge_le _ _)) (fun w' hb => HE.out.below hb) (fun _ => rfl)
    (fun pre T' W' => J (pre.filter (inA hs)) T' W') (fun cc pre T' W' => cc = .ret ∧ Jx (pre.filter (inA hs)) T' W')
    (PtMid J (inA hs) (fun x X => { tmps := #[.func (.yield l) #[] #[], .pointer (some ⟨B, 0, none⟩), .pointer (some ⟨G, 0, none⟩), .pointer (some ⟨W.heap.size, 0, none⟩), .pointer (some ⟨X, 0, none⟩), .pointer (some ⟨B, 0, none⟩), .int .i64 m,
      .func (.func 126) #[] #[.pointer (some ⟨W.heap.size + 1, 0, none⟩)], .agg #[.int .i64 (x.getD 0 0), .int .i64 (x.getD 1 0), .int .i64 (x.getD 2 0)], undef, undef, undef, undef, undef, undef, undef, undef, undef], defers := [] }))
    (sep_map sJ _) (fun cc => sep_and (sep_map sJx _) _) (fun x a' => ptmid_sep sJ _ _ x a') T (sJ.later HJ.out HB1.out) (fun k hk => by subst hk; exact ⟨HE.out.lt, het⟩) ?assign ?body ?done ?stop
  case assign =>
    intro l2 pre x T2 W2 hsz hj hg hf hpre
    have HJ2 := Lib.hid hj
    have HX := Lib.hid (Bk.new W2 #[.int .i64 (x.getD 0 0), .int .i64 (x.getD 1 0), .int .i64 (x.getD 2 0)] 77)
    have hx2 := Lib.hid (fun e => by have := sJ.lt _ _ _ hj _ e; omega : ¬ T2 W2.heap.size)
    clear hj hg hf hpre
    unfold encN nums3
    gi_wp2
    refine ⟨fun k => T2 k ∨ k = W2.heap.size, fun k hk => hk.elim .inl (fun e => .inr (by omega)), (Fol.refl _ _).alloc _, T2, W2.heap.size, rfl, hx2.out, sJ.later HJ2.out (below1 _ _), HX.out, rfl⟩
  case body =>
    rintro l2 pre x a' T' W2 hsz ⟨T2, X, rfl, hX, hJ, hBx, rfl⟩ hg hf hpre
    obtain ⟨q1, q2, q3, rfl, b1, b2, b3, _, _⟩ := trip_mem (n := m) (t := x) (hpre.subset (List.mem_append_right _ (List.mem_singleton.2 rfl)))
    simp only [List.getD_cons_zero, List.getD_cons_succ] at hBx ⊢
    have HPo := Lib.hid ((HH.out.fol (Fol.of_below (T := T) HB1.out) HT.out).fol hf HT.out)
    have KY2 := Lib.hid (hf.bk HY1.out hyt)
    have HX := Lib.hid hBx
    have HJ2 := Lib.hid hJ
    have HX2 := Lib.hid hX
    have HG2 := Lib.hid (show Grew T T2 W from fun k hk => (hg k (.inl hk)).imp id (fun e => by have := HB1.out.size; omega))
    have HF2 := Lib.hid (show Fol T W W2 from (Fol.of_below (T := T) HB1.out).trans (Grew.refl _ _) hf)
    have HP := Lib.hid hpre
    obtain ⟨x0, x1, x2⟩ := hBx.c3
    have y0 : W2.cell? ⟨W.heap.size, 0, none⟩ = some (.func (.yield l) #[] #[]) := KY2.out.cell 0 rfl
    have g0 : W2.cell? ⟨G, 0, none⟩ = some (.slice (some ⟨g, 0, none⟩) hs.length c) := HPo.out.2.1.cell 0 rfl
    have CI := Lib.hid (i_inall hs q1 q2 q3 g c g (g + 1) W2 HPo.out.2.2 (regOk_t HR.out).2.2.1 (half_small HR.out) (by omega) (by omega) (by omega))
    clear hg hf hpre hJ hBx hX b1 b2 b3
    by_cases hin : inA hs [q1, q2, q3] = true
    · have HFil := Lib.hid (show (pre ++ [[q1, q2, q3]]).filter (inA hs) = pre.filter (inA hs) ++ [[q1, q2, q3]] by rw [filter_snoc, if_pos hin])
      have HPre := Lib.hid (show pre.filter (inA hs) ++ [[q1, q2, q3]] <+: triR m hs by rw [← HFil.out]; exact filter_prefix _ HP.out)
      have HIn := Lib.hid hin
      clear hin
      gi_wp2_with (refine ⟨trivial, ?_⟩; gi_at_call 80; refine (CallsIn.inRound l2 (callsIn_wide.2 CI.out)).mono ?_; rintro e w3 ⟨rfl, hb3⟩; rw [HIn.out]; have x0' := (hb3.cell (p := ⟨X, 0, none⟩) HX.out.lt).trans x0; have x1' := (hb3.cell (p := ⟨X, 1, none⟩) HX.out.lt).trans x1; have x2' := (hb3.cell (p := ⟨X, 2, none⟩) HX.out.lt).trans x2; have y0' := (hb3.cell (p := ⟨W.heap.size, 0, none⟩) KY2.out.lt).trans y0; obtain ⟨fn, tmps, assign, body, hy, hR⟩ := HY.out (pre.filter (inA hs)) [q1, q2, q3] T2 w3 (sJ.later HJ2.out hb3) HG2.out (HF2.out.then_below hb3) HPre.out; have HRo := Lib.hid hR; clear hR; replace hy : (Instr.yield l #[.agg #[.int .i64 q1, .int .i64 q2, .int .i64 q3]]).run Try.prog w3 = .ok (.round l fn tmps assign body) w3 := hy)
      refine (RoundIn.into l2 HRo.out).mono ?_
      have HF3 := Lib.hid (Fol.of_below (T := T2) hb3)
      clear hb3 hy x0 x1 x2 x0' x1' x2' y0 y0' g0
      rintro e w4 ⟨T4, hg4, hf4, ⟨rfl, hJ4⟩ | ⟨rfl, hJ4⟩⟩
      · have HG4 := Lib.hid (show Grew (fun k => T2 k ∨ k = X) T4 W2 from fun k hk => (hg4 k hk).imp .inl (fun e => Nat.le_trans HF3.out.size e))
        have HF4 := Lib.hid (show Fol (fun k => T2 k ∨ k = X) W2 w4 from (HF3.out.trans (Grew.refl _ _) hf4).mono (fun _ _ e => .inl e))
        have HJ4 := Lib.hid hJ4
        clear hg4 hf4 hJ4
        gi_wp2
        exact ⟨T4, HG4.out, HF4.out, by dsimp only; rw [HFil.out]; exact HJ4.out⟩
      · have HG4 := Lib.hid (show Grew (fun k => T2 k ∨ k = X) T4 W2 from fun k hk => (hg4 k hk).imp .inl (fun e => Nat.le_trans HF3.out.size e))
        have HF4 := Lib.hid (show Fol (fun k => T2 k ∨ k = X) W2 w4 from (HF3.out.trans (Grew.refl _ _) hf4).mono (fun _ _ e => .inl e))
        have HJ4 := Lib.hid hJ4
        clear hg4 hf4 hJ4
        gi_wp2
        exact ⟨T4, HG4.out, HF4.out, rfl, by rw [HFil.out]; exact HJ4.out⟩
    · have HFil := Lib.hid (show (pre ++ [[q1, q2, q3]]).filter (inA hs) = pre.filter (inA hs) by rw [filter_snoc, if_neg hin, List.append_nil])
      have HIn := Lib.hid (bool_f hin)
      clear hin
      gi_wp2_with (refine ⟨trivial, ?_⟩; gi_at_call 80; refine (CallsIn.inRound l2 (callsIn_wide.2 CI.out)).mono ?_; rintro e w3 ⟨rfl, hb3⟩; rw [HIn.out])
      have HB3 := Lib.hid hb3
      clear hb3
      refine ⟨fun _ h => (by cases h), ?_⟩
      gi_wp2
      exact ⟨T2, fun k hk => .inl (.inl hk), Fol.of_below HB3.out, by dsimp only; rw [HFil.out]; exact sJ.later HJ2.out HB3.out⟩
  case done =>
    intro T' W2 hg hf hsz hj hn hK
    gi_wp2
    refine ⟨by simp, .inl ⟨_, _, rfl, run_takeDeferred hK, ?_⟩⟩
    obtain ⟨k1, k2⟩ := leave_fol (.deferred none) HB1.out hg hf
    exact ⟨_, results_none rfl _ _ _, ⟨_, rfl⟩, T', k1, k2, .inl (sJ.putObj _ hj hn)⟩
  case stop =>
    rintro cc pre T' W2 hg hf hsz hpre ⟨rfl, hj⟩ hn hK
    gi_wp2
    refine ⟨by simp, .inl ⟨_, _, rfl, run_takeDeferred hK, ?_⟩⟩
    obtain ⟨k1, k2⟩ := leave_fol (.deferred none) HB1.out hg hf
    exact ⟨_, results_none rfl _ _ _, ⟨_, rfl⟩, T', k1, k2, .inr ⟨_, filter_prefix _ hpre, sJx.putObj _ hj hn⟩⟩
end Go.Proofs.Ytmogncpkdkdodaa
