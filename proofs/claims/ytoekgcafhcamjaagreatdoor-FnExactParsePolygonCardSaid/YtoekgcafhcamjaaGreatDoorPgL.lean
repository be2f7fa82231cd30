/- The program's compareNumbers, in worlds that draw and grow. -/
import Derived.Test.YtoekgcafhcamjaaGreatDoorPgS
import Derived.Test.YtoekgcafhcamjaaGreatDoorMao
import Derived.Shelf.SlicesQ.Reverse
namespace Go.Proofs.YtoekgcafhcamjaaGreatDoor
open Go Go.RowKit Go.Lib Go.Sort

/-- The comparison of points. -/
def cfP (p q : P2) : Int := if p.1 < q.1 then -1 else if q.1 < p.1 then 1 else if p.2 < q.2 then -1 else if q.2 < p.2 then 1 else 0
theorem ltP_of (p q : P2) : ltOf cfP p q = decide (ltP p q) := by
  unfold ltOf cfP ltP
  refine decide_eq_decide.2 ?_
  split
  · constructor
    · intro _; exact .inl (by assumption)
    · intro _; decide
  · split
    · constructor
      · intro h; exact absurd h (by decide)
      · intro h; omega
    · split
      · constructor
        · intro _; exact .inr (by omega)
        · intro _; decide
      · split
        · constructor
          · intro h; exact absurd h (by decide)
          · intro h; omega
        · constructor
          · intro h; exact absurd h (by decide)
          · intro h; omega
theorem swoP : SWO (ltOf cfP) where
  irrefl x := by rw [ltP_of]; exact decide_eq_false (by unfold ltP; omega)
  trans x y z h1 h2 := by rw [ltP_of] at *; have a := of_decide_eq_true h1; have b := of_decide_eq_true h2; exact decide_eq_true (by unfold ltP at *; omega)
  ntrans x y z h1 h2 := by rw [ltP_of] at *; have a := of_decide_eq_false h1; have b := of_decide_eq_false h2; exact decide_eq_false (by unfold ltP at *; omega)
theorem cmp_first {p q : P2} (h : cmpJ p.1 q.1 ≠ 0) : cfP p q = cmpJ p.1 q.1 := by
  unfold cfP
  unfold cmpJ at h ⊢
  grind
theorem cmp_second {p q : P2} (h : cmpJ p.1 q.1 = 0) : cfP p q = cmpJ p.2 q.2 := by
  unfold cfP
  unfold cmpJ at h ⊢
  grind

set_option maxRecDepth 100000 in
set_option maxHeartbeats 1600000 in
theorem i_slcmp (p q : P2) (X Y : Nat) (w : World) (hx : Bk w X #[.int .i64 p.1, .int .i64 p.2, .int .i64 0] 60) (hy : Bk w Y #[.int .i64 q.1, .int .i64 q.2, .int .i64 0] 60) :
    Calls Tryz.prog 180 #[.slice (some ⟨X, 0, none⟩) 3 3, .slice (some ⟨Y, 0, none⟩) 3 3] w fun e w' => e = .returned (.int .i64 (cfP p q)) ∧ w = w' := by
  obtain ⟨x0, x1, x2⟩ := bk3c hx
  obtain ⟨y0, y1, y2⟩ := bk3c hy
  have C0 := Lib.hid (fun W => i_ccmpP p.1 q.1 W)
  have C1 := Lib.hid (fun W => i_ccmpP p.2 q.2 W)
  have C2 := Lib.hid (fun W => i_ccmpP 0 0 W)
  have C3 := Lib.hid (cmpJ_eq (x := 0) (y := 0) rfl)
  obtain ⟨a, ha⟩ : ∃ a, cmpJ p.1 q.1 = a := ⟨_, rfl⟩
  obtain ⟨b, hb⟩ : ∃ b, cmpJ p.2 q.2 = b := ⟨_, rfl⟩
  rw [ha] at C0
  rw [hb] at C1
  rw [C3.out] at C2
  by_cases h0 : a = 0
  · subst h0
    have E := Lib.hid (cmp_second ha)
    rw [hb] at E
    rw [E.out]
    clear ha hb hx hy E
    obtain ⟨p1, p2⟩ := p
    obtain ⟨q1, q2⟩ := q
    simp only at *
    by_cases h1 : b = 0
    · subst h1
      go_enter Tryz.func180, Tryz.ntmps180
      go_wp2
      refine wp_loop_rounds 4 ?_
      rw [rounds_succ]
      go_wp2_with fail
      refine (C0.out _).mono ?_
      rintro e w1 ⟨rfl, rfl⟩
      go_wp2
      rw [rounds_succ]
      go_wp2_with fail
      refine (C1.out _).mono ?_
      rintro e w1 ⟨rfl, rfl⟩
      go_wp2
      rw [rounds_succ]
      go_wp2_with fail
      refine (C2.out _).mono ?_
      rintro e w1 ⟨rfl, rfl⟩
      go_wp2
      rw [rounds_succ]
      go_wp2
      go_ret
      exact ⟨rfl, rfl⟩
    · have hne : (b != 0) = true := by simpa using h1
      go_enter Tryz.func180, Tryz.ntmps180
      go_wp2
      refine wp_loop_rounds 4 ?_
      rw [rounds_succ]
      go_wp2_with fail
      refine (C0.out _).mono ?_
      rintro e w1 ⟨rfl, rfl⟩
      go_wp2
      rw [rounds_succ]
      go_wp2_with fail
      refine (C1.out _).mono ?_
      rintro e w1 ⟨rfl, rfl⟩
      go_wp2
      go_ret
      exact ⟨rfl, rfl⟩
  · have E := Lib.hid (cmp_first (p := p) (q := q) (by rw [ha]; exact h0))
    rw [ha] at E
    rw [E.out]
    have hne : (a != 0) = true := by simpa using h0
    clear ha hb hx hy E
    obtain ⟨p1, p2⟩ := p
    obtain ⟨q1, q2⟩ := q
    simp only at *
    go_enter Tryz.func180, Tryz.ntmps180
    go_wp2
    refine wp_loop_rounds 4 ?_
    rw [rounds_succ]
    go_wp2_with fail
    refine (C0.out _).mono ?_
    rintro e w1 ⟨rfl, rfl⟩
    go_wp2
    go_ret
    exact ⟨rfl, rfl⟩

set_option maxRecDepth 100000 in
set_option maxHeartbeats 800000 in
theorem i_cmpn (p q : P2) (w : World) : Calls Tryz.prog 161 #[.agg (encP p).toArray, .agg (encP q).toArray] w fun e w' => e = .returned (.int .i64 (cfP p q)) ∧ ∃ k os, w' = grow (w.drewN k) os := by
  show Calls Tryz.prog 161 #[.agg #[.int .i64 p.1, .int .i64 p.2, .int .i64 0], .agg #[.int .i64 q.1, .int .i64 q.2, .int .i64 0]] w _
  have G0 := Lib.hid ((Gr.alloc w (.cells #[.int .i64 p.1, .int .i64 p.2, .int .i64 0] 60)).trans (Gr.alloc _ (.cells #[.int .i64 q.1, .int .i64 q.2, .int .i64 0] 60)))
  have K0 := Lib.hid ((Bk.new w #[.int .i64 p.1, .int .i64 p.2, .int .i64 0] 60).below (below1 _ (.cells #[.int .i64 q.1, .int .i64 q.2, .int .i64 0] 60)))
  have K1 := Lib.hid (Bk.new (w.alloc (.cells #[.int .i64 p.1, .int .i64 p.2, .int .i64 0] 60)) #[.int .i64 q.1, .int .i64 q.2, .int .i64 0] 60)
  rw [World.size_alloc] at K1
  obtain ⟨r, hr⟩ : ∃ r, cfP p q = r := ⟨_, rfl⟩
  have CR := Lib.hid (fun W h1 h2 => i_slcmp p q w.heap.size (w.heap.size + 1) W h1 h2)
  rw [hr] at CR ⊢
  clear hr
  obtain ⟨p1, p2⟩ := p
  obtain ⟨q1, q2⟩ := q
  simp only at *
  go_enter Tryz.func161, Tryz.ntmps161
  go_wp2_with fail
  refine wgen ?_
  intro w1 hw1
  have G1 := Lib.hid (show Gr w w1 by rw [hw1]; exact G0.out)
  have J0 := Lib.hid (show Bk w1 w.heap.size #[.int .i64 p1, .int .i64 p2, .int .i64 0] 60 by rw [hw1]; exact K0.out)
  have J1 := Lib.hid (show Bk w1 (w.heap.size + 1) #[.int .i64 q1, .int .i64 q2, .int .i64 0] 60 by rw [hw1]; exact K1.out)
  clear hw1
  refine T_begin (z := fun q => 2 < q) (S := fun (W : World) => Bk W w.heap.size #[.int .i64 p1, .int .i64 p2, .int .i64 0] 60 ∧ Bk W (w.heap.size + 1) #[.int .i64 q1, .int .i64 q2, .int .i64 0] 60) (by kernel_rfl) ?_
  show wpAnyT _ _ _ _ _ _ 4 _ _ _
  have hS0 := Lib.hid (show (fun (W : World) => Bk W w.heap.size #[.int .i64 p1, .int .i64 p2, .int .i64 0] 60 ∧ Bk W (w.heap.size + 1) #[.int .i64 q1, .int .i64 q2, .int .i64 0] 60) w1.drew from ⟨J0.out, J1.out⟩)
  refine T_take (i := 0) (v := .slice (some ⟨w.heap.size, 0, none⟩) 3 3) rfl (by kernel_rfl) (by kernel_rfl) (by kernel_rfl) (by kernel_rfl) (fun _ _ _ h => h) hS0.out (by kernel_rfl) (fun w' hS' => by obtain ⟨h0, h1, h2⟩ := bk3c hS'.1; go_simp) ?_
  refine T_take (i := 1) (v := .slice (some ⟨w.heap.size + 1, 0, none⟩) 3 3) rfl (by kernel_rfl) (by kernel_rfl) (by kernel_rfl) (by kernel_rfl) (fun _ _ _ h => h) hS0.out (by kernel_rfl) (fun w' hS' => by obtain ⟨h0, h1, h2⟩ := bk3c hS'.2; go_simp) ?_
  refine T_step (i := 2) rfl (by kernel_rfl) rfl (by kernel_rfl) ?_
  intro K hK
  go_simp
  refine (CR.out _ hS0.out.1 hS0.out.2).mono ?_
  rintro e w2 ⟨rfl, rfl⟩
  refine hK.out _ _ hS0.out ?_
  clear hK K
  refine T_last (i := 3) rfl (by kernel_rfl) (by kernel_rfl) rfl rfl ?_
  go_simp
  go_wp2
  go_ret
  exact ⟨rfl, G1.out.trans (Gr.drew _)⟩
end Go.Proofs.YtoekgcafhcamjaaGreatDoor
