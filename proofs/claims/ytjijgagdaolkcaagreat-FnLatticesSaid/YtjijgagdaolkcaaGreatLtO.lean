/- The program's compareNumbers and the sorting, at triples. -/
import Derived.Test.YtjijgagdaolkcaaGreatPgS
import Derived.Test.YtjijgagdaolkcaaGreatMav
import Derived.Test.YtjijgagdaolkcaaGreatLtC
import Derived.Test.YtjijgagdaolkcaaGreatShelfSort
import Derived.Shelf.SlicesQ.Reverse
namespace Go.Proofs.YtjijgagdaolkcaaGreat
open Go Go.RowKit Go.Lib Go.Sort

/-- The comparison of triples. -/
def cf3 (p q : T3) : Int := if p.1 < q.1 then -1 else if q.1 < p.1 then 1 else if p.2.1 < q.2.1 then -1 else if q.2.1 < p.2.1 then 1 else if p.2.2 < q.2.2 then -1 else if q.2.2 < p.2.2 then 1 else 0
instance decT (p q : T3) : Decidable (ltT p q) := by unfold ltT; exact inferInstance
theorem lt3_of (p q : T3) : ltOf cf3 p q = decide (ltT p q) := by
  unfold ltOf cf3 ltT
  refine decide_eq_decide.2 ?_
  grind
theorem swo3 : SWO (ltOf cf3) where
  irrefl x := by rw [lt3_of]; exact decide_eq_false (by unfold ltT; omega)
  trans x y z h1 h2 := by rw [lt3_of] at *; have a := of_decide_eq_true h1; have b := of_decide_eq_true h2; exact decide_eq_true (by unfold ltT at *; omega)
  ntrans x y z h1 h2 := by rw [lt3_of] at *; have a := of_decide_eq_false h1; have b := of_decide_eq_false h2; exact decide_eq_false (by unfold ltT at *; omega)
theorem cmp3_first {p q : T3} (h : cmpJ p.1 q.1 ≠ 0) : cf3 p q = cmpJ p.1 q.1 := by
  unfold cf3
  unfold cmpJ at h ⊢
  grind
theorem cmp3_second {p q : T3} (h : cmpJ p.1 q.1 = 0) (h2 : cmpJ p.2.1 q.2.1 ≠ 0) : cf3 p q = cmpJ p.2.1 q.2.1 := by
  unfold cf3
  unfold cmpJ at h h2 ⊢
  grind
theorem cmp3_third {p q : T3} (h : cmpJ p.1 q.1 = 0) (h2 : cmpJ p.2.1 q.2.1 = 0) : cf3 p q = cmpJ p.2.2 q.2.2 := by
  unfold cf3
  unfold cmpJ at h h2 ⊢
  grind

set_option maxRecDepth 100000 in
set_option maxHeartbeats 1600000 in
theorem i_slcmp3 (p q : T3) (X Y : Nat) (w : World) (hx : Bk w X #[.int .i64 p.1, .int .i64 p.2.1, .int .i64 p.2.2] 43) (hy : Bk w Y #[.int .i64 q.1, .int .i64 q.2.1, .int .i64 q.2.2] 43) :
    Calls Tryz.prog 66 #[.slice (some ⟨X, 0, none⟩) 3 3, .slice (some ⟨Y, 0, none⟩) 3 3] w fun e w' => e = .returned (.int .i64 (cf3 p q)) ∧ w = w' := by
  obtain ⟨x0, x1, x2⟩ := bk3t hx
  obtain ⟨y0, y1, y2⟩ := bk3t hy
  have C0 := Lib.hid (fun W => i_ccmpP p.1 q.1 W)
  have C1 := Lib.hid (fun W => i_ccmpP p.2.1 q.2.1 W)
  have C2 := Lib.hid (fun W => i_ccmpP p.2.2 q.2.2 W)
  obtain ⟨a, ha⟩ : ∃ a, cmpJ p.1 q.1 = a := ⟨_, rfl⟩
  obtain ⟨b, hb⟩ : ∃ b, cmpJ p.2.1 q.2.1 = b := ⟨_, rfl⟩
  obtain ⟨c, hc⟩ : ∃ c, cmpJ p.2.2 q.2.2 = c := ⟨_, rfl⟩
  rw [ha] at C0
  rw [hb] at C1
  rw [hc] at C2
  by_cases h0 : a = 0
  · subst h0
    by_cases h1 : b = 0
    · subst h1
      by_cases h2 : c = 0
      · subst h2
        have E := Lib.hid (cmp3_third ha hb)
        rw [hc] at E
        rw [E.out]
        clear ha hb hc hx hy E
        obtain ⟨p1, p2, p3⟩ := p
        obtain ⟨q1, q2, q3⟩ := q
        simp only at *
        go_enter Tryz.func66, Tryz.ntmps66
        go_wp2
        refine wp_loop_rounds 4 ?_
        rw [rounds_succ]
        go_wp2_with fail
        refine (C0.out _).mono ?_
        rintro e w1 ⟨rfl, rfl⟩
        go_wp2
        rw [rounds_succ]
        go_wp2_with fail
        refine (C1.out _).mono ?_
        rintro e w1 ⟨rfl, rfl⟩
        go_wp2
        rw [rounds_succ]
        go_wp2_with fail
        refine (C2.out _).mono ?_
        rintro e w1 ⟨rfl, rfl⟩
        go_wp2
        rw [rounds_succ]
        go_wp2
        go_ret
        exact ⟨rfl, rfl⟩
      · have hne : (c != 0) = true := by simpa using h2
        have E := Lib.hid (cmp3_third ha hb)
        rw [hc] at E
        rw [E.out]
        clear ha hb hc hx hy E
        obtain ⟨p1, p2, p3⟩ := p
        obtain ⟨q1, q2, q3⟩ := q
        simp only at *
        go_enter Tryz.func66, Tryz.ntmps66
        go_wp2
        refine wp_loop_rounds 4 ?_
        rw [rounds_succ]
        go_wp2_with fail
        refine (C0.out _).mono ?_
        rintro e w1 ⟨rfl, rfl⟩
        go_wp2
        rw [rounds_succ]
        go_wp2_with fail
        refine (C1.out _).mono ?_
        rintro e w1 ⟨rfl, rfl⟩
        go_wp2
        rw [rounds_succ]
        go_wp2_with fail
        refine (C2.out _).mono ?_
        rintro e w1 ⟨rfl, rfl⟩
        go_wp2
        go_ret
        exact ⟨rfl, rfl⟩
    · have hne : (b != 0) = true := by simpa using h1
      have E := Lib.hid (cmp3_second ha (by rw [hb]; exact h1))
      rw [hb] at E
      rw [E.out]
      clear ha hb hc hx hy E
      obtain ⟨p1, p2, p3⟩ := p
      obtain ⟨q1, q2, q3⟩ := q
      simp only at *
      go_enter Tryz.func66, Tryz.ntmps66
      go_wp2
      refine wp_loop_rounds 4 ?_
      rw [rounds_succ]
      go_wp2_with fail
      refine (C0.out _).mono ?_
      rintro e w1 ⟨rfl, rfl⟩
      go_wp2
      rw [rounds_succ]
      go_wp2_with fail
      refine (C1.out _).mono ?_
      rintro e w1 ⟨rfl, rfl⟩
      go_wp2
      go_ret
      exact ⟨rfl, rfl⟩
  · have hne : (a != 0) = true := by simpa using h0
    have E := Lib.hid (cmp3_first (p := p) (q := q) (by rw [ha]; exact h0))
    rw [ha] at E
    rw [E.out]
    clear ha hb hc hx hy E
    obtain ⟨p1, p2, p3⟩ := p
    obtain ⟨q1, q2, q3⟩ := q
    simp only at *
    go_enter Tryz.func66, Tryz.ntmps66
    go_wp2
    refine wp_loop_rounds 4 ?_
    rw [rounds_succ]
    go_wp2_with fail
    refine (C0.out _).mono ?_
    rintro e w1 ⟨rfl, rfl⟩
    go_wp2
    go_ret
    exact ⟨rfl, rfl⟩

set_option maxRecDepth 100000 in
set_option maxHeartbeats 800000 in
theorem i_cmpn3 (p q : T3) (w : World) : Calls Tryz.prog 28 #[.agg (enc3 p).toArray, .agg (enc3 q).toArray] w fun e w' => e = .returned (.int .i64 (cf3 p q)) ∧ ∃ k os, w' = grow (w.drewN k) os := by
  show Calls Tryz.prog 28 #[.agg #[.int .i64 p.1, .int .i64 p.2.1, .int .i64 p.2.2], .agg #[.int .i64 q.1, .int .i64 q.2.1, .int .i64 q.2.2]] w _
  have G0 := Lib.hid ((Gr.alloc w (.cells #[.int .i64 p.1, .int .i64 p.2.1, .int .i64 p.2.2] 43)).trans (Gr.alloc _ (.cells #[.int .i64 q.1, .int .i64 q.2.1, .int .i64 q.2.2] 43)))
  have K0 := Lib.hid ((Bk.new w #[.int .i64 p.1, .int .i64 p.2.1, .int .i64 p.2.2] 43).below (below1 _ (.cells #[.int .i64 q.1, .int .i64 q.2.1, .int .i64 q.2.2] 43)))
  have K1 := Lib.hid (Bk.new (w.alloc (.cells #[.int .i64 p.1, .int .i64 p.2.1, .int .i64 p.2.2] 43)) #[.int .i64 q.1, .int .i64 q.2.1, .int .i64 q.2.2] 43)
  rw [World.size_alloc] at K1
  obtain ⟨r, hr⟩ : ∃ r, cf3 p q = r := ⟨_, rfl⟩
  have CR := Lib.hid (fun W h1 h2 => i_slcmp3 p q w.heap.size (w.heap.size + 1) W h1 h2)
  rw [hr] at CR ⊢
  clear hr
  obtain ⟨p1, p2, p3⟩ := p
  obtain ⟨q1, q2, q3⟩ := q
  simp only at *
  go_enter Tryz.func28, Tryz.ntmps28
  go_wp2_with fail
  refine wgen ?_
  intro w1 hw1
  have G1 := Lib.hid (show Gr w w1 by rw [hw1]; exact G0.out)
  have J0 := Lib.hid (show Bk w1 w.heap.size #[.int .i64 p1, .int .i64 p2, .int .i64 p3] 43 by rw [hw1]; exact K0.out)
  have J1 := Lib.hid (show Bk w1 (w.heap.size + 1) #[.int .i64 q1, .int .i64 q2, .int .i64 q3] 43 by rw [hw1]; exact K1.out)
  clear hw1
  refine T_begin (z := fun q => 2 < q) (S := fun (W : World) => Bk W w.heap.size #[.int .i64 p1, .int .i64 p2, .int .i64 p3] 43 ∧ Bk W (w.heap.size + 1) #[.int .i64 q1, .int .i64 q2, .int .i64 q3] 43) (by kernel_rfl) ?_
  show wpAnyT _ _ _ _ _ _ 4 _ _ _
  have hS0 := Lib.hid (show (fun (W : World) => Bk W w.heap.size #[.int .i64 p1, .int .i64 p2, .int .i64 p3] 43 ∧ Bk W (w.heap.size + 1) #[.int .i64 q1, .int .i64 q2, .int .i64 q3] 43) w1.drew from ⟨J0.out, J1.out⟩)
  refine T_take (i := 0) (v := .slice (some ⟨w.heap.size, 0, none⟩) 3 3) rfl (by kernel_rfl) (by kernel_rfl) (by kernel_rfl) (by kernel_rfl) (fun _ _ _ h => h) hS0.out (by kernel_rfl) (fun w' hS' => by obtain ⟨h0, h1, h2⟩ := bk3t hS'.1; go_simp) ?_
  refine T_take (i := 1) (v := .slice (some ⟨w.heap.size + 1, 0, none⟩) 3 3) rfl (by kernel_rfl) (by kernel_rfl) (by kernel_rfl) (by kernel_rfl) (fun _ _ _ h => h) hS0.out (by kernel_rfl) (fun w' hS' => by obtain ⟨h0, h1, h2⟩ := bk3t hS'.2; go_simp) ?_
  refine T_step (i := 2) rfl (by kernel_rfl) rfl (by kernel_rfl) ?_
  intro K hK
  go_simp
  refine (CR.out _ hS0.out.1 hS0.out.2).mono ?_
  rintro e w2 ⟨rfl, rfl⟩
  refine hK.out _ _ hS0.out ?_
  clear hK K
  refine T_last (i := 3) rfl (by kernel_rfl) (by kernel_rfl) rfl rfl ?_
  go_simp
  go_wp2
  go_ret
  exact ⟨rfl, G1.out.trans (Gr.drew _)⟩
/-- What the sorting leaves. -/
def Sorted3 (w : World) (lo g n c : Nat) (ps : List T3) (e : Ending) (w' : World) : Prop :=
  e = .returned (.tuple #[]) ∧ ∃ D : List T3, (∀ p, p ∈ D ↔ p ∈ ps) ∧ D.length = n ∧ (ps.Nodup → D.Nodup) ∧ D.Pairwise (fun a b => ¬ ltT b a) ∧ Ow3 lo w'.heap.size w' (.slice (some ⟨g, 0, none⟩) n c) D ∧ w.grownBy w' (some g)
theorem perm_nodup {α : Type} [Inhabited α] {d d' : Array α} (h : PermIn 0 d.size d d') : d.toList.Nodup → d'.toList.Nodup := by
  obtain ⟨h1, _, h3⟩ := h
  have e1 : d'.extract 0 d.size = d' := by rw [← h1]; exact Array.extract_size
  have e2 : d.extract 0 d.size = d := Array.extract_size
  rw [e1, e2] at h3
  exact h3.nodup_iff.2
theorem i_sort3 (ps : List T3) (lo hi g n c : Nat) (w : World) (hn : ps.length = n) (h200 : n ≤ 1048576) (hv : Ow3 lo hi w (.slice (some ⟨g, 0, none⟩) n c) ps) :
    Calls Tryz.prog 27 #[.slice (some ⟨g, 0, none⟩) n c, .func (.func 28) #[] #[]] w (Sorted3 w lo g n c ps) := by
  obtain ⟨ho, _⟩ := hv
  rw [hn] at ho
  have eg : ∀ args w, (callFunc 28 args).run Tryz.prog w = .ok (.enter 28 args) w := enters_of Tryz.func28 (by kernel_rfl) rfl
  have hs : ps.toArray.size = n := by simpa using hn
  have hH := holds_owns (d := ps.toArray) enc3_len (by simpa using ho) hs
  have hcmp : CmpLays Tryz.prog 28 #[] enc3 3 cf3 g 0 ps.toArray.size w := fun _ _ _ _ x y => i_cmpn3 x y _
  have h := AnyQ.slices_SortFunc Tryz.sortN 3 Tryz.isAgg43 Tryz.sizeOf43 enc3 enc3_len enc3_one cf3 swo3 28 #[] g 0 c ps.toArray w eg hcmp hH (ho.lt g rfl).2 (by rw [hs]; omega)
  rw [hs] at h
  refine h.mono ?_
  rintro e w' ⟨he, d', m, os, hp, hso, rfl⟩
  have hp' := perm_mem (by rw [hs]; exact hp)
  have hpn := perm_nodup (d := ps.toArray) (d' := d') (by rw [hs]; exact hp)
  have hds : d'.size = n := by rw [hp'.1, hs]
  obtain ⟨k1, k2⟩ := owns_sorted (m := m) (d := ps.toArray) (d' := d') os enc3_len (by simpa using ho) hds
  refine ⟨he, d'.toList, fun p => by rw [hp'.2], by simpa using hds, fun hn => hpn (by simpa using hn), (sorted_pair hso hds).imp fun {a b} h => ?_, ⟨?_, fun b hb => (k1.lt b hb).2⟩, k2⟩
  · rw [lt3_of] at h
    exact of_decide_eq_false h
  · rw [show d'.toList.length = n by simpa using hds]
    exact k1
end Go.Proofs.YtjijgagdaolkcaaGreat
