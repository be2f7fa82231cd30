/- The program's cornersOf. -/
import Derived.Test.YtckpifcdlmfabaaPgL
import Derived.Test.YtckpifcdlmfabaaPgK
import Derived.Test.YtckpifcdlmfabaaShelfSort
namespace Go.Proofs.Ytckpifcdlmfabaa
open Go Go.RowKit Go.Lib Go.Sort

theorem OwE.news {α : Type} {enc : α → List Value} {k : Nat} {T : TypeId} {lo hi : Nat} {w : World} {l : List α} (hk : ∀ x, (enc x).length = k) {ad : Option Addr} {m c : Nat} (h : OwE enc k T lo hi w (.slice ad m c) l) :
    (l.flatMap enc).length = m * k ∧ (0 < m → ∃ p, ad = some p ∧ ∀ j u, (l.flatMap enc)[j]? = some u → w.cell? (p.add j) = some u) := by
  have hl := flatE_len enc k hk l
  obtain ⟨a', c', e, _⟩ := owns_slice h.1
  simp only [Value.slice.injEq] at e
  obtain ⟨rfl, rfl, rfl⟩ := e
  refine ⟨hl, fun h0 => ?_⟩
  obtain ⟨g, cap, e1⟩ := Go.Joins.ownsRow_form h.1 h0
  simp only [Value.slice.injEq] at e1
  obtain ⟨rfl, _, rfl⟩ := e1
  refine ⟨⟨g, 0, none⟩, rfl, fun j u hu => ?_⟩
  have hj := lt_of_get hu
  rw [hl] at hj
  have hadd : (⟨g, 0, none⟩ : Addr).add j = ⟨g, j, none⟩ := by
    unfold Addr.add
    split
    · simp_all
    · simp
  rw [hadd, h.1.cellAt j hj, hu]
/-- What the sorting leaves. -/
def SortedO (w : World) (lo g n c : Nat) (ps : List P2) (e : Ending) (w' : World) : Prop :=
  e = .returned (.tuple #[]) ∧ ∃ D : List P2, (∀ p, p ∈ D ↔ p ∈ ps) ∧ D.length = n ∧ D.Pairwise (fun a b => ¬ ltP b a) ∧ OwP lo w'.heap.size w' (.slice (some ⟨g, 0, none⟩) n c) D ∧ w.grownBy w' (some g)
theorem i_sortn (ps : List P2) (lo hi g n c : Nat) (w : World) (hn : ps.length = n) (h200 : n ≤ 200) (hv : OwP lo hi w (.slice (some ⟨g, 0, none⟩) n c) ps) :
    Calls Try.prog 115 #[.slice (some ⟨g, 0, none⟩) n c, .func (.func 116) #[] #[]] w (SortedO w lo g n c ps) := by
  obtain ⟨ho, _⟩ := hv
  rw [hn] at ho
  have eg : ∀ args w, (callFunc 116 args).run Try.prog w = .ok (.enter 116 args) w := enters_of Try.func116 (by kernel_rfl) rfl
  have hs : ps.toArray.size = n := by simpa using hn
  have hH := holds_owns (d := ps.toArray) encP_len (by simpa using ho) hs
  have hcmp : CmpLays Try.prog 116 #[] encP 3 cfP g 0 ps.toArray.size w := fun _ _ _ _ x y => i_cmpn x y _
  have h := AnyQ.slices_SortFunc Try.sortN 3 Try.isAgg57 Try.sizeOf57 encP encP_len encP_one cfP swoP 116 #[] g 0 c ps.toArray w eg hcmp hH (ho.lt g rfl).2 (by rw [hs]; omega)
  rw [hs] at h
  refine h.mono ?_
  rintro e w' ⟨he, d', m, os, hp, hso, rfl⟩
  have hp' := perm_mem (by rw [hs]; exact hp)
  have hds : d'.size = n := by rw [hp'.1, hs]
  obtain ⟨k1, k2⟩ := owns_sorted (m := m) (d := ps.toArray) (d' := d') os encP_len (by simpa using ho) hds
  refine ⟨he, d'.toList, fun p => by rw [hp'.2], by simpa using hds, (sorted_pair hso hds).imp fun {a b} h => ?_, ⟨?_, fun b hb => (k1.lt b hb).2⟩, k2⟩
  · rw [ltP_of] at h
    exact of_decide_eq_false h
  · rw [show d'.toList.length = n by simpa using hds]
    exact k1
theorem i_revn (ps : List P2) (lo hi g n c : Nat) (w : World) (hn : ps.length = n) (h200 : n ≤ 200) (hv : OwP lo hi w (.slice (some ⟨g, 0, none⟩) n c) ps) :
    Calls Try.prog 118 #[.slice (some ⟨g, 0, none⟩) n c] w fun e w' => e = .returned (.tuple #[]) ∧ OwP lo w'.heap.size w' (.slice (some ⟨g, 0, none⟩) n c) ps.reverse ∧ w.grownBy w' (some g) := by
  obtain ⟨ho, _⟩ := hv
  rw [hn] at ho
  have hs : ps.toArray.size = n := by simpa using hn
  have hH := holds_owns (d := ps.toArray) encP_len (by simpa using ho) hs
  have h := AnyQ.slices_Reverse Try.revN 3 Try.isAgg57 Try.sizeOf57 encP encP_len encP_one g 0 c ps.toArray w hH (by rw [hs]; omega)
  rw [hs] at h
  refine h.mono ?_
  rintro e w' ⟨he, m, rfl⟩
  obtain ⟨k1, k2⟩ := owns_put (w := Sort.ahead w m) (d := ps.toArray) (d' := ps.toArray.reverse) encP_len (show (Sort.ahead w m).ownsRow lo 57 3 _ n (ps.toArray.toList.flatMap encP) from (show w.ownsRow lo 57 3 _ n (ps.toArray.toList.flatMap encP) by simpa using ho)) (by simpa using hn)
  refine ⟨he, ⟨?_, fun b hb => (k1.lt b hb).2⟩, k2.os, k2.tape, k2.output, k2.size, k2.block⟩
  rw [List.length_reverse, hn]
  simpa using k1
/-- What cornersOf leaves. -/
def CornO (w : World) (g : Nat) (ps : List P2) (e : Ending) (w' : World) : Prop :=
  (∃ (D : List P2) (u : Value), e = .returned u ∧ (∀ p, p ∈ D ↔ p ∈ ps) ∧ D.length = ps.length ∧ D.Pairwise (fun a b => ¬ ltP b a) ∧ OwP w.heap.size w'.heap.size w' u (cornL D)) ∧ w.grownBy w' (some g)
set_option maxRecDepth 100000 in
set_option maxHeartbeats 1600000 in
theorem i_corners (ps : List P2) (lo hi g n c : Nat) (w : World) (hn : ps.length = n) (h200 : n ≤ 200) (hbd : ∀ p ∈ ps, BdP 50 p) (hhi : hi ≤ w.heap.size) (hv : OwP lo hi w (.slice (some ⟨g, 0, none⟩) n c) ps) :
    Calls Try.prog 72 #[.slice (some ⟨g, 0, none⟩) n c] w (CornO w g ps) := by
  have HV := Lib.hid hv
  have HN := Lib.hid hn
  have HBD := Lib.hid hbd
  have hg : g < w.heap.size := Nat.lt_of_lt_of_le (hv.2 g rfl) hhi
  have HG := Lib.hid hg
  obtain ⟨i0, hi', hz0, hz1, hz2⟩ := info_parts info_nums
  have HI := Lib.hid (And.intro hi' (And.intro hz0 (And.intro hz1 hz2)))
  clear hv hn hbd hg hi' hz0 hz1 hz2
  go_enter Try.func72, Try.ntmps72
  go_wp2_with fail
  refine (i_sortn ps lo hi g n c w HN.out h200 HV.out).mono ?_
  rintro e w1 ⟨rfl, D, d1, d2, d3, d4, d5⟩
  have HD := Lib.hid (And.intro d1 (And.intro d2 d3))
  have O1 := Lib.hid d4
  have G1 := Lib.hid d5
  have BD := Lib.hid (show ∀ p ∈ D, BdP 50 p from fun p hp => HBD.out p ((d1 p).1 hp))
  clear d1 d2 d3 d4 d5
  go_wp2_with fail
  refine (i_bend D (by have := HD.out.2.1; omega) BD.out lo w1.heap.size _ w1 O1.out).mono ?_
  rintro e w2 ⟨⟨u2, rfl, h2⟩, b2⟩
  have O2 := Lib.hid h2
  have B2 := Lib.hid b2
  obtain ⟨a2, c2, rfl, _, _⟩ := h2.shape
  clear h2 b2
  go_wp2_with fail
  refine (i_revn D lo w2.heap.size g n c w2 HD.out.2.1 h200 ((O1.out.below B2.out).mono (Nat.le_refl _) B2.out.size)).mono ?_
  rintro e w3 ⟨rfl, o3, g3⟩
  have O3 := Lib.hid o3
  have G3 := Lib.hid g3
  have hw12 := Nat.le_trans G1.out.size B2.out.size
  have P2 := Lib.hid (O2.out.grown g3 (fun b hb e => by
    obtain rfl := Option.some.inj e
    have := (O2.out.1.lt _ hb).1
    have := HG.out
    have := G1.out.size
    omega))
  clear o3 g3
  go_wp2_with fail
  refine (i_bend D.reverse (by have := HD.out.2.1; rw [List.length_reverse]; omega) (fun p hp => BD.out p (List.mem_reverse.1 hp)) lo w3.heap.size _ w3 O3.out).mono ?_
  rintro e w4 ⟨⟨u4, rfl, h4⟩, b4⟩
  have O4 := Lib.hid h4
  have B4 := Lib.hid b4
  obtain ⟨a4, c4, rfl, _, _⟩ := h4.shape
  have P4 := Lib.hid ((P2.out.mono (Nat.le_refl _) (Nat.le_refl _)).kept (Kept.of_below (lo := w2.heap.size) (hi := w2.heap.size) b4) (.inl (Nat.le_refl _)))
  have hl1 := bendL_len D
  have hl2 := bendL_len D.reverse
  rw [List.length_reverse, HD.out.2.1] at hl2
  rw [HD.out.2.1] at hl1
  have HL := Lib.hid (And.intro hl1 hl2)
  clear h4 b4 hl1 hl2
  go_wp2_with (at_builtin; go_must (refine list_appG rfl _ _ 79 rfl w1.heap.size 57 i0 _ 3 24 Try.underlying79 HI.out.1 HI.out.2.1 HI.out.2.2.1 HI.out.2.2.2 rfl (by omega) _ (bendL D).length ((bendL D).flatMap encP) rfl P4.out.1 _ _ _ ((bendL D.reverse).flatMap encP) rfl (OwE.news encP_len O4.out).1 (OwE.news encP_len O4.out).2 (flatP_one _) (by have := HL.out; omega) (by omega) (by have := B2.out.size; have := G3.out.size; have := B4.out.size; omega) ?_; intro a5 c5 w5 ho5 hg5 hat5))
  have O5 := Lib.hid ho5
  have G5 := Lib.hid hg5
  clear ho5 hg5 hat5
  go_wp2
  go_ret
  have hz : w.heap.size ≤ w1.heap.size := G1.out.size
  refine ⟨⟨D, _, rfl, HD.out.1, by rw [HD.out.2.1, HN.out], HD.out.2.2, ?_⟩, ?_⟩
  · have e1 : (bendL D).flatMap encP ++ (bendL D.reverse).flatMap encP = (cornL D).flatMap encP := by unfold cornL; rw [List.flatMap_append]
    have hlen : (cornL D).length = (bendL D).length + (bendL D.reverse).length := by unfold cornL; simp
    refine OwE.mono (lo := w1.heap.size) (hi := w5.heap.size) ⟨?_, fun b hb => (O5.out.lt b hb).2⟩ hz (Nat.le_refl _)
    rw [hlen, ← e1]
    exact O5.out
  · have g2 : w.grownBy w2 (some g) := grownTrans G1.out (r2 := none) ⟨B2.out.os, B2.out.tape, B2.out.output, B2.out.size, fun q hq _ => B2.out.block q hq⟩ (fun b hb => by cases hb)
    have g3 := grownTrans g2 G3.out (fun b hb => .inl hb)
    have g4 : w.grownBy w4 (some g) := grownTrans g3 (r2 := none) ⟨B4.out.os, B4.out.tape, B4.out.output, B4.out.size, fun q hq _ => B4.out.block q hq⟩ (fun b hb => by cases hb)
    exact grownTrans g4 G5.out (fun b hb => .inr (by have := (P4.out.1.lt b hb).1; omega))
end Go.Proofs.Ytckpifcdlmfabaa
