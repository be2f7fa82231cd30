/- The program's cornersOf. -/
import Derived.Test.YtoekgcafhcamjaaPgL
import Derived.Test.YtoekgcafhcamjaaMao
import Derived.Test.YtoekgcafhcamjaaShelfSort
import Derived.Test.YtoekgcafhcamjaaMad
namespace Go.Proofs.Ytoekgcafhcamjaa
open Go Go.RowKit Go.Lib Go.Sort

theorem OwE.news {α : Type} {enc : α → List Value} {k : Nat} {T : TypeId} {lo hi : Nat} {w : World} {l : List α} (hk : ∀ x, (enc x).length = k) {ad : Option Addr} {m c : Nat} (h : OwE enc k T lo hi w (.slice ad m c) l) :
    (l.flatMap enc).length = m * k ∧ (0 < m → ∃ p, ad = some p ∧ ∀ j u, (l.flatMap enc)[j]? = some u → w.cell? (p.add j) = some u) := by
  have hl := flatE_len enc k hk l
  obtain ⟨a', c', e, _⟩ := owns_slice h.1
  simp only [Value.slice.injEq] at e
  obtain ⟨rfl, rfl, rfl⟩ := e
  refine ⟨hl, fun h0 => ?_⟩
  obtain ⟨g, cap, e1⟩ := Go.Joins.ownsRow_form h.1 h0
  simp only [Value.slice.injEq] at e1
  obtain ⟨rfl, _, rfl⟩ := e1
  refine ⟨⟨g, 0, none⟩, rfl, fun j u hu => ?_⟩
  have hj := lt_of_get hu
  rw [hl] at hj
  have hadd : (⟨g, 0, none⟩ : Addr).add j = ⟨g, j, none⟩ := by
    unfold Addr.add
    split
    · simp_all
    · simp
  rw [hadd, h.1.cellAt j hj, hu]
/-- What the sorting leaves. -/
def SortedO (w : World) (lo g n c : Nat) (ps : List P2) (e : Ending) (w' : World) : Prop :=
  e = .returned (.tuple #[]) ∧ ∃ D : List P2, (∀ p, p ∈ D ↔ p ∈ ps) ∧ D.length = n ∧ D.Pairwise (fun a b => ¬ ltP b a) ∧ OwP lo w'.heap.size w' (.slice (some ⟨g, 0, none⟩) n c) D ∧ w.grownBy w' (some g)
theorem i_sortn (ps : List P2) (lo hi g n c : Nat) (w : World) (hn : ps.length = n) (h200 : n ≤ 200) (hv : OwP lo hi w (.slice (some ⟨g, 0, none⟩) n c) ps) :
    Calls Try.prog 120 #[.slice (some ⟨g, 0, none⟩) n c, .func (.func 121) #[] #[]] w (SortedO w lo g n c ps) := by
  obtain ⟨ho, _⟩ := hv
  rw [hn] at ho
  have eg : ∀ args w, (callFunc 121 args).run Try.prog w = .ok (.enter 121 args) w := enters_of Try.func121 (by kernel_rfl) rfl
  have hs : ps.toArray.size = n := by simpa using hn
  have hH := holds_owns (d := ps.toArray) encP_len (by simpa using ho) hs
  have hcmp : CmpLays Try.prog 121 #[] encP 3 cfP g 0 ps.toArray.size w := fun _ _ _ _ x y => i_cmpn x y _
  have h := AnyQ.slices_SortFunc Try.sortN 3 Try.isAgg65 Try.sizeOf65 encP encP_len encP_one cfP swoP 121 #[] g 0 c ps.toArray w eg hcmp hH (ho.lt g rfl).2 (by rw [hs]; omega)
  rw [hs] at h
  refine h.mono ?_
  rintro e w' ⟨he, d', m, os, hp, hso, rfl⟩
  have hp' := perm_mem (by rw [hs]; exact hp)
  have hds : d'.size = n := by rw [hp'.1, hs]
  obtain ⟨k1, k2⟩ := owns_sorted (m := m) (d := ps.toArray) (d' := d') os encP_len (by simpa using ho) hds
  refine ⟨he, d'.toList, fun p => by rw [hp'.2], by simpa using hds, (sorted_pair hso hds).imp fun {a b} h => ?_, ⟨?_, fun b hb => (k1.lt b hb).2⟩, k2⟩
  · rw [ltP_of] at h
    exact of_decide_eq_false h
  · rw [show d'.toList.length = n by simpa using hds]
    exact k1
theorem i_revn (ps : List P2) (lo hi g n c : Nat) (w : World) (hn : ps.length = n) (h200 : n ≤ 200) (hv : OwP lo hi w (.slice (some ⟨g, 0, none⟩) n c) ps) :
    Calls Try.prog 123 #[.slice (some ⟨g, 0, none⟩) n c] w fun e w' => e = .returned (.tuple #[]) ∧ OwP lo w'.heap.size w' (.slice (some ⟨g, 0, none⟩) n c) ps.reverse ∧ w.grownBy w' (some g) := by
  obtain ⟨ho, _⟩ := hv
  rw [hn] at ho
  have hs : ps.toArray.size = n := by simpa using hn
  have hH := holds_owns (d := ps.toArray) encP_len (by simpa using ho) hs
  have h := AnyQ.slices_Reverse Try.revN 3 Try.isAgg65 Try.sizeOf65 encP encP_len encP_one g 0 c ps.toArray w hH (by rw [hs]; omega)
  rw [hs] at h
  refine h.mono ?_
  rintro e w' ⟨he, m, rfl⟩
  obtain ⟨k1, k2⟩ := owns_put (w := Sort.ahead w m) (d := ps.toArray) (d' := ps.toArray.reverse) encP_len (show (Sort.ahead w m).ownsRow lo 65 3 _ n (ps.toArray.toList.flatMap encP) from (show w.ownsRow lo 65 3 _ n (ps.toArray.toList.flatMap encP) by simpa using ho)) (by simpa using hn)
  refine ⟨he, ⟨?_, fun b hb => (k1.lt b hb).2⟩, k2.os, k2.tape, k2.output, k2.size, k2.block⟩
  rw [List.length_reverse, hn]
  simpa using k1
/-- What cornersOf leaves. -/
def CornO (w : World) (g : Nat) (ps : List P2) (e : Ending) (w' : World) : Prop :=
  (∃ (D : List P2) (u : Value), e = .returned u ∧ (∀ p, p ∈ D ↔ p ∈ ps) ∧ D.length = ps.length ∧ D.Pairwise (fun a b => ¬ ltP b a) ∧ OwP w.heap.size w'.heap.size w' u (cornL D)) ∧ w.grownBy w' (some g)
set_option maxRecDepth 100000 in
set_option maxHeartbeats 1600000 in
theorem i_corners (ps : List P2) (lo hi g n c : Nat) (w : World) (hn : ps.length = n) (h200 : n ≤ 200) (hbd : ∀ p ∈ ps, BdP 50 p) (hhi : hi ≤ w.heap.size) (hv : OwP lo hi w (.slice (some ⟨g, 0, none⟩) n c) ps) :
    Calls Try.prog 90 #[.slice (some ⟨g, 0, none⟩) n c] w (CornO w g ps) := by
  have HV := Lib.hid hv
  have HN := Lib.hid hn
  have HBD := Lib.hid hbd
  have hg : g < w.heap.size := Nat.lt_of_lt_of_le (hv.2 g rfl) hhi
  have HG := Lib.hid hg
  obtain ⟨i0, hi', hz0, hz1, hz2⟩ := info_parts info_nums
  have HI := Lib.hid (And.intro hi' (And.intro hz0 (And.intro hz1 hz2)))
  clear hv hn hbd hg hi' hz0 hz1 hz2
  go_enter Try.func90, Try.ntmps90
  go_wp2_with fail
  refine (i_sortn ps lo hi g n c w HN.out h200 HV.out).mono ?_
  rintro e w1 ⟨rfl, D, d1, d2, d3, d4, d5⟩
  have HD := Lib.hid (And.intro d1 (And.intro d2 d3))
  have O1 := Lib.hid d4
  have G1 := Lib.hid d5
  have BD := Lib.hid (show ∀ p ∈ D, BdP 50 p from fun p hp => HBD.out p ((d1 p).1 hp))
  clear d1 d2 d3 d4 d5
  go_wp2_with fail
  refine (i_bend D (by have := HD.out.2.1; omega) BD.out lo w1.heap.size _ w1 O1.out).mono ?_
  rintro e w2 ⟨⟨u2, rfl, h2⟩, b2⟩
  have O2 := Lib.hid h2
  have B2 := Lib.hid b2
  obtain ⟨a2, c2, rfl, _, _⟩ := h2.shape
  clear h2 b2
  go_wp2_with fail
  refine (i_revn D lo w2.heap.size g n c w2 HD.out.2.1 h200 ((O1.out.below B2.out).mono (Nat.le_refl _) B2.out.size)).mono ?_
  rintro e w3 ⟨rfl, o3, g3⟩
  have O3 := Lib.hid o3
  have G3 := Lib.hid g3
  have hw12 := Nat.le_trans G1.out.size B2.out.size
  have P2 := Lib.hid (O2.out.grown g3 (fun b hb e => by
    obtain rfl := Option.some.inj e
    have := (O2.out.1.lt _ hb).1
    have := HG.out
    have := G1.out.size
    omega))
  clear o3 g3
  go_wp2_with fail
  refine (i_bend D.reverse (by have := HD.out.2.1; rw [List.length_reverse]; omega) (fun p hp => BD.out p (List.mem_reverse.1 hp)) lo w3.heap.size _ w3 O3.out).mono ?_
  rintro e w4 ⟨⟨u4, rfl, h4⟩, b4⟩
  have O4 := Lib.hid h4
  have B4 := Lib.hid b4
  obtain ⟨a4, c4, rfl, _, _⟩ := h4.shape
  have P4 := Lib.hid ((P2.out.mono (Nat.le_refl _) (Nat.le_refl _)).kept (Kept.of_below (lo := w2.heap.size) (hi := w2.heap.size) b4) (.inl (Nat.le_refl _)))
  have hl1 := bendL_len D
  have hl2 := bendL_len D.reverse
  rw [List.length_reverse, HD.out.2.1] at hl2
  rw [HD.out.2.1] at hl1
  have HL := Lib.hid (And.intro hl1 hl2)
  clear h4 b4 hl1 hl2
  go_wp2_with (at_builtin; go_must (refine list_appG rfl _ _ 61 rfl w1.heap.size 65 i0 _ 3 24 Try.underlying61 HI.out.1 HI.out.2.1 HI.out.2.2.1 HI.out.2.2.2 rfl (by omega) _ (bendL D).length ((bendL D).flatMap encP) rfl P4.out.1 _ _ _ ((bendL D.reverse).flatMap encP) rfl (OwE.news encP_len O4.out).1 (OwE.news encP_len O4.out).2 (flatP_one _) (by have := HL.out; omega) (by omega) (by have := B2.out.size; have := G3.out.size; have := B4.out.size; omega) ?_; intro a5 c5 w5 ho5 hg5 hat5))
  have O5 := Lib.hid ho5
  have G5 := Lib.hid hg5
  clear ho5 hg5 hat5
  go_wp2
  go_ret
  have hz : w.heap.size ≤ w1.heap.size := G1.out.size
  refine ⟨⟨D, _, rfl, HD.out.1, by rw [HD.out.2.1, HN.out], HD.out.2.2, ?_⟩, ?_⟩
  · have e1 : (bendL D).flatMap encP ++ (bendL D.reverse).flatMap encP = (cornL D).flatMap encP := by unfold cornL; rw [List.flatMap_append]
    have hlen : (cornL D).length = (bendL D).length + (bendL D.reverse).length := by unfold cornL; simp
    refine OwE.mono (lo := w1.heap.size) (hi := w5.heap.size) ⟨?_, fun b hb => (O5.out.lt b hb).2⟩ hz (Nat.le_refl _)
    rw [hlen, ← e1]
    exact O5.out
  · have g2 : w.grownBy w2 (some g) := grownTrans G1.out (r2 := none) ⟨B2.out.os, B2.out.tape, B2.out.output, B2.out.size, fun q hq _ => B2.out.block q hq⟩ (fun b hb => by cases hb)
    have g3 := grownTrans g2 G3.out (fun b hb => .inl hb)
    have g4 : w.grownBy w4 (some g) := grownTrans g3 (r2 := none) ⟨B4.out.os, B4.out.tape, B4.out.output, B4.out.size, fun q hq _ => B4.out.block q hq⟩ (fun b hb => by cases hb)
    exact grownTrans g4 G5.out (fun b hb => .inr (by have := (P4.out.1.lt b hb).1; omega))
end Go.Proofs.Ytoekgcafhcamjaa
/- Points as new rows (the code since e5f8e5e: vectorsOf). -/
namespace Go.Proofs.Ytoekgcafhcamjaa
open Go Go.RowKit Go.Lib

theorem owr_made {T e : TypeId} {base : Nat} {w : World} {v : Value} {n : Nat} (h : w.ownsRow base T 1 v n (List.replicate n (.slice none 0 0))) : OwR T e base w.heap.size w v (List.replicate n []) := by
  have key : ∀ (i : Nat) (u : Value), (List.replicate n (Value.slice none 0 0))[i]? = some u → u = .slice none 0 0 := fun i u hu => by
    rw [List.getElem?_replicate] at hu
    split at hu
    · exact (Option.some.inj hu).symm
    · cases hu
  refine ⟨List.replicate n (.slice none 0 0), by simp, OwnV.of_owns h, ?_, ?_, ?_⟩
  · intro i u zs hu hz
    have hz2 : zs = [] := by
      rw [List.getElem?_replicate] at hz
      split at hz
      · exact (Option.some.inj hz).symm
      · cases hz
    rw [key i u hu, hz2]
    exact OwnV.nil
  · intro i j u u' b _ hu _ hub
    rw [key i u hu] at hub
    cases hub
  · intro i u b hu hub
    rw [key i u hu] at hub
    cases hub
theorem made_nils (n : Nat) : (madeCells #[Value.slice none 0 0] (n * 1)).toList = List.replicate n (.slice none 0 0) := by
  refine List.ext_getElem? fun i => ?_
  unfold madeCells
  rw [Array.getElem?_toList, Array.getElem?_map, List.getElem?_replicate]
  by_cases hi : i < n
  · simp [hi]
    rw [show i % 1 = 0 by omega]
    rfl
  · simp [hi]
/-- The first k are there, the others nil. -/
def fillR (ps : List P2) (k : Nat) : List (List Int) := (ps.take k).map rowOf ++ List.replicate (ps.length - k) []
theorem fillR_zero (ps : List P2) : fillR ps 0 = List.replicate ps.length [] := by simp [fillR]
theorem fillR_all (ps : List P2) : fillR ps ps.length = ps.map rowOf := by simp [fillR]
theorem fillR_len (ps : List P2) (k : Nat) (h : k ≤ ps.length) : (fillR ps k).length = ps.length := by simp [fillR]; omega
theorem fillR_step (ps : List P2) (k : Nat) (h : k < ps.length) : (fillR ps k).set k (rowOf ps[k]) = fillR ps (k + 1) := by
  unfold fillR
  rw [List.set_append_right _ _ (by simp; omega), List.length_map, List.length_take, Nat.min_eq_left (by omega), Nat.sub_self]
  rw [show ps.length - k = (ps.length - (k + 1)) + 1 by omega, List.replicate_succ, List.set_cons_zero, List.take_succ_eq_append_getElem h, List.map_append]
  simp
theorem sl_two {w : World} {B : Nat} {x y z : Int} {T : TypeId} (hb : Bk w B #[.int .i64 x, .int .i64 y, .int .i64 z] T) : Sl w (.slice (some ⟨B, 0, none⟩) 2 3) (intVals (rowOf (x, y))) := by
  obtain ⟨h0, h1, _⟩ := bk3c hb
  refine .inr ⟨by simp [intVals, rowOf], B, 0, 3, by simp [intVals, rowOf], by simp [intVals, rowOf], by simp [intVals, rowOf, maxLen], hb.lt, fun i u hi => ?_⟩
  match i, hi with
  | 0, hi => obtain rfl := Option.some.inj hi; exact h0
  | 1, hi => obtain rfl := Option.some.inj hi; exact h1
  | _ + 2, hi => simp [intVals, rowOf] at hi
theorem owp_rd3 {lo hi : Nat} {w : World} {v : Value} {ps : List P2} (h : OwP lo hi w v ps) : Rd3 w v (ps.map fun p => (p.1, p.2, 0)) := by
  obtain ⟨a, c, rfl, h1, h2⟩ := h.shape
  refine ⟨a, c, by rw [List.length_map], by rw [List.length_map]; exact h1, h2, fun j hj => ?_⟩
  rw [List.length_map] at hj
  obtain ⟨b, rfl, _, _, _, hb, _, ⟨c0, c1, c2⟩, _⟩ := h.at3 j hj rfl
  refine ⟨b, 0, rfl, hb, ?_, ?_, ?_⟩
  · rw [Nat.zero_add, List.getElem_map]; exact c0
  · rw [Nat.zero_add, List.getElem_map]; exact c1
  · rw [Nat.zero_add, List.getElem_map]; exact c2
theorem i_plane2 (ps : List P2) (h200 : ps.length ≤ 1048576) (lo hi : Nat) (v : Value) (w : World) (hv : OwP lo hi w v ps) :
    Calls Try.prog 61 #[v, .int .i64 2] w (MadeR w (ps.map rowOf)) := by
  have h := i_vecs2 (ps.map fun p => (p.1, p.2, 0)) (by rw [List.length_map]; exact h200) v w (owp_rd3 hv)
  rw [show cutT 2 (ps.map fun p => ((p.1, p.2, 0) : T3)) = ps.map rowOf by unfold cutT; rw [List.map_map]; rfl] at h
  exact h
end Go.Proofs.Ytoekgcafhcamjaa
/- The program's HullOf. -/
namespace Go.Proofs.Ytoekgcafhcamjaa
open Go Go.RowKit Go.Lib

def fillP (l : List (List Int)) (k : Nat) : List P2 := (l.take k).map ptOf ++ List.replicate (l.length - k) (0, 0)
theorem fillP_zero (l : List (List Int)) : fillP l 0 = List.replicate l.length (0, 0) := by simp [fillP]
theorem fillP_all (l : List (List Int)) : fillP l l.length = l.map ptOf := by simp [fillP]
theorem fillP_len (l : List (List Int)) (k : Nat) (h : k ≤ l.length) : (fillP l k).length = l.length := by simp [fillP]; omega
theorem fillP_step (l : List (List Int)) (k : Nat) (h : k < l.length) : (fillP l k).set k (ptOf l[k]) = fillP l (k + 1) := by
  unfold fillP
  rw [List.set_append_right _ _ (by simp; omega), List.length_map, List.length_take, Nat.min_eq_left (by omega), Nat.sub_self]
  rw [show l.length - k = (l.length - (k + 1)) + 1 by omega, List.replicate_succ, List.set_cons_zero, List.take_succ_eq_append_getElem h, List.map_append]
  simp
theorem splice_two {x : List Int} (h : x.length = 2) : splice [Value.int .i64 0, .int .i64 0, .int .i64 0] 0 (intVals x) = [.int .i64 (ptOf x).1, .int .i64 (ptOf x).2, .int .i64 0] := by
  match x, h with
  | [a, b], _ => rfl
theorem flat_pt {l : List (List Int)} (h : flatR l = true) : ∀ p ∈ l.map ptOf, BdP 50 p := by
  intro p hp
  obtain ⟨v, hv, rfl⟩ := List.mem_map.1 hp
  obtain ⟨h1, h2⟩ := flatR_t h v hv
  match v, h1 with
  | [a, b], _ =>
    have h3 := small_get h2 0 (by simp)
    have h4 := small_get h2 1 (by simp)
    exact ⟨h3, h4⟩
theorem hullR_none {l : List (List Int)} (h : hullP l = ([], false)) : hullR l = ([], false) := by unfold hullR; rw [h]; rfl
theorem gotr_mk {w : World} {r r' : List (List Int) × Bool} {e : Ending} {w' : World} (h : r' = r) (g : GotR w r e w') : GotR w r' e w' := by subst h; exact g
set_option maxRecDepth 100000 in
set_option maxHeartbeats 3200000 in
theorem i_hullof (l : List (List Int)) (v : Value) (w : World) (hv : Rw w v l) :
    Calls Try.prog 37 #[v] w (GotR w (hullR l)) := by
  have HV := Lib.hid hv
  obtain ⟨a, c, rfl, hm, hopen⟩ := hv.shape
  unfold maxLen at hm
  have HO := Lib.hid hopen
  clear hv hopen
  by_cases c1 : 200 < l.length
  case pos =>
    have HE := Lib.hid (hullR_none (l := l) (by unfold hullP; rw [if_pos (.inl c1)]))
    have i1 : (200 : Int) < (l.length : Int) := by omega
    go_enter Try.func37, Try.ntmps37
    go_wp2
    go_ret2
    exact gotr_mk HE.out ⟨⟨_, rfl, OwR.nil⟩, Below.refl _ _⟩
  by_cases c2 : flatR l = true
  case neg =>
    have HE := Lib.hid (hullR_none (l := l) (by unfold hullP; rw [if_pos (.inr c2)]))
    have C2 := Lib.hid (bool_f c2)
    have i1 : ¬ (200 : Int) < (l.length : Int) := by omega
    clear c2
    go_enter Try.func37, Try.ntmps37
    go_wp2_with fail
    refine (i_containscn l _ _ HV.out).mono ?_
    rintro e w1 ⟨rfl, hb⟩
    rw [C2.out]
    have HB := Lib.hid hb
    go_wp2
    go_ret2
    exact gotr_mk HE.out ⟨⟨_, rfl, OwR.nil⟩, HB.out⟩
  have C2 := Lib.hid c2
  have i1 : ¬ (200 : Int) < (l.length : Int) := by omega
  obtain ⟨i0, hi', hz0, hz1, hz2⟩ := info_parts info_nums
  clear c2
  go_enter Try.func37, Try.ntmps37
  go_wp2_with fail
  refine (i_containscn l _ _ HV.out).mono ?_
  rintro e w0 ⟨rfl, hb⟩
  rw [C2.out]
  have HB0 := Lib.hid hb
  clear hb
  go_wp2_with (at_make; refine wpList_make_full _ rfl _ _ 61 rfl w0.heap.size 65 i0 _ 3 Try.underlying61 hi' hz0 hz1 .i64 .i64 _ _ l.length rfl rfl rfl rfl (by rw [hz2]; omega) (by unfold maxLen; omega) (by simp) ?_; intro w1 hown hgrow; have hbel : Below w0.heap.size w0 w1 := (Below.refl _ _).grown hgrow (Nat.le_refl _) (fun q hq => by cases hq))
  rw [show (Value.agg #[.int .i64 0, .int .i64 0, .int .i64 0]).cells = #[Value.int .i64 0, .int .i64 0, .int .i64 0] from rfl] at hown
  have hlt1 : w0.heap.size < w1.heap.size := by have := (hown.lt _ rfl).2; simpa using this
  have O1 := Lib.hid (show OwP w0.heap.size w1.heap.size w1 (.slice (some ⟨w0.heap.size, 0, none⟩) l.length l.length) (fillP l 0) by rw [fillP_zero]; exact OwE.zeros3 hown (Nat.le_refl _) hlt1)
  have B1 := Lib.hid hbel
  have HL1 := Lib.hid hlt1
  clear hown hgrow hbel hi' hz0 hz1 hz2 hlt1
  go_loopw [20] (fun i wr => ∃ k : Nat, k ≤ l.length ∧ i = .int .i64 k ∧ OwP w0.heap.size wr.heap.size wr (.slice (some ⟨w0.heap.size, 0, none⟩) l.length l.length) (fillP l k) ∧ Below w0.heap.size w0 wr) (fun i _ => l.length - (RowKit.intOf i).toNat)
  case atStart => exact ⟨0, Nat.zero_le _, rfl, O1.out, B1.out⟩
  case round =>
    obtain ⟨k, hk, rfl, ho, hb⟩ := hrel
    have HK := Lib.hid ho
    have HB := Lib.hid (HB0.out.trans (hb.mono HB0.out.size))
    have HB9 := Lib.hid hb
    clear ho hb
    by_cases hlt : k < l.length
    · have i2 : (0 : Int) ≤ (k : Int) := by omega
      have i3 : (k : Int) < (l.length : Int) := by omega
      obtain ⟨b, off, u, rfl, hc, hlt2, hcell, hsu⟩ := HO.out k _ (List.getElem?_eq_getElem hlt)
      rw [← HB.out.cell (p := ⟨b, off + k, none⟩) hlt2] at hcell
      have FS := Lib.hid (fillP_step l k hlt)
      have FL := Lib.hid (fillP_len l k hk)
      have h2 := (flatR_t C2.out l[k] (List.getElem_mem hlt)).1
      obtain ⟨x, hx⟩ : ∃ x, l[k] = x := ⟨_, rfl⟩
      rw [hx] at hsu FS h2
      have HU := Lib.hid (hsu.below HB.out)
      obtain ⟨ua, uc, rfl, _, _⟩ := hsu.shape
      have S2 := Lib.hid (splice_two h2)
      have H2 := Lib.hid h2
      obtain ⟨p, hp⟩ : ∃ p, ptOf x = p := ⟨_, rfl⟩
      rw [hp] at FS S2
      obtain ⟨p1, p2⟩ := p
      simp only at S2
      clear hx hsu h2 hp
      go_wp2_with fail
      refine (i_num x p1 p2 0 S2.out (by have := H2.out; omega) (by have := H2.out; omega) _ _ HU.out).mono ?_
      rintro e w2 ⟨rfl, hb2⟩
      have K2 := Lib.hid (HK.out.below hb2)
      have B2 := Lib.hid (HB9.out.trans (hb2.mono HB9.out.size))
      obtain ⟨b4, e4, -, -, -, -, -, ⟨q0, q1, q2⟩, qf⟩ := K2.out.at3 k (by rw [FL.out]; exact hlt) rfl
      simp only [Option.some.injEq, Addr.mk.injEq, and_true] at e4
      subst e4
      have f0 := qf (k * 3)
      have f1 := qf (k * 3 + 1)
      have f2 := qf (k * 3 + 2)
      have O3 := Lib.hid (K2.out.put3 k (by rw [FL.out]; exact hlt) (p1, p2))
      rw [FS.out] at O3
      have B3 := Lib.hid (((B2.out.setCell (p := ⟨w0.heap.size, k * 3, none⟩) (Nat.le_refl _) (.int .i64 p1)).setCell (p := ⟨w0.heap.size, k * 3 + 1, none⟩) (Nat.le_refl _) (.int .i64 p2)).setCell (p := ⟨w0.heap.size, k * 3 + 2, none⟩) (Nat.le_refl _) (.int .i64 0))
      have Z3 := Lib.hid hb2.size
      clear hb2 qf
      go_wp2
      exact ⟨⟨k + 1, by omega, by go_num, O3.out.mono (Nat.le_refl _) (by have := Z3.out; simp [World.setCell]; omega), B3.out⟩, by simp [RowKit.intOf]; omega⟩
    · obtain rfl : k = l.length := by omega
      have h := HK.out
      rw [fillP_all] at h
      have HP := Lib.hid h
      have HF := Lib.hid (flat_pt C2.out)
      clear h
      go_wp2_with fail
      refine (i_corners (l.map ptOf) w0.heap.size wr.heap.size w0.heap.size l.length l.length wr (by simp) (by omega) HF.out (Nat.le_refl _) HP.out).mono ?_
      rintro e w2 ⟨⟨D, u, rfl, d1, d2, d3, d4⟩, g2⟩
      have HR := Lib.hid (hull_prog (by omega) C2.out d3 d1)
      have ML := cornL_len D
      rw [d2, List.length_map] at ML
      obtain ⟨ua, uc, rfl, _, _⟩ := d4.shape
      have O2 := Lib.hid d4
      have B2 := Lib.hid (HB.out.trans ((Below.refl w.heap.size wr).grown g2 HB.out.size (fun q hq => by have := Option.some.inj hq; have := HB0.out.size; omega)))
      have HC := Lib.hid (show ∀ r, cornR D = r → hullR l = (r.1.map rowOf, r.2) from fun r hr => by unfold hullR; rw [HR.out, hr])
      obtain ⟨m, hm9⟩ : ∃ m, (cornL D).length = m := ⟨_, rfl⟩
      have HM := Lib.hid hm9
      rw [hm9] at O2 ML ⊢
      clear d1 d2 d3 d4 g2 hm9
      by_cases m1 : m < 3
      · have j1 : (m : Int) < 3 := by omega
        have HE := Lib.hid (HC.out _ (show cornR D = ([], false) by unfold cornR; rw [if_pos (.inl (by rw [HM.out]; exact m1))]))
        go_wp2
        go_ret2
        exact gotr_mk HE.out ⟨⟨_, rfl, OwR.nil⟩, B2.out⟩
      · have j1 : ¬ (m : Int) < 3 := by omega
        by_cases m2 : 12 < m
        · have j2 : (12 : Int) < (m : Int) := by omega
          have HE := Lib.hid (HC.out _ (show cornR D = ([], false) by unfold cornR; rw [if_pos (.inr (by rw [HM.out]; exact m2))]))
          go_wp2
          go_ret2
          exact gotr_mk HE.out ⟨⟨_, rfl, OwR.nil⟩, B2.out⟩
        · have j2 : ¬ (12 : Int) < (m : Int) := by omega
          have HE := Lib.hid (HC.out _ (show cornR D = (cornL D, true) by unfold cornR; rw [if_neg (by rw [HM.out]; omega)]))
          go_wp2_with fail
          refine (i_plane2 (cornL D) (by rw [HM.out]; omega) wr.heap.size w2.heap.size _ w2 O2.out).mono ?_
          rintro e w3 ⟨⟨u3, rfl, h3⟩, b3⟩
          have O3 := Lib.hid (h3.mono B2.out.size (Nat.le_refl _))
          have B3 := Lib.hid (B2.out.trans (b3.mono B2.out.size))
          clear h3 b3
          go_wp2
          go_ret2
          exact gotr_mk HE.out ⟨⟨_, rfl, O3.out⟩, B3.out⟩
end Go.Proofs.Ytoekgcafhcamjaa
/- Lists of rows that are the same, on both sides; both IsPolygon. -/
namespace Go.Proofs.Ytoekgcafhcamjaa
open Go.RowKit Go.Lib

theorem Rw.cells {w : World} {a : Option Addr} {n c : Nat} {l : List (List Int)} (h : Rw w (.slice a n c) l) (k : Nat) (hk : k < l.length) : ∃ (b off : Nat) (x : Value), a = some ⟨b, off, none⟩ ∧ b < w.heap.size ∧ w.cell? ⟨b, off + k, none⟩ = some x ∧ Sl w x (intVals l[k]) := by
  obtain ⟨a', c', e, _, ho⟩ := h.shape
  simp only [Value.slice.injEq] at e
  obtain ⟨rfl, rfl, rfl⟩ := e
  obtain ⟨b, off, u, h1, _, h2, h3, h4⟩ := ho k _ (List.getElem?_eq_getElem hk)
  exact ⟨b, off, u, h1, h2, h3, h4⟩
set_option maxRecDepth 100000 in
set_option maxHeartbeats 1600000 in
theorem i_eqrows (hs ks : List (List Int)) (v u : Value) (w : World) (hv : Rw w v hs) (hu : Rw w u ks) :
    Calls Try.prog 94 #[v, u, .func (.func 95) #[] #[]] w (Quiet w (.bool (decide (hs = ks)))) := by
  have HX := Lib.hid hv
  have HY := Lib.hid hu
  obtain ⟨a, c, rfl, hm, _⟩ := hv.shape
  obtain ⟨b, d, rfl, _, _⟩ := hu.shape
  unfold maxLen at hm
  clear hv hu
  by_cases hl : hs.length = ks.length
  case neg =>
    have E := Lib.hid (show ¬ hs = ks from fun e => hl (by rw [e]))
    have hne3 : ((hs.length : Int) == (ks.length : Int)) = false := by rw [beq_eq_false_iff_ne]; omega
    have hne4 : ((hs.length : Int) != (ks.length : Int)) = true := by rw [bne_iff_ne]; omega
    have hne5 : (hs.length == ks.length) = false := by rw [beq_eq_false_iff_ne]; exact hl
    have hne6 : (hs.length != ks.length) = true := by rw [bne_iff_ne]; exact hl
    go_enter Try.func94, Try.ntmps94
    go_wp2
    go_ret
    exact ⟨ret_bool (decide_eq_false E.out).symm, Below.refl _ _⟩
  have HL := Lib.hid hl
  rw [← hl] at HY ⊢
  clear hl
  go_enter Try.func94, Try.ntmps94
  go_wp2
  go_loopw [7, 17] (fun _ i wr => ∃ k : Nat, k ≤ hs.length ∧ i = .int .i64 k ∧ hs.take k = ks.take k ∧ Below w.heap.size w wr) (fun _ i _ => hs.length - (RowKit.intOf i).toNat)
  case atStart => exact ⟨0, Nat.zero_le _, rfl, rfl, Below.refl _ _⟩
  case round =>
    obtain ⟨k, hk, rfl, ht, hbr⟩ := hrel
    have HT := Lib.hid ht
    have HA := Lib.hid hbr
    clear ht
    by_cases hlt : k < hs.length
    · have hlt' : k < ks.length := by have := HL.out; omega
      have i1 : (0 : Int) ≤ (k : Int) := by omega
      have i2 : (k : Int) < (hs.length : Int) := by omega
      obtain ⟨b1, o1, x, rfl, hb2, hcell, hsx⟩ := HX.out.cells k hlt
      obtain ⟨b2, o2, y, rfl, hb2', hcell', hsy⟩ := HY.out.cells k hlt'
      rw [← HA.out.cell (p := ⟨b1, o1 + k, none⟩) hb2] at hcell
      rw [← HA.out.cell (p := ⟨b2, o2 + k, none⟩) hb2'] at hcell'
      have QX := Lib.hid (hsx.below HA.out)
      have QY := Lib.hid (hsy.below HA.out)
      obtain ⟨xa, xc, rfl, _⟩ := hsx.shape
      obtain ⟨ya, yc, rfl, _⟩ := hsy.shape
      clear hsx hsy hbr
      obtain ⟨q, hq⟩ : ∃ q : Bool, decide (hs[k] = ks[k]) = q := ⟨_, rfl⟩
      have HQ := Lib.hid hq
      clear hq
      go_wp2_with fail
      refine (i_sameP hs[k] ks[k] _ _ _ QX.out QY.out).mono ?_
      rintro e w1 ⟨rfl, hb1⟩
      rw [HQ.out]
      have HB1 := Lib.hid (HA.out.trans (hb1.mono HA.out.size))
      clear hb1 hcell hcell'
      cases q with
      | true =>
        go_wp2
        exact ⟨⟨k + 1, by omega, by go_num, takeEqStep hlt hlt' HT.out (of_decide_eq_true HQ.out), HB1.out⟩, by simp [RowKit.intOf]; omega⟩
      | false =>
        go_wp2
        go_ret
        exact ⟨ret_bool (decide_eq_false (getNe hlt hlt' (of_decide_eq_false HQ.out))).symm, HB1.out⟩
    · obtain rfl : k = hs.length := by omega
      have E := Lib.hid (takeAllEq HL.out rfl HT.out)
      clear hbr
      go_wp2
      go_ret
      exact ⟨ret_bool (decide_eq_true E.out).symm, HA.out⟩
set_option maxRecDepth 100000 in
set_option maxHeartbeats 1600000 in
theorem s_samelist (hs ks : List (List Int)) (v u : Value) (w : World) (hv : Rw w v hs) (hu : Rw w u ks) :
    Calls Try.prog 93 #[v, u] w (Quiet w (.bool (decide (hs = ks)))) := by
  have HX := Lib.hid hv
  have HY := Lib.hid hu
  obtain ⟨a, c, rfl, hm, _⟩ := hv.shape
  obtain ⟨b, d, rfl, _, _⟩ := hu.shape
  unfold maxLen at hm
  clear hv hu
  by_cases hl : hs.length = ks.length
  case neg =>
    have E := Lib.hid (show ¬ hs = ks from fun e => hl (by rw [e]))
    have hne3 : ((hs.length : Int) == (ks.length : Int)) = false := by rw [beq_eq_false_iff_ne]; omega
    have hne4 : ((hs.length : Int) != (ks.length : Int)) = true := by rw [bne_iff_ne]; omega
    have hne5 : (hs.length == ks.length) = false := by rw [beq_eq_false_iff_ne]; exact hl
    have hne6 : (hs.length != ks.length) = true := by rw [bne_iff_ne]; exact hl
    go_enter Try.func93, Try.ntmps93
    go_wp2
    go_ret
    exact ⟨ret_bool (decide_eq_false E.out).symm, Below.refl _ _⟩
  have HL := Lib.hid hl
  rw [← hl] at HY ⊢
  clear hl
  go_enter Try.func93, Try.ntmps93
  go_wp2
  go_loopw [5] (fun i wr => ∃ k : Nat, k ≤ hs.length ∧ i = .int .i64 k ∧ hs.take k = ks.take k ∧ Below w.heap.size w wr) (fun i _ => hs.length - (RowKit.intOf i).toNat)
  case atStart => exact ⟨0, Nat.zero_le _, rfl, rfl, Below.refl _ _⟩
  case round =>
    obtain ⟨k, hk, rfl, ht, hbr⟩ := hrel
    rename World => w2
    have HT := Lib.hid ht
    have HA := Lib.hid hbr
    clear ht
    by_cases hlt : k < hs.length
    · have hlt' : k < ks.length := by have := HL.out; omega
      have i1 : (0 : Int) ≤ (k : Int) := by omega
      have i2 : (k : Int) < (hs.length : Int) := by omega
      obtain ⟨b1, o1, x, rfl, hb2, hcell, hsx⟩ := HX.out.cells k hlt
      obtain ⟨b2, o2, y, rfl, hb2', hcell', hsy⟩ := HY.out.cells k hlt'
      rw [← HA.out.cell (p := ⟨b1, o1 + k, none⟩) hb2] at hcell
      rw [← HA.out.cell (p := ⟨b2, o2 + k, none⟩) hb2'] at hcell'
      have QX := Lib.hid hsx
      have QY := Lib.hid hsy
      obtain ⟨xa, xc, rfl, _⟩ := hsx.shape
      obtain ⟨ya, yc, rfl, _⟩ := hsy.shape
      have h1 : b1 < w2.heap.size := Nat.lt_of_lt_of_le hb2 hbr.size
      have h2 : b2 < w2.heap.size := Nat.lt_of_lt_of_le hb2' hbr.size
      clear hsx hsy hbr hb2 hb2'
      obtain ⟨q, hq⟩ : ∃ q : Bool, decide (hs[k] = ks[k]) = q := ⟨_, rfl⟩
      have HQ := Lib.hid hq
      have hbr : Below w2.heap.size w2 w2 := Below.refl _ _
      clear hq
      go_wp2_with fail
      go_region_held3 (fun w' => w'.cell? ⟨b1, o1 + k, none⟩ = some (.slice xa (intVals hs[k]).length xc) ∧ w'.cell? ⟨b2, o2 + k, none⟩ = some (.slice ya (intVals ks[k]).length yc) ∧ Below w2.heap.size w2 w')
        (first
          | with_reducible exact keepP2 hcell hcell' hbr
          | (go_split_ands; with_reducible exact keepQ2 h1 h2 (by assumption) (by assumption) (by assumption) (by assumption))
          | go_keep)
        (first | (go_at_call 116; refine (s_sameP hs[k] ks[k] _ _ _ (QX.out.below HA.out.drew) (QY.out.below HA.out.drew)).mono ?_; rintro e w3 ⟨rfl, hb3⟩; rw [HQ.out]))
      rename_i hH
      have HB1 := Lib.hid (HA.out.trans (hH.2.2.mono HA.out.size))
      clear hH hbr hcell hcell'
      cases q with
      | true =>
        go_wp2
        exact ⟨⟨k + 1, by omega, by go_num, takeEqStep hlt hlt' HT.out (of_decide_eq_true HQ.out), HB1.out⟩, by simp [RowKit.intOf]; omega⟩
      | false =>
        go_wp2
        go_ret
        exact ⟨ret_bool (decide_eq_false (getNe hlt hlt' (of_decide_eq_false HQ.out))).symm, HB1.out⟩
    · obtain rfl : k = hs.length := by omega
      have E := Lib.hid (takeAllEq HL.out rfl HT.out)
      clear hbr
      go_wp2
      go_ret
      exact ⟨ret_bool (decide_eq_true E.out).symm, HA.out⟩

/-- What IsPolygon answers. -/
def polyR (p : List (List Int)) : Bool := decide (hullR p = (p, true))
theorem polyR_t {p : List (List Int)} (h : polyR p = true) : hullR p = (p, true) := of_decide_eq_true h
theorem hull_shape {p : List (List Int)} (h : (hullR p).2 = true) : p.length ≤ 200 ∧ flatR p = true ∧ 3 ≤ (hullR p).1.length ∧ (hullR p).1.length ≤ 12 := by
  unfold hullR hullP at h ⊢
  simp only at h ⊢
  split at h
  · cases h
  · rename_i h1
    rw [if_neg h1]
    split at h
    · cases h
    · rename_i h2
      rw [if_neg h2]
      unfold cornR at h ⊢
      split at h
      · cases h
      · rename_i h3
        rw [if_neg h3, List.length_map]
        refine ⟨by omega, ?_, by simp only; omega, by simp only; omega⟩
        cases hf : flatR p with
        | true => rfl
        | false => exact absurd (Or.inr (by rw [hf]; simp)) h1
theorem polyR_shape {p : List (List Int)} (h : polyR p = true) : 3 ≤ p.length ∧ p.length ≤ 12 ∧ flatR p = true := by
  have e := polyR_t h
  have k := hull_shape (p := p) (by rw [e])
  rw [e] at k
  exact ⟨k.2.2.1, k.2.2.2, k.2.1⟩
theorem polyR_of {p : List (List Int)} {q : Bool} (h : (hullR p).2 = true) (e : decide (p = (hullR p).1) = q) : polyR p = q := by
  rw [← e]
  unfold polyR
  exact decide_eq_decide.2 ⟨fun k => by rw [k], fun k => Prod.ext k.symm h⟩
theorem polyR_no {p : List (List Int)} (h : (hullR p).2 = false) : polyR p = false := decide_eq_false fun k => by rw [k] at h; cases h
set_option maxRecDepth 100000 in
set_option maxHeartbeats 800000 in
theorem i_ispoly (p : List (List Int)) (v : Value) (w : World) (hv : Rw w v p) :
    Calls Try.prog 42 #[v] w (Quiet w (.bool (polyR p))) := by
  have HV := Lib.hid hv
  obtain ⟨ok, hok⟩ : ∃ ok, (hullR p).2 = ok := ⟨_, rfl⟩
  have HK := Lib.hid hok
  clear hv hok
  cases ok
  case false =>
    have HE := Lib.hid (polyR_no HK.out)
    go_enter Try.func42, Try.ntmps42
    go_wp2_with fail
    refine (i_hullof p v w HV.out).mono ?_
    rintro e w1 ⟨⟨u, rfl, ho⟩, hb⟩
    rw [HK.out]
    have HB := Lib.hid hb
    obtain ⟨ua, uc, rfl, _, _⟩ := ho.rw.shape
    clear ho hb
    go_wp2
    go_ret
    exact ⟨ret_bool HE.out.symm, HB.out⟩
  case true =>
    obtain ⟨q, hq⟩ : ∃ q : Bool, decide (p = (hullR p).1) = q := ⟨_, rfl⟩
    have HQ := Lib.hid hq
    have HE := Lib.hid (polyR_of HK.out hq)
    clear hq
    go_enter Try.func42, Try.ntmps42
    go_wp2_with fail
    refine (i_hullof p v w HV.out).mono ?_
    rintro e w1 ⟨⟨u, rfl, ho⟩, hb⟩
    rw [HK.out]
    have HB := Lib.hid hb
    have HO := Lib.hid ho.rw
    obtain ⟨ua, uc, rfl, _, _⟩ := ho.rw.shape
    clear ho hb
    go_wp2_with fail
    refine (i_eqrows p (hullR p).1 _ _ _ (HV.out.below HB.out) HO.out).mono ?_
    rintro e w2 ⟨rfl, hb2⟩
    rw [HQ.out]
    have HB2 := Lib.hid (HB.out.trans (hb2.mono HB.out.size))
    clear hb2
    go_wp2
    go_ret
    exact ⟨ret_bool HE.out.symm, HB2.out⟩
set_option maxRecDepth 100000 in
set_option maxHeartbeats 800000 in
theorem s_ispoly (p : List (List Int)) (v : Value) (w : World) (hv : Rw w v p) :
    Calls Try.prog 41 #[v] w (Quiet w (.bool (polyR p))) := by
  have HV := Lib.hid hv
  obtain ⟨a, c, rfl, hm, _⟩ := hv.shape
  unfold maxLen at hm
  clear hv
  by_cases c1 : 3 ≤ p.length ∧ p.length ≤ 12
  case neg =>
    have HI := Lib.hid (inR_f (x := (p.length : Int)) (lo := 3) (hi := 12) (fun h => c1 (by omega)))
    have HE := Lib.hid (show polyR p = false by
      cases hq : polyR p with
      | false => rfl
      | true => exact absurd ⟨(polyR_shape hq).1, (polyR_shape hq).2.1⟩ c1)
    clear c1
    go_enter Try.func41, Try.ntmps41
    go_wp2_with fail
    refine (s_in _ _ _ _).mono ?_
    rintro e w1 ⟨rfl, rfl⟩
    rw [HI.out]
    go_wp2
    go_ret
    exact ⟨ret_bool HE.out.symm, Below.refl _ _⟩
  have HI := Lib.hid (inR_mk (x := (p.length : Int)) (lo := 3) (hi := 12) (by omega) (by omega))
  clear c1
  by_cases c2 : flatR p = true
  case neg =>
    have C2 := Lib.hid (bool_f c2)
    have HE := Lib.hid (show polyR p = false by
      cases hq : polyR p with
      | false => rfl
      | true => exact absurd (polyR_shape hq).2.2 c2)
    clear c2
    go_enter Try.func41, Try.ntmps41
    go_wp2_with fail
    refine (s_in _ _ _ _).mono ?_
    rintro e w1 ⟨rfl, rfl⟩
    rw [HI.out]
    go_wp2_with fail
    refine (s_flat p _ _ HV.out).mono ?_
    rintro e w1 ⟨rfl, hb⟩
    rw [C2.out]
    have HB := Lib.hid hb
    clear hb
    go_wp2
    go_ret
    exact ⟨ret_bool HE.out.symm, HB.out⟩
  have C2 := Lib.hid c2
  clear c2
  obtain ⟨ok, hok⟩ : ∃ ok, (hullR p).2 = ok := ⟨_, rfl⟩
  have HK := Lib.hid hok
  clear hok
  cases ok
  case false =>
    have HE := Lib.hid (polyR_no HK.out)
    go_enter Try.func41, Try.ntmps41
    go_wp2_with fail
    refine (s_in _ _ _ _).mono ?_
    rintro e w1 ⟨rfl, rfl⟩
    rw [HI.out]
    go_wp2_with fail
    refine (s_flat p _ _ HV.out).mono ?_
    rintro e w1 ⟨rfl, hb⟩
    rw [C2.out]
    have HB := Lib.hid hb
    clear hb
    go_wp2_with fail
    refine (s_hullof p _ _ (HV.out.below HB.out)).mono ?_
    rintro e w2 ⟨⟨u, rfl, ho⟩, hb⟩
    rw [HK.out]
    have HB2 := Lib.hid (HB.out.trans (hb.mono HB.out.size))
    obtain ⟨ua, uc, rfl, _, _⟩ := ho.rw.shape
    clear ho hb
    go_wp2
    go_ret
    exact ⟨ret_bool HE.out.symm, HB2.out⟩
  case true =>
    obtain ⟨q, hq⟩ : ∃ q : Bool, decide (p = (hullR p).1) = q := ⟨_, rfl⟩
    have HQ := Lib.hid (show decide ((hullR p).1 = p) = q by rw [← hq]; exact decide_eq_decide.2 ⟨Eq.symm, Eq.symm⟩)
    have HE := Lib.hid (polyR_of HK.out hq)
    clear hq
    go_enter Try.func41, Try.ntmps41
    go_wp2_with fail
    refine (s_in _ _ _ _).mono ?_
    rintro e w1 ⟨rfl, rfl⟩
    rw [HI.out]
    go_wp2_with fail
    refine (s_flat p _ _ HV.out).mono ?_
    rintro e w1 ⟨rfl, hb⟩
    rw [C2.out]
    have HB := Lib.hid hb
    clear hb
    go_wp2_with fail
    refine (s_hullof p _ _ (HV.out.below HB.out)).mono ?_
    rintro e w2 ⟨⟨u, rfl, ho⟩, hb⟩
    rw [HK.out]
    have HB2 := Lib.hid (HB.out.trans (hb.mono HB.out.size))
    have HO := Lib.hid ho.rw
    obtain ⟨ua, uc, rfl, _, _⟩ := ho.rw.shape
    clear ho hb
    go_wp2_with fail
    refine (s_samelist (hullR p).1 p _ _ _ HO.out (HV.out.below HB2.out)).mono ?_
    rintro e w3 ⟨rfl, hb3⟩
    rw [HQ.out]
    have HB3 := Lib.hid (HB2.out.trans (hb3.mono HB2.out.size))
    clear hb3
    go_wp2
    go_ret
    exact ⟨ret_bool HE.out.symm, HB3.out⟩
end Go.Proofs.Ytoekgcafhcamjaa
/- The model's areas, sides and places. -/
namespace Go.Proofs.Ytoekgcafhcamjaa
open Go.RowKit Go.Lib

theorem mod_next {k n : Nat} : Int.tmod ((k : Int) + 1) (n : Int) = (((k + 1) % n : Nat) : Int) := by
  rw [Int.ofNat_tmod]; rfl
theorem side_at {ps : List P2} {k nx : Nat} (hk : k < ps.length) (hn : (k + 1) % ps.length = nx) (hx : nx < ps.length) : sideP ps k = (ps[k], ps[nx]) := by
  unfold sideP
  rw [hn, List.getD_eq_getElem?_getD, List.getD_eq_getElem?_getD, List.getElem?_eq_getElem hk, List.getElem?_eq_getElem hx]; rfl
theorem sides_bd {ps : List P2} (h : ∀ p ∈ ps, BdP 50 p) : BdS (sidesP ps) := by
  intro s hs
  obtain ⟨k, hk, rfl⟩ := List.mem_map.1 hs
  have hk : k < ps.length := by simpa using hk
  have hx : (k + 1) % ps.length < ps.length := Nat.mod_lt _ (by omega)
  rw [side_at hk rfl hx]
  exact ⟨h _ (List.getElem_mem _), h _ (List.getElem_mem _)⟩
theorem Rw.pt {w : World} {a : Option Addr} {n c : Nat} {ps : List P2} (h : Rw w (.slice a n c) (ps.map rowOf)) (k : Nat) (hk : k < ps.length) : ∃ (b off : Nat) (x : Value), a = some ⟨b, off, none⟩ ∧ b < w.heap.size ∧ w.cell? ⟨b, off + k, none⟩ = some x ∧ Sl w x (intVals (rowOf ps[k])) := by
  obtain ⟨b, off, x, h1, h2, h3, h4⟩ := h.cells k (by simpa using hk)
  exact ⟨b, off, x, h1, h2, h3, by simpa using h4⟩
theorem crossS_at (p q : P2) : p.1 * q.2 - p.2 * q.1 = crossS (p, q) := rfl
set_option maxRecDepth 100000 in
set_option maxHeartbeats 1600000 in
theorem s_area (ps : List P2) (h12 : ps.length ≤ 12) (hbd : ∀ p ∈ ps, BdP 50 p) (v : Value) (w : World) (hv : Rw w v (ps.map rowOf)) :
    Calls Try.prog 96 #[v] w (Quiet w (.int .i64 (areaL (sidesP ps)))) := by
  have HX := Lib.hid hv
  obtain ⟨va, vc, rfl, hvm, _⟩ := hv.shape
  rw [List.length_map] at HX hvm ⊢
  have HBD := Lib.hid hbd
  have AB := Lib.hid (area_bd (sides_bd hbd))
  clear hv hbd
  go_enter Try.func96, Try.ntmps96
  go_wp2
  go_loopw [3, 4] (fun s i wr => ∃ k : Nat, k ≤ ps.length ∧ i = .int .i64 k ∧ s = .int .i64 (areaL ((sidesP ps).take k)) ∧ Below w.heap.size w wr) (fun _ i _ => ps.length - (RowKit.intOf i).toNat)
  case atStart => exact ⟨0, Nat.zero_le _, rfl, rfl, Below.refl _ _⟩
  case round =>
    obtain ⟨k, hk, rfl, rfl, hbr⟩ := hrel
    rename World => w2
    have HA := Lib.hid hbr
    by_cases hlt : k < ps.length
    · have i1 : (0 : Int) ≤ (k : Int) := by omega
      have i2 : (k : Int) < (ps.length : Int) := by omega
      obtain ⟨nx, hnx⟩ : ∃ nx, (k + 1) % ps.length = nx := ⟨_, rfl⟩
      have hxl : nx < ps.length := by rw [← hnx]; exact Nat.mod_lt _ (by omega)
      have HSD := Lib.hid (side_at hlt hnx hxl)
      have j1 : IntKind.i64.wrap ((k : Int) + 1) = (k : Int) + 1 := by rw [IntWalk.i64_in _ (by omega)]
      have j2 : Int.tmod ((k : Int) + 1) (ps.length : Int) = (nx : Int) := by rw [mod_next, hnx]
      have j3 : ¬ (ps.length : Int) = 0 := by omega
      have j4 : ((ps.length : Int) == 0) = false := beq_eq_false_iff_ne.2 j3
      have j9 : ¬ ps = [] := fun e => by rw [e] at hlt; simp at hlt
      have j5 : IntKind.i64.wrap (nx : Int) = (nx : Int) := by rw [IntWalk.i64_in _ (by omega)]
      have j6 : (0 : Int) ≤ (nx : Int) := by omega
      have j7 : (nx : Int) < (ps.length : Int) := by omega
      obtain ⟨b1, o1, x, rfl, hb2, hcell, hsx⟩ := HX.out.pt k hlt
      obtain ⟨b2, o2, y, e2, _, hcell', hsy⟩ := HX.out.pt nx hxl
      simp only [Option.some.injEq, Addr.mk.injEq, and_true] at e2
      obtain ⟨rfl, rfl⟩ := e2
      rw [← HA.out.cell (p := ⟨b1, o1 + k, none⟩) hb2] at hcell
      rw [← HA.out.cell (p := ⟨b1, o1 + nx, none⟩) hb2] at hcell'
      have QX := Lib.hid hsx
      have QY := Lib.hid hsy
      obtain ⟨xa, xc, rfl, _⟩ := hsx.shape
      obtain ⟨ya, yc, rfl, _⟩ := hsy.shape
      have h1 : b1 < w2.heap.size := Nat.lt_of_lt_of_le hb2 hbr.size
      have B1 := HBD.out ps[k] (List.getElem_mem _)
      have B2 := HBD.out ps[nx] (List.getElem_mem _)
      have CB := Lib.hid (show BdP 4000 ps[k] ∧ BdP 4000 ps[nx] from ⟨B1.wide (by omega), B2.wide (by omega)⟩)
      have hsl : k < (sidesP ps).length := by rw [sidesP_len]; exact hlt
      have AT := Lib.hid (area_take hsl)
      rw [sidesP_get, HSD.out] at AT
      have b1' := AB.out k (by rw [sidesP_len]; omega)
      have b2' := crossS_bd (s := (ps[k], ps[nx])) ⟨B1, B2⟩
      obtain ⟨p, hp⟩ : ∃ p, ps[k] = p := ⟨_, rfl⟩
      obtain ⟨q, hq⟩ : ∃ q, ps[nx] = q := ⟨_, rfl⟩
      rw [hp, hq] at AT b2' CB
      rw [hp] at QX hcell
      rw [hq] at QY hcell'
      obtain ⟨sm, hs⟩ : ∃ sm, areaL ((sidesP ps).take k) = sm := ⟨_, rfl⟩
      obtain ⟨cr, hc⟩ : ∃ cr, crossS (p, q) = cr := ⟨_, rfl⟩
      rw [hs] at AT b1' ⊢
      rw [hc] at AT b2'
      have HC := Lib.hid hc
      have j8 : IntKind.i64.wrap (sm + cr) = sm + cr := by rw [IntWalk.i64_in _ (by omega)]
      have hbr : Below w2.heap.size w2 w2 := Below.refl _ _
      clear hsx hsy hb2 hnx B1 B2 hsl hs hc hp hq b1' b2'
      go_wp2_with fail
      go_region_held3 (fun w' => w'.cell? ⟨b1, o1 + k, none⟩ = some (.slice xa (intVals (rowOf p)).length xc) ∧ w'.cell? ⟨b1, o1 + nx, none⟩ = some (.slice ya (intVals (rowOf q)).length yc) ∧ Below w2.heap.size w2 w')
        (first
          | with_reducible exact keepP2 hcell hcell' hbr
          | (go_split_ands; with_reducible exact keepQ2 h1 h1 (by assumption) (by assumption) (by assumption) (by assumption))
          | go_keep)
        (first | (go_at_call 75; refine (s_cross p q CB.out.1 CB.out.2 _ _ _ (QX.out.below HA.out.drew) (QY.out.below HA.out.drew)).mono ?_; rintro e w3 ⟨rfl, hb3⟩; rw [crossS_at, HC.out]))
      rename_i hH
      have HB1 := Lib.hid (HA.out.trans (hH.2.2.mono HA.out.size))
      clear hH hbr hcell hcell'
      go_wp2
      exact ⟨⟨k + 1, by omega, by go_num, by rw [AT.out], HB1.out⟩, by simp [RowKit.intOf]; omega⟩
    · obtain rfl : k = ps.length := by omega
      have E := Lib.hid (show areaL ((sidesP ps).take ps.length) = areaL (sidesP ps) by rw [List.take_of_length_le (by rw [sidesP_len]; omega)])
      rw [E.out]
      clear hbr
      go_wp2
      go_ret
      exact ⟨rfl, HA.out⟩
set_option maxRecDepth 100000 in
set_option maxHeartbeats 1600000 in
theorem s_side (ps : List P2) (h12 : ps.length ≤ 12) (hbd : ∀ p ∈ ps, BdP 50 p) (k : Nat) (hlt : k < ps.length) (v : Value) (w : World) (hv : Rw w v (ps.map rowOf)) :
    Calls Try.prog 98 #[v, .int .i64 k] w (Quiet w (.int .i64 (stepS (sideP ps k)))) := by
  have HX := Lib.hid hv
  obtain ⟨va, vc, rfl, hvm, _⟩ := hv.shape
  rw [List.length_map] at HX hvm ⊢
  have HBD := Lib.hid hbd
  have i1 : (0 : Int) ≤ (k : Int) := by omega
  have i2 : (k : Int) < (ps.length : Int) := by omega
  obtain ⟨nx, hnx⟩ : ∃ nx, (k + 1) % ps.length = nx := ⟨_, rfl⟩
  have hxl : nx < ps.length := by rw [← hnx]; exact Nat.mod_lt _ (by omega)
  rw [side_at hlt hnx hxl]
  have j1 : IntKind.i64.wrap ((k : Int) + 1) = (k : Int) + 1 := by rw [IntWalk.i64_in _ (by omega)]
  have j2 : Int.tmod ((k : Int) + 1) (ps.length : Int) = (nx : Int) := by rw [mod_next, hnx]
  have j3 : ¬ (ps.length : Int) = 0 := by omega
  have j4 : ((ps.length : Int) == 0) = false := beq_eq_false_iff_ne.2 j3
  have j9 : ¬ ps = [] := fun e => by rw [e] at hlt; simp at hlt
  have j5 : IntKind.i64.wrap (nx : Int) = (nx : Int) := by rw [IntWalk.i64_in _ (by omega)]
  have j6 : (0 : Int) ≤ (nx : Int) := by omega
  have j7 : (nx : Int) < (ps.length : Int) := by omega
  obtain ⟨b1, o1, x, rfl, h1, hcell, hsx⟩ := HX.out.pt k hlt
  obtain ⟨b2, o2, y, e2, _, hcell', hsy⟩ := HX.out.pt nx hxl
  simp only [Option.some.injEq, Addr.mk.injEq, and_true] at e2
  obtain ⟨rfl, rfl⟩ := e2
  have QX := Lib.hid hsx
  have QY := Lib.hid hsy
  obtain ⟨xa, xc, rfl, _⟩ := hsx.shape
  obtain ⟨ya, yc, rfl, _⟩ := hsy.shape
  have B1 := HBD.out ps[k] (List.getElem_mem _)
  have B2 := HBD.out ps[nx] (List.getElem_mem _)
  obtain ⟨p, hp⟩ : ∃ p, ps[k] = p := ⟨_, rfl⟩
  obtain ⟨q, hq⟩ : ∃ q, ps[nx] = q := ⟨_, rfl⟩
  rw [hp] at QX hcell B1
  rw [hq] at QY hcell' B2
  rw [hp, hq]
  have D := Lib.hid (show Bd (rowOf (q.1 - p.1, q.2 - p.2)) 100 from (B2.less B1 (by omega)).bd)
  have C1 := Lib.hid (And.intro B1.bd B2.bd)
  have HE := Lib.hid (show allG (rowOf (q.1 - p.1, q.2 - p.2)) = stepS (p, q) from all_two _ _)
  have hbr : Below w.heap.size w w := Below.refl _ _
  clear hsx hsy hv hbd hnx B1 B2 hp hq
  go_enter Try.func98, Try.ntmps98
  go_wp2_with fail
  go_region_held3 (fun w' => w'.cell? ⟨b1, o1 + k, none⟩ = some (.slice xa (intVals (rowOf p)).length xc) ∧ w'.cell? ⟨b1, o1 + nx, none⟩ = some (.slice ya (intVals (rowOf q)).length yc) ∧ Below w.heap.size w w')
    (first
      | with_reducible exact keepP2 hcell hcell' hbr
      | (go_split_ands; with_reducible exact keepQ2 h1 h1 (by assumption) (by assumption) (by assumption) (by assumption))
      | go_keep)
    (first
      | (go_at_call 72; refine (s_lessP (rowOf q) (rowOf p) rfl (by simp [rowOf]) 50 (by omega) C1.out.2 C1.out.1 _ _ _ (QY.out.below (Below.refl _ _).drew) (QX.out.below (Below.refl _ _).drew)).mono ?_; rintro e w3 ⟨⟨u3, rfl, h3⟩, hb3⟩; rw [lessL_row] at h3; obtain ⟨ua, uc, rfl, _⟩ := h3.sl.shape)
      | (go_at_call 114; refine (s_all (rowOf (q.1 - p.1, q.2 - p.2)) 100 (by omega) (by omega) D.out _ _ h3.sl).mono ?_; rintro e w4 ⟨rfl, hb4⟩; rw [HE.out]))
  rename_i hH
  have HB1 := Lib.hid hH.2.2
  clear hH hbr hcell hcell'
  go_wp2
  go_ret
  exact ⟨rfl, HB1.out⟩
end Go.Proofs.Ytoekgcafhcamjaa
/- The program's sidesOf. -/
namespace Go.Proofs.Ytoekgcafhcamjaa
open Go Go.RowKit Go.Lib

def encS (s : S2) : List Value := [.int .i64 s.1.1, .int .i64 s.1.2, .int .i64 0, .int .i64 s.2.1, .int .i64 s.2.2, .int .i64 0]
theorem encS_len (s : S2) : (encS s).length = 6 := rfl
theorem info_side : (Try.prog.info? 90).map (fun i => (i.zero, i.size, i.bytes)) = some (some (.agg #[.int .i64 0, .int .i64 0, .int .i64 0, .int .i64 0, .int .i64 0, .int .i64 0]), 6, 48) := by kernel_rfl
abbrev OwS (lo hi : Nat) (w : World) (v : Value) (l : List S2) : Prop := OwE encS 6 90 lo hi w v l
theorem OwE.at6 {lo hi : Nat} {w : World} {v : Value} {l : List S2} (h : OwS lo hi w v l) (j : Nat) (hj : j < l.length) {a : Option Addr} {n c : Nat} (hv : v = .slice a n c) :
    ∃ b : Nat, a = some ⟨b, 0, none⟩ ∧ lo ≤ b ∧ b < hi ∧ b < w.heap.size ∧ (w.cell? ⟨b, j * 6, none⟩ = some (.int .i64 l[j].1.1) ∧ w.cell? ⟨b, j * 6 + 1, none⟩ = some (.int .i64 l[j].1.2) ∧ w.cell? ⟨b, j * 6 + 2, none⟩ = some (.int .i64 0) ∧ w.cell? ⟨b, j * 6 + 3, none⟩ = some (.int .i64 l[j].2.1) ∧ w.cell? ⟨b, j * 6 + 4, none⟩ = some (.int .i64 l[j].2.2) ∧ w.cell? ⟨b, j * 6 + 5, none⟩ = some (.int .i64 0)) ∧ ∀ i, w.frozen? ⟨b, i, none⟩ = false := by
  obtain ⟨b, h1, h2, h3, h4, h5, h6, h7, h8⟩ := OwE.at encS_len h j hj (by omega) hv
  exact ⟨b, h1, h3, h4, h5, ⟨h7 0 (by omega), h7 1 (by omega), h7 2 (by omega), h7 3 (by omega), h7 4 (by omega), h7 5 (by omega)⟩, h8⟩
theorem flatS_put : ∀ (l : List S2) (j : Nat) (s : S2), ((((((l.flatMap encS).set (j * 6) (.int .i64 s.1.1)).set (j * 6 + 1) (.int .i64 s.1.2)).set (j * 6 + 2) (.int .i64 0)).set (j * 6 + 3) (.int .i64 s.2.1)).set (j * 6 + 4) (.int .i64 s.2.2)).set (j * 6 + 5) (.int .i64 0) = (l.set j s).flatMap encS
  | [], j, p => by simp
  | x :: l, 0, p => by simp [encS]
  | x :: l, j + 1, p => by
    have ih := flatS_put l j p
    rw [show (j + 1) * 6 = j * 6 + 1 + 1 + 1 + 1 + 1 + 1 from by omega]
    simp only [List.flatMap_cons, encS, List.cons_append, List.nil_append, List.set_cons_succ, show j * 6 + 1 + 1 + 1 + 1 + 1 + 1 + 1 = j * 6 + 1 + 1 + 1 + 1 + 1 + 1 + 1 from rfl, show j * 6 + 1 + 1 + 1 + 1 + 1 + 1 + 2 = j * 6 + 2 + 1 + 1 + 1 + 1 + 1 + 1 from rfl, show j * 6 + 1 + 1 + 1 + 1 + 1 + 1 + 3 = j * 6 + 3 + 1 + 1 + 1 + 1 + 1 + 1 from rfl, show j * 6 + 1 + 1 + 1 + 1 + 1 + 1 + 4 = j * 6 + 4 + 1 + 1 + 1 + 1 + 1 + 1 from rfl, show j * 6 + 1 + 1 + 1 + 1 + 1 + 1 + 5 = j * 6 + 5 + 1 + 1 + 1 + 1 + 1 + 1 from rfl, ← ih]
/-- A side is stored at place j. -/
theorem OwE.put6 {lo hi : Nat} {w : World} {b n c : Nat} {l : List S2} (h : OwS lo hi w (.slice (some ⟨b, 0, none⟩) n c) l) (j : Nat) (hj : j < l.length) (s : S2) :
    OwS lo hi ((((((w.setCell ⟨b, j * 6, none⟩ (.int .i64 s.1.1)).setCell ⟨b, j * 6 + 1, none⟩ (.int .i64 s.1.2)).setCell ⟨b, j * 6 + 2, none⟩ (.int .i64 0)).setCell ⟨b, j * 6 + 3, none⟩ (.int .i64 s.2.1)).setCell ⟨b, j * 6 + 4, none⟩ (.int .i64 s.2.2)).setCell ⟨b, j * 6 + 5, none⟩ (.int .i64 0)) (.slice (some ⟨b, 0, none⟩) n c) (l.set j s) := by
  obtain ⟨k2, k3⟩ := h
  obtain ⟨g, cap, e1⟩ := Go.Joins.ownsRow_form k2 (by omega)
  simp only [Value.slice.injEq, Option.some.injEq, Addr.mk.injEq] at e1
  obtain ⟨⟨rfl, _, _⟩, rfl, rfl⟩ := e1
  have hst := ((((((((((k2.stored (j * 6) (.int .i64 s.1.1)).1).stored (j * 6 + 1) (.int .i64 s.1.2)).1).stored (j * 6 + 2) (.int .i64 0)).1).stored (j * 6 + 3) (.int .i64 s.2.1)).1).stored (j * 6 + 4) (.int .i64 s.2.2)).1.stored (j * 6 + 5) (.int .i64 0)).1
  rw [flatS_put l j s] at hst
  exact ⟨by rw [List.length_set]; exact hst, k3⟩
theorem made_zerosS (n : Nat) : (madeCells #[.int .i64 0, .int .i64 0, .int .i64 0, .int .i64 0, .int .i64 0, .int .i64 0] (n * 6)).toList = (List.replicate n (((0, 0), (0, 0)) : S2)).flatMap encS := by
  refine List.ext_getElem? fun i => ?_
  have hl := flatE_len encS 6 encS_len (List.replicate n (((0, 0), (0, 0)) : S2))
  rw [List.length_replicate] at hl
  by_cases hi : i < n * 6
  · have e1 : (madeCells #[.int .i64 0, .int .i64 0, .int .i64 0, .int .i64 0, .int .i64 0, .int .i64 0] (n * 6)).toList[i]? = some ((#[Value.int .i64 0, .int .i64 0, .int .i64 0, .int .i64 0, .int .i64 0, .int .i64 0] : Array Value)[i % 6]!) := by
      unfold madeCells
      rw [Array.getElem?_toList, Array.getElem?_map]
      simp [hi]
    have hj : i / 6 < (List.replicate n (((0, 0), (0, 0)) : S2)).length := by simp; omega
    have g := fun c hc => flatE_get encS 6 encS_len (List.replicate n (((0, 0), (0, 0)) : S2)) (i / 6) c hj hc
    simp only [List.getElem_replicate] at g
    rw [e1]
    have h3 : i % 6 < 6 := Nat.mod_lt _ (by omega)
    rcases (by omega : i % 6 = 0 ∨ i % 6 = 1 ∨ i % 6 = 2 ∨ i % 6 = 3 ∨ i % 6 = 4 ∨ i % 6 = 5) with h | h | h | h | h | h <;> rw [h]
    · rw [show i = i / 6 * 6 + 0 by omega, g 0 (by omega)]; rfl
    · rw [show i = i / 6 * 6 + 1 by omega, g 1 (by omega)]; rfl
    · rw [show i = i / 6 * 6 + 2 by omega, g 2 (by omega)]; rfl
    · rw [show i = i / 6 * 6 + 3 by omega, g 3 (by omega)]; rfl
    · rw [show i = i / 6 * 6 + 4 by omega, g 4 (by omega)]; rfl
    · rw [show i = i / 6 * 6 + 5 by omega, g 5 (by omega)]; rfl
  · rw [List.getElem?_eq_none (by rw [Array.length_toList, size_madeCells]; omega), List.getElem?_eq_none (by rw [hl]; omega)]
theorem OwE.zeros6 {base lo hi : Nat} {w : World} {b n : Nat} (h : w.ownsRow base 90 6 (.slice (some ⟨b, 0, none⟩) n n) n (madeCells #[.int .i64 0, .int .i64 0, .int .i64 0, .int .i64 0, .int .i64 0, .int .i64 0] (n * 6)).toList) (hlo : lo ≤ base) (hhi : b < hi) : OwS lo hi w (.slice (some ⟨b, 0, none⟩) n n) (List.replicate n ((0, 0), (0, 0))) := by
  rw [made_zerosS] at h
  refine ⟨?_, fun x hx => (show b = x by simpa [Value.ownBlock] using hx) ▸ hhi⟩
  rw [List.length_replicate]
  exact Go.Joins.ownsRow_le h hlo
def fillS (ps : List P2) (k : Nat) : List S2 := (sidesP ps).take k ++ List.replicate (ps.length - k) ((0, 0), (0, 0))
theorem fillS_zero (ps : List P2) : fillS ps 0 = List.replicate ps.length ((0, 0), (0, 0)) := by simp [fillS]
theorem fillS_all (ps : List P2) : fillS ps ps.length = sidesP ps := by unfold fillS; rw [List.take_of_length_le (by rw [sidesP_len]; omega)]; simp
theorem fillS_len (ps : List P2) (k : Nat) (h : k ≤ ps.length) : (fillS ps k).length = ps.length := by simp [fillS, sidesP_len]; omega
theorem fillS_step (ps : List P2) (k : Nat) (h : k < ps.length) : (fillS ps k).set k (sideP ps k) = fillS ps (k + 1) := by
  have hl : ((sidesP ps).take k).length = k := by rw [List.length_take, sidesP_len]; omega
  unfold fillS
  rw [List.set_append_right _ _ (by omega), hl, Nat.sub_self, show ps.length - k = (ps.length - (k + 1)) + 1 by omega, List.replicate_succ, List.set_cons_zero, List.take_succ_eq_append_getElem (by rw [sidesP_len]; exact h), sidesP_get]
  simp
theorem row_splice (p : P2) : splice [Value.int .i64 0, .int .i64 0, .int .i64 0] 0 (intVals (rowOf p)) = [.int .i64 p.1, .int .i64 p.2, .int .i64 0] := rfl
/-- What sidesOf leaves. -/
def MadeS (w : World) (l : List S2) (e : Ending) (w' : World) : Prop := (∃ g c, e = .returned (.slice (some ⟨g, 0, none⟩) l.length c) ∧ OwS w.heap.size w'.heap.size w' (.slice (some ⟨g, 0, none⟩) l.length c) l) ∧ Below w.heap.size w w'
set_option maxRecDepth 100000 in
set_option maxHeartbeats 3200000 in
theorem i_sides (ps : List P2) (h12 : ps.length ≤ 12) (v : Value) (w : World) (hv : Rw w v (ps.map rowOf)) :
    Calls Try.prog 97 #[v] w (MadeS w (sidesP ps)) := by
  have HX := Lib.hid hv
  obtain ⟨va, vc, rfl, hvm, _⟩ := hv.shape
  rw [List.length_map] at HX hvm ⊢
  obtain ⟨i0, hi', hz0, hz1, hz2⟩ := info_parts info_side
  clear hv
  go_enter Try.func97, Try.ntmps97
  go_wp2_with (at_make; refine wpList_make_full _ rfl _ _ 87 rfl w.heap.size 90 i0 _ 6 Try.underlying87 hi' hz0 hz1 .i64 .i64 _ _ ps.length rfl rfl rfl rfl (by rw [hz2]; omega) (by unfold maxLen; omega) (by simp) ?_; intro w1 hown hgrow; have hbel : Below w.heap.size w w1 := (Below.refl _ _).grown hgrow (Nat.le_refl _) (fun q hq => by cases hq))
  rw [show (Value.agg #[.int .i64 0, .int .i64 0, .int .i64 0, .int .i64 0, .int .i64 0, .int .i64 0]).cells = #[Value.int .i64 0, .int .i64 0, .int .i64 0, .int .i64 0, .int .i64 0, .int .i64 0] from rfl] at hown
  have hlt1 : w.heap.size < w1.heap.size := by have := (hown.lt _ rfl).2; simpa using this
  have O1 := Lib.hid (show OwS w.heap.size w1.heap.size w1 (.slice (some ⟨w.heap.size, 0, none⟩) ps.length ps.length) (fillS ps 0) by rw [fillS_zero]; exact OwE.zeros6 hown (Nat.le_refl _) hlt1)
  have B1 := Lib.hid hbel
  have HL1 := Lib.hid hlt1
  clear hown hgrow hbel hi' hz0 hz1 hz2 hlt1
  go_loopw [11] (fun i wr => ∃ k : Nat, k ≤ ps.length ∧ i = .int .i64 k ∧ OwS w.heap.size wr.heap.size wr (.slice (some ⟨w.heap.size, 0, none⟩) ps.length ps.length) (fillS ps k) ∧ Below w.heap.size w wr ∧ w.heap.size < wr.heap.size) (fun i _ => ps.length - (RowKit.intOf i).toNat)
  case atStart => exact ⟨0, Nat.zero_le _, rfl, O1.out, B1.out, HL1.out⟩
  case round =>
    obtain ⟨k, hk, rfl, ho, hb, hwl⟩ := hrel
    have HK := Lib.hid ho
    have HB := Lib.hid hb
    have HWL := Lib.hid hwl
    clear ho hb
    by_cases hlt : k < ps.length
    · have i1 : (0 : Int) ≤ (k : Int) := by omega
      have i2 : (k : Int) < (ps.length : Int) := by omega
      obtain ⟨nx, hnx⟩ : ∃ nx, (k + 1) % ps.length = nx := ⟨_, rfl⟩
      have hxl : nx < ps.length := by rw [← hnx]; exact Nat.mod_lt _ (by omega)
      have FS := Lib.hid (fillS_step ps k hlt)
      have FL := Lib.hid (fillS_len ps k hk)
      rw [side_at hlt hnx hxl] at FS
      have j1 : IntKind.i64.wrap ((k : Int) + 1) = (k : Int) + 1 := by rw [IntWalk.i64_in _ (by omega)]
      have j2 : Int.tmod ((k : Int) + 1) (ps.length : Int) = (nx : Int) := by rw [mod_next, hnx]
      have j3 : ¬ (ps.length : Int) = 0 := by omega
      have j4 : ((ps.length : Int) == 0) = false := beq_eq_false_iff_ne.2 j3
      have j9 : ¬ ps = [] := fun e => by rw [e] at hlt; simp at hlt
      have j5 : IntKind.i64.wrap (nx : Int) = (nx : Int) := by rw [IntWalk.i64_in _ (by omega)]
      have j6 : (0 : Int) ≤ (nx : Int) := by omega
      have j7 : (nx : Int) < (ps.length : Int) := by omega
      obtain ⟨b1, o1, x, rfl, hb2, hcell, hsx⟩ := HX.out.pt k hlt
      obtain ⟨b2, o2, y, e2, _, hcell', hsy⟩ := HX.out.pt nx hxl
      simp only [Option.some.injEq, Addr.mk.injEq, and_true] at e2
      obtain ⟨rfl, rfl⟩ := e2
      rw [← HB.out.cell (p := ⟨b1, o1 + k, none⟩) hb2] at hcell
      rw [← HB.out.cell (p := ⟨b1, o1 + nx, none⟩) hb2] at hcell'
      have QX := Lib.hid (hsx.below HB.out)
      have QY := Lib.hid (hsy.below HB.out)
      obtain ⟨xa, xc, rfl, _⟩ := hsx.shape
      obtain ⟨ya, yc, rfl, _⟩ := hsy.shape
      have h1 : b1 < wr.heap.size := Nat.lt_of_lt_of_le hb2 HB.out.size
      obtain ⟨p, hp⟩ : ∃ p, ps[k] = p := ⟨_, rfl⟩
      obtain ⟨q, hq⟩ : ∃ q, ps[nx] = q := ⟨_, rfl⟩
      rw [hp, hq] at FS
      rw [hp] at QX hcell
      rw [hq] at QY hcell'
      obtain ⟨p1, p2⟩ := p
      obtain ⟨q1, q2⟩ := q
      have CY := Lib.hid hcell'
      clear hsx hsy hb2 hnx hp hq hcell'
      go_wp2_with fail
      refine T_begin (z := fun q => 13 < q) (S := fun W => W.cell? ⟨b1, o1 + nx, none⟩ = some (.slice ya (intVals (rowOf (q1, q2))).length yc)) (by kernel_rfl) ?_
      show wpAnyT _ _ _ _ _ _ 16 _ _ _
      have hS0 := Lib.hid (show (fun (W : World) => W.cell? ⟨b1, o1 + nx, none⟩ = some (.slice ya (intVals (rowOf (q1, q2))).length yc)) wr.drew from CY.out)
      refine T_take (i := 0) (v := .slice (some ⟨w.heap.size, 0, none⟩) ps.length ps.length) rfl (by kernel_rfl) (by kernel_rfl) (by kernel_rfl) (by kernel_rfl) (fun _ _ _ h => h) hS0.out (by kernel_rfl) (fun w' hS' => by (try dsimp only at hS'); go_simp) ?_
      refine T_take (i := 1) (v := .int .i64 k) rfl (by kernel_rfl) (by kernel_rfl) (by kernel_rfl) (by kernel_rfl) (fun _ _ _ h => h) hS0.out (by kernel_rfl) (fun w' hS' => by (try dsimp only at hS'); go_simp) ?_
      refine T_take (i := 2) (v := .slice xa (intVals (rowOf (p1, p2))).length xc) rfl (by kernel_rfl) (by kernel_rfl) (by kernel_rfl) (by kernel_rfl) (fun _ _ _ h => h) hS0.out (by kernel_rfl) (fun w' hS' => by (try dsimp only at hS'); go_simp) ?_
      refine T_take (i := 4) (v := .slice (some ⟨b1, o1, none⟩) ps.length vc) rfl (by kernel_rfl) (by kernel_rfl) (by kernel_rfl) (by kernel_rfl) (fun _ _ _ h => h) hS0.out (by kernel_rfl) (fun w' hS' => by (try dsimp only at hS'); go_simp) ?_
      refine T_take (i := 5) (v := .int .i64 k) rfl (by kernel_rfl) (by kernel_rfl) (by kernel_rfl) (by kernel_rfl) (fun _ _ _ h => h) hS0.out (by kernel_rfl) (fun w' hS' => by (try dsimp only at hS'); go_simp) ?_
      refine T_take (i := 6) (v := .int .i64 ((k : Int) + 1)) rfl (by kernel_rfl) (by kernel_rfl) (by kernel_rfl) (by kernel_rfl) (fun _ _ _ h => h) hS0.out (by kernel_rfl) (fun w' hS' => by (try dsimp only at hS'); go_simp) ?_
      refine T_take (i := 7) (v := .slice (some ⟨b1, o1, none⟩) ps.length vc) rfl (by kernel_rfl) (by kernel_rfl) (by kernel_rfl) (by kernel_rfl) (fun _ _ _ h => h) hS0.out (by kernel_rfl) (fun w' hS' => by (try dsimp only at hS'); go_simp) ?_
      refine T_take (i := 8) (v := .int .i64 ps.length) rfl (by kernel_rfl) (by kernel_rfl) (by kernel_rfl) (by kernel_rfl) (fun _ _ _ h => h) hS0.out (by kernel_rfl) (fun w' hS' => by (try dsimp only at hS'); go_simp) ?_
      refine T_take (i := 9) (v := .int .i64 nx) rfl (by kernel_rfl) (by kernel_rfl) (by kernel_rfl) (by kernel_rfl) (fun _ _ _ h => h) hS0.out (by kernel_rfl) (fun w' hS' => by (try dsimp only at hS'); go_simp) ?_
      refine T_take (i := 10) (v := .pointer (some ⟨b1, o1 + nx, none⟩)) rfl (by kernel_rfl) (by kernel_rfl) (by kernel_rfl) (by kernel_rfl) (fun _ _ _ h => h) hS0.out (by kernel_rfl) (fun w' hS' => by (try dsimp only at hS'); go_simp) ?_
      refine T_take (i := 11) (v := .slice ya (intVals (rowOf (q1, q2))).length yc) rfl (by kernel_rfl) (by kernel_rfl) (by kernel_rfl) (by kernel_rfl) (fun _ _ _ h => h) hS0.out (by kernel_rfl) (fun w' hS' => by (try dsimp only at hS'); go_simp) ?_
      refine T_step (i := 3) rfl (by kernel_rfl) rfl (by kernel_rfl) ?_
      intro K hK
      go_simp
      refine (i_num (rowOf (p1, p2)) p1 p2 0 rfl (by simp [rowOf]) (by simp [rowOf]) _ _ (QX.out.below (Below.refl _ _).drew)).mono ?_
      rintro e w2 ⟨rfl, hb2⟩
      have B2 := Lib.hid (show Below wr.heap.size wr w2 from (Below.refl _ _).drew.trans hb2)
      have hS2 := Lib.hid (show (fun (W : World) => W.cell? ⟨b1, o1 + nx, none⟩ = some (.slice ya (intVals (rowOf (q1, q2))).length yc)) w2 from (B2.out.cell (p := ⟨b1, o1 + nx, none⟩) h1).trans CY.out)
      clear hb2
      refine hK.out _ _ hS2.out ?_
      clear hK K
      refine T_step (i := 12) rfl (by kernel_rfl) rfl (by kernel_rfl) ?_
      intro K hK
      go_simp
      refine (i_num (rowOf (q1, q2)) q1 q2 0 rfl (by simp [rowOf]) (by simp [rowOf]) _ _ (QY.out.below B2.out)).mono ?_
      rintro e w3 ⟨rfl, hb3⟩
      have B3 := Lib.hid (B2.out.trans (hb3.mono B2.out.size))
      have hS3 := Lib.hid (show (fun (W : World) => W.cell? ⟨b1, o1 + nx, none⟩ = some (.slice ya (intVals (rowOf (q1, q2))).length yc)) w3 from (B3.out.cell (p := ⟨b1, o1 + nx, none⟩) h1).trans CY.out)
      clear hb3
      refine hK.out _ _ hS3.out ?_
      clear hK K
      refine T_take (i := 13) (v := .agg #[.int .i64 p1, .int .i64 p2, .int .i64 0, .int .i64 q1, .int .i64 q2, .int .i64 0]) rfl (by kernel_rfl) (by kernel_rfl) (by kernel_rfl) (by kernel_rfl) (fun _ _ _ h => h) hS3.out (by kernel_rfl) (fun w' hS' => by (try dsimp only at hS'); go_simp) ?_
      have K3 := Lib.hid (HK.out.below B3.out)
      obtain ⟨b4, e4, -, -, -, ⟨q0, q1', q2', q3, q4, q5⟩, qf⟩ := K3.out.at6 k (by rw [FL.out]; exact hlt) rfl
      simp only [Option.some.injEq, Addr.mk.injEq, and_true] at e4
      subst e4
      have f0 := qf (k * 6)
      have f1 := qf (k * 6 + 1)
      have f2 := qf (k * 6 + 2)
      have f3 := qf (k * 6 + 3)
      have f4 := qf (k * 6 + 4)
      have f5 := qf (k * 6 + 5)
      have O4 := Lib.hid (K3.out.put6 k (by rw [FL.out]; exact hlt) ((p1, p2), (q1, q2)))
      rw [FS.out] at O4
      have B4 := Lib.hid ((((((((HB.out.trans (B3.out.mono HB.out.size)).setCell (p := ⟨w.heap.size, k * 6, none⟩) (Nat.le_refl _) (.int .i64 p1)).setCell (p := ⟨w.heap.size, k * 6 + 1, none⟩) (Nat.le_refl _) (.int .i64 p2)).setCell (p := ⟨w.heap.size, k * 6 + 2, none⟩) (Nat.le_refl _) (.int .i64 0)).setCell (p := ⟨w.heap.size, k * 6 + 3, none⟩) (Nat.le_refl _) (.int .i64 q1)).setCell (p := ⟨w.heap.size, k * 6 + 4, none⟩) (Nat.le_refl _) (.int .i64 q2)).setCell (p := ⟨w.heap.size, k * 6 + 5, none⟩) (Nat.le_refl _) (.int .i64 0)))
      have Z4 := Lib.hid B3.out.size
      clear qf hS0 hS2
      refine T_anytake (i := 14) (v := .pointer (some ⟨w.heap.size, k * 6, none⟩)) rfl (by kernel_rfl) (by kernel_rfl) (by kernel_rfl) rfl (fun _ _ _ h => h) rfl (fun w' => by go_simp) ?_
      refine T_last (i := 15) rfl (by kernel_rfl) (by kernel_rfl) rfl rfl ?_
      go_simp
      go_wp2
      exact ⟨⟨k + 1, by omega, by go_num, O4.out.mono (Nat.le_refl _) (by have := Z4.out; simp [World.setCell]; omega), B4.out, by have := Z4.out; have := HWL.out; simp [World.setCell]; omega⟩, by simp [RowKit.intOf]; omega⟩
    · obtain rfl : k = ps.length := by omega
      have h := HK.out
      rw [fillS_all] at h
      have HE := Lib.hid h
      clear h
      have HSL := Lib.hid (sidesP_len ps)
      go_wp2
      go_ret
      refine ⟨⟨w.heap.size, ps.length, by rw [HSL.out]; rfl, ?_⟩, HB.out⟩
      rw [HSL.out]
      exact HE.out
end Go.Proofs.Ytoekgcafhcamjaa
/- The model's AreaTwice, BoundaryCount, InnerCount, PlaceOf. -/
namespace Go.Proofs.Ytoekgcafhcamjaa
open Go.RowKit Go.Lib

theorem poly_rows {p : List (List Int)} (h : polyR p = true) : (p.map ptOf).map rowOf = p := by
  have hf := (polyR_shape h).2.2
  rw [List.map_map]
  refine (List.map_congr_left fun v hv => ?_).trans (List.map_id _)
  exact row_pt (flatR_t hf v hv).1
theorem poly_bd {p : List (List Int)} (h : polyR p = true) : ∀ q ∈ p.map ptOf, BdP 50 q := flat_pt (polyR_shape h).2.2
theorem poly_len {p : List (List Int)} (h : polyR p = true) : 3 ≤ (p.map ptOf).length ∧ (p.map ptOf).length ≤ 12 := by
  have := polyR_shape h
  rw [List.length_map]
  exact ⟨this.1, this.2.1⟩
def sidesR (p : List (List Int)) : List S2 := sidesP (p.map ptOf)
def areaR (p : List (List Int)) : Int := if polyR p = true then areaL (sidesR p) else -1
def boundR (p : List (List Int)) : Int := if polyR p = true then boundL (sidesR p) else -1
def innerR (p : List (List Int)) : Int := if polyR p = true then (areaL (sidesR p) - boundL (sidesR p) + 2).tdiv 2 else -1
def placeR (p : List (List Int)) (x : List Int) : Int := if polyR p = true ∧ isV x = true ∧ x.length = 2 then placeL (sidesR p) (ptOf x) else -1
theorem quiet_cast {f : FuncId} {vs : Array Value} {w : World} {a b : Int} (h : a = b) (g : Calls Try.prog f vs w (Quiet w (.int .i64 b))) : Calls Try.prog f vs w (Quiet w (.int .i64 a)) := by subst h; exact g
theorem area_all {p : List (List Int)} (h : polyR p = true) : -60000 ≤ areaL (sidesR p) ∧ areaL (sidesR p) ≤ 60000 := by
  have h1 := area_bd (sides_bd (poly_bd h)) (sidesP (p.map ptOf)).length (Nat.le_refl _)
  rw [List.take_length, sidesP_len] at h1
  have := poly_len h
  unfold sidesR
  omega
theorem bound_all {p : List (List Int)} (h : polyR p = true) : 0 ≤ boundL (sidesR p) ∧ boundL (sidesR p) ≤ 1200 := by
  have h1 := bound_bd (sides_bd (poly_bd h)) (sidesP (p.map ptOf)).length (Nat.le_refl _)
  rw [List.take_length, sidesP_len] at h1
  have := poly_len h
  unfold sidesR
  omega
set_option maxRecDepth 100000 in
set_option maxHeartbeats 800000 in
theorem s_areatwice (p : List (List Int)) (v : Value) (w : World) (hv : Rw w v p) :
    Calls Try.prog 43 #[v] w (Quiet w (.int .i64 (areaR p))) := by
  have HV := Lib.hid hv
  obtain ⟨va, vc, rfl, _, _⟩ := hv.shape
  clear hv
  by_cases h : polyR p = true
  · have HP := Lib.hid h
    refine (quiet_cast (show areaR p = areaL (sidesR p) from if_pos h) ?_)
    clear h
    go_enter Try.func43, Try.ntmps43
    go_wp2_with fail
    refine (s_ispoly p _ _ HV.out).mono ?_
    rintro e w1 ⟨rfl, hb⟩
    rw [HP.out]
    have HB := Lib.hid hb
    go_wp2_with fail
    refine (s_area (p.map ptOf) (poly_len HP.out).2 (poly_bd HP.out) _ _ (by rw [poly_rows HP.out]; exact HV.out.below hb)).mono ?_
    rintro e w2 ⟨rfl, hb2⟩
    have HB2 := Lib.hid (HB.out.trans (hb2.mono HB.out.size))
    clear hb hb2
    go_wp2
    go_ret
    exact ⟨rfl, HB2.out⟩
  · have HP := Lib.hid (bool_f h)
    refine (quiet_cast (show areaR p = -1 from if_neg h) ?_)
    clear h
    go_enter Try.func43, Try.ntmps43
    go_wp2_with fail
    refine (s_ispoly p _ _ HV.out).mono ?_
    rintro e w1 ⟨rfl, hb⟩
    rw [HP.out]
    have HB := Lib.hid hb
    clear hb
    go_wp2
    go_ret
    exact ⟨rfl, HB.out⟩
set_option maxRecDepth 100000 in
set_option maxHeartbeats 1600000 in
theorem s_bound (p : List (List Int)) (v : Value) (w : World) (hv : Rw w v p) :
    Calls Try.prog 45 #[v] w (Quiet w (.int .i64 (boundR p))) := by
  have HV := Lib.hid hv
  obtain ⟨va, vc, rfl, _, _⟩ := hv.shape
  clear hv
  by_cases h : polyR p = true
  case neg =>
    have HP := Lib.hid (bool_f h)
    refine (quiet_cast (show boundR p = -1 from if_neg h) ?_)
    clear h
    go_enter Try.func45, Try.ntmps45
    go_wp2_with fail
    refine (s_ispoly p _ _ HV.out).mono ?_
    rintro e w1 ⟨rfl, hb⟩
    rw [HP.out]
    have HB := Lib.hid hb
    clear hb
    go_wp2
    go_ret
    exact ⟨rfl, HB.out⟩
  have HP := Lib.hid h
  refine (quiet_cast (show boundR p = boundL (sidesR p) from if_pos h) ?_)
  have HLP := Lib.hid (poly_len h)
  have BB := Lib.hid (bound_bd (sides_bd (poly_bd h)))
  have hl9 : p.length = (p.map ptOf).length := by rw [List.length_map]
  obtain ⟨ps, hps⟩ : ∃ ps, p.map ptOf = ps := ⟨_, rfl⟩
  have HPS := Lib.hid hps
  unfold sidesR
  have HPB := Lib.hid (poly_bd h)
  have HPR := Lib.hid (poly_rows h)
  rw [hps] at HLP BB hl9 HPB HPR ⊢
  rw [hl9] at HV ⊢
  clear h hl9 hps
  have hl12 := HLP.out.2
  go_enter Try.func45, Try.ntmps45
  go_wp2_with fail
  refine (s_ispoly p _ _ HV.out).mono ?_
  rintro e w1 ⟨rfl, hb⟩
  rw [HP.out]
  have HB1 := Lib.hid hb
  clear hb
  go_wp2_with fail
  go_loopw [3, 4] (fun s i wr => ∃ k : Nat, k ≤ ps.length ∧ i = .int .i64 k ∧ s = .int .i64 (boundL ((sidesP ps).take k)) ∧ Below w.heap.size w wr) (fun _ i _ => ps.length - (RowKit.intOf i).toNat)
  case atStart => exact ⟨0, Nat.zero_le _, rfl, rfl, HB1.out⟩
  case round =>
    obtain ⟨k, hk, rfl, rfl, hbr⟩ := hrel
    rename World => w2
    have HA := Lib.hid hbr
    clear hbr
    by_cases hlt : k < ps.length
    · have i1 : (0 : Int) ≤ (k : Int) := by omega
      have i2 : (k : Int) < (ps.length : Int) := by omega
      have hsl : k < (sidesP ps).length := by rw [sidesP_len]; exact hlt
      have AT := Lib.hid (bound_take hsl)
      rw [sidesP_get] at AT
      have b1 := BB.out k (by rw [sidesP_len]; omega)
      have b2 := BB.out (k + 1) (by rw [sidesP_len]; omega)
      rw [AT.out] at b2
      obtain ⟨sm, hs⟩ : ∃ sm, boundL ((sidesP ps).take k) = sm := ⟨_, rfl⟩
      obtain ⟨cr, hc⟩ : ∃ cr, stepS (sideP ps k) = cr := ⟨_, rfl⟩
      have HC := Lib.hid hc
      rw [hs] at AT b1 b2 ⊢
      rw [hc] at AT b2
      have j8 : IntKind.i64.wrap (sm + cr) = sm + cr := by rw [IntWalk.i64_in _ (by omega)]
      clear hsl hs hc
      go_wp2_with fail
      refine (s_side ps hl12 HPB.out k hlt _ _ (by rw [HPR.out]; exact HV.out.below HA.out)).mono ?_
      rintro e w3 ⟨rfl, hb3⟩
      rw [HC.out]
      have HB3 := Lib.hid (HA.out.trans (hb3.mono HA.out.size))
      clear hb3
      go_wp2
      exact ⟨⟨k + 1, by omega, by go_num, by rw [AT.out], HB3.out⟩, by simp [RowKit.intOf]; omega⟩
    · obtain rfl : k = ps.length := by omega
      have E := Lib.hid (show boundL ((sidesP ps).take ps.length) = boundL (sidesP ps) by rw [List.take_of_length_le (by rw [sidesP_len]; omega)])
      rw [E.out]
      go_wp2
      go_ret
      exact ⟨rfl, HA.out⟩
set_option maxRecDepth 100000 in
set_option maxHeartbeats 800000 in
theorem s_inner (p : List (List Int)) (v : Value) (w : World) (hv : Rw w v p) :
    Calls Try.prog 47 #[v] w (Quiet w (.int .i64 (innerR p))) := by
  have HV := Lib.hid hv
  obtain ⟨va, vc, rfl, _, _⟩ := hv.shape
  clear hv
  by_cases h : polyR p = true
  · have HP := Lib.hid h
    have h1 := area_all h
    have h2 := bound_all h
    refine (quiet_cast (show innerR p = (areaL (sidesR p) - boundL (sidesR p) + 2).tdiv 2 from if_pos h) ?_)
    have HE := Lib.hid (show boundR p = boundL (sidesR p) from if_pos h)
    have HS := Lib.hid (s_area (p.map ptOf) (poly_len h).2 (poly_bd h))
    rw [show areaL (sidesP (p.map ptOf)) = areaL (sidesR p) from rfl] at HS
    obtain ⟨A, hA⟩ : ∃ A, areaL (sidesR p) = A := ⟨_, rfl⟩
    obtain ⟨B, hB⟩ : ∃ B, boundL (sidesR p) = B := ⟨_, rfl⟩
    rw [hA] at h1 HS ⊢
    rw [hB] at h2 HE ⊢
    have j1 : IntKind.i64.wrap (A - B) = A - B := by rw [IntWalk.i64_in _ (by omega)]
    have j2 : IntKind.i64.wrap (A - B + 2) = A - B + 2 := by rw [IntWalk.i64_in _ (by omega)]
    have j3 : IntKind.i64.wrap ((A - B + 2).tdiv 2) = (A - B + 2).tdiv 2 := IntWalk.i64_in _ (by have h3 := Int.natAbs_tdiv_le_natAbs (A - B + 2) 2; generalize (A - B + 2).tdiv 2 = t at h3; omega)
    clear h hA hB h1 h2
    go_enter Try.func47, Try.ntmps47
    go_wp2_with fail
    refine (s_ispoly p _ _ HV.out).mono ?_
    rintro e w1 ⟨rfl, hb⟩
    rw [HP.out]
    have HB := Lib.hid hb
    clear hb
    go_wp2_with fail
    refine (HS.out _ _ (by rw [poly_rows HP.out]; exact HV.out.below HB.out)).mono ?_
    rintro e w2 ⟨rfl, hb2⟩
    have HB2 := Lib.hid (HB.out.trans (hb2.mono HB.out.size))
    clear hb2
    go_wp2_with fail
    refine (s_bound p _ _ (HV.out.below HB2.out)).mono ?_
    rintro e w3 ⟨rfl, hb3⟩
    rw [HE.out]
    have HB3 := Lib.hid (HB2.out.trans (hb3.mono HB2.out.size))
    clear hb3
    go_wp2
    go_ret
    exact ⟨rfl, HB3.out⟩
  · have HP := Lib.hid (bool_f h)
    refine (quiet_cast (show innerR p = -1 from if_neg h) ?_)
    clear h
    go_enter Try.func47, Try.ntmps47
    go_wp2_with fail
    refine (s_ispoly p _ _ HV.out).mono ?_
    rintro e w1 ⟨rfl, hb⟩
    rw [HP.out]
    have HB := Lib.hid hb
    clear hb
    go_wp2
    go_ret
    exact ⟨rfl, HB.out⟩
end Go.Proofs.Ytoekgcafhcamjaa
/- The program's AreaTwice, BoundaryCount, InnerCount, PlaceOf. -/
namespace Go.Proofs.Ytoekgcafhcamjaa
open Go Go.RowKit Go.Lib

theorem bk6c {w : World} {b : Nat} {x0 x1 x2 x3 x4 x5 : Value} {T : TypeId} (h : Bk w b #[x0, x1, x2, x3, x4, x5] T) : w.cell? ⟨b, 0, none⟩ = some x0 ∧ w.cell? ⟨b, 1, none⟩ = some x1 ∧ w.cell? ⟨b, 2, none⟩ = some x2 ∧ w.cell? ⟨b, 3, none⟩ = some x3 ∧ w.cell? ⟨b, 4, none⟩ = some x4 ∧ w.cell? ⟨b, 5, none⟩ = some x5 := ⟨h.cell 0 rfl, h.cell 1 rfl, h.cell 2 rfl, h.cell 3 rfl, h.cell 4 rfl, h.cell 5 rfl⟩
set_option maxRecDepth 100000 in
set_option maxHeartbeats 1600000 in
theorem i_areatwice (p : List (List Int)) (v : Value) (w : World) (hv : Rw w v p) :
    Calls Try.prog 44 #[v] w (Quiet w (.int .i64 (areaR p))) := by
  have HV := Lib.hid hv
  obtain ⟨va, vc, rfl, _, _⟩ := hv.shape
  clear hv
  by_cases h : polyR p = true
  case neg =>
    have HP := Lib.hid (bool_f h)
    refine (quiet_cast (show areaR p = -1 from if_neg h) ?_)
    clear h
    go_enter Try.func44, Try.ntmps44
    go_wp2_with fail
    refine (i_ispoly p _ _ HV.out).mono ?_
    rintro e w1 ⟨rfl, hb⟩
    rw [HP.out]
    have HB := Lib.hid hb
    clear hb
    go_wp2
    go_ret
    exact ⟨rfl, HB.out⟩
  have HP := Lib.hid h
  refine (quiet_cast (show areaR p = areaL (sidesR p) from if_pos h) ?_)
  have HLP := Lib.hid (poly_len h)
  have BB := Lib.hid (area_bd (sides_bd (poly_bd h)))
  have HSB := Lib.hid (sides_bd (poly_bd h))
  obtain ⟨ps, hps⟩ : ∃ ps, p.map ptOf = ps := ⟨_, rfl⟩
  unfold sidesR
  have HPR := Lib.hid (poly_rows h)
  rw [hps] at HLP BB HPR HSB ⊢
  clear h hps
  have HSL := Lib.hid (sidesP_len ps)
  go_enter Try.func44, Try.ntmps44
  go_wp2_with fail
  refine (i_ispoly p _ _ HV.out).mono ?_
  rintro e w1 ⟨rfl, hb⟩
  rw [HP.out]
  have HB1 := Lib.hid hb
  clear hb
  go_wp2_with fail
  refine (i_sides ps HLP.out.2 _ _ (by rw [HPR.out]; exact HV.out.below HB1.out)).mono ?_
  rintro e w2 ⟨⟨g, c, rfl, hs⟩, hb2⟩
  obtain ⟨L, hL⟩ : ∃ L, sidesP ps = L := ⟨_, rfl⟩
  rw [hL] at hs BB HSL HSB ⊢
  have HS := Lib.hid hs
  have HB2 := Lib.hid (HB1.out.trans (hb2.mono HB1.out.size))
  have hl12 : L.length ≤ 12 := by rw [HSL.out]; exact HLP.out.2
  have hlc : L.length ≤ c := by
    obtain ⟨_, _, e, h, _⟩ := hs.shape
    simp only [Value.slice.injEq] at e
    omega
  have HLL := Lib.hid hL
  clear hs hb2 hL
  go_wp2_with fail
  go_loopw [12, 3] (fun i s wr => ∃ k : Nat, k ≤ L.length ∧ i = .int .i64 k ∧ s = .int .i64 (areaL (L.take k)) ∧ Below w2.heap.size w2 wr) (fun i _ _ => L.length - (RowKit.intOf i).toNat)
  case atStart => exact ⟨0, Nat.zero_le _, rfl, rfl, Below.refl _ _⟩
  case round =>
    obtain ⟨k, hk, rfl, rfl, hbr⟩ := hrel
    have HA := Lib.hid hbr
    have HW := Lib.hid (HB2.out.trans (hbr.mono HB2.out.size))
    clear hbr
    by_cases hlt : k < L.length
    · have i1 : (0 : Int) ≤ (k : Int) := by omega
      have i2 : (k : Int) < (L.length : Int) := by omega
      obtain ⟨b, e1, -, -, hb2, ⟨q0, q1, q2, q3, q4, q5⟩, -⟩ := HS.out.at6 k hlt rfl
      simp only [Option.some.injEq, Addr.mk.injEq, and_true] at e1
      subst e1
      rw [← HA.out.cell (p := ⟨g, k * 6, none⟩) hb2] at q0
      rw [← HA.out.cell (p := ⟨g, k * 6 + 1, none⟩) hb2] at q1
      rw [← HA.out.cell (p := ⟨g, k * 6 + 2, none⟩) hb2] at q2
      rw [← HA.out.cell (p := ⟨g, k * 6 + 3, none⟩) hb2] at q3
      rw [← HA.out.cell (p := ⟨g, k * 6 + 4, none⟩) hb2] at q4
      rw [← HA.out.cell (p := ⟨g, k * 6 + 5, none⟩) hb2] at q5
      have AT := Lib.hid (area_take hlt)
      have bd := HSB.out L[k] (List.getElem_mem hlt)
      have b1 := BB.out k (by omega)
      have b2 := crossS_bd bd
      obtain ⟨s, hs⟩ : ∃ s, L[k] = s := ⟨_, rfl⟩
      rw [hs] at q0 q1 q3 q4 AT b2 bd
      obtain ⟨⟨x1, x2⟩, ⟨y1, y2⟩⟩ := s
      simp only at q0 q1 q3 q4 bd
      have BD := Lib.hid bd
      obtain ⟨sm, hs⟩ : ∃ sm, areaL (L.take k) = sm := ⟨_, rfl⟩
      obtain ⟨cr, hc⟩ : ∃ cr, crossS ((x1, x2), (y1, y2)) = cr := ⟨_, rfl⟩
      rw [hs] at AT b1 ⊢
      rw [hc] at AT b2
      have HC := Lib.hid hc
      have j8 : IntKind.i64.wrap (sm + cr) = sm + cr := by rw [IntWalk.i64_in _ (by omega)]
      have KX := Lib.hid (Bk.new wr #[.int .i64 x1, .int .i64 x2, .int .i64 0, .int .i64 y1, .int .i64 y2, .int .i64 0] 90)
      have BX := Lib.hid (below1 wr (.cells #[.int .i64 x1, .int .i64 x2, .int .i64 0, .int .i64 y1, .int .i64 y2, .int .i64 0] 90))
      clear hs hc bd b1 b2 hb2
      go_wp2_with fail
      refine (i_pdet (x1, x2) (y1, y2) (BD.out.1.wide (by omega)) (BD.out.2.wide (by omega)) _).mono ?_
      rintro e w3 ⟨rfl, hb3⟩
      rw [show ((x1, x2) : P2).1 * ((y1, y2) : P2).2 - ((x1, x2) : P2).2 * ((y1, y2) : P2).1 = cr from HC.out]
      have HB3 := Lib.hid (HA.out.trans ((BX.out.mono HA.out.size).trans (hb3.mono (Nat.le_trans HA.out.size BX.out.size))))
      clear hb3
      go_wp2
      exact ⟨⟨k + 1, by omega, by go_num, by rw [AT.out], HB3.out⟩, by simp [RowKit.intOf]; omega⟩
    · obtain rfl : k = L.length := by omega
      rw [List.take_length]
      go_wp2
      go_ret
      exact ⟨by rw [HLL.out]; rfl, HW.out⟩
set_option maxRecDepth 100000 in
set_option maxHeartbeats 1600000 in
theorem i_bound (p : List (List Int)) (v : Value) (w : World) (hv : Rw w v p) :
    Calls Try.prog 46 #[v] w (Quiet w (.int .i64 (boundR p))) := by
  have HV := Lib.hid hv
  obtain ⟨va, vc, rfl, _, _⟩ := hv.shape
  clear hv
  by_cases h : polyR p = true
  case neg =>
    have HP := Lib.hid (bool_f h)
    refine (quiet_cast (show boundR p = -1 from if_neg h) ?_)
    clear h
    go_enter Try.func46, Try.ntmps46
    go_wp2_with fail
    refine (i_ispoly p _ _ HV.out).mono ?_
    rintro e w1 ⟨rfl, hb⟩
    rw [HP.out]
    have HB := Lib.hid hb
    clear hb
    go_wp2
    go_ret
    exact ⟨rfl, HB.out⟩
  have HP := Lib.hid h
  refine (quiet_cast (show boundR p = boundL (sidesR p) from if_pos h) ?_)
  have HLP := Lib.hid (poly_len h)
  have BB := Lib.hid (bound_bd (sides_bd (poly_bd h)))
  have HSB := Lib.hid (sides_bd (poly_bd h))
  obtain ⟨ps, hps⟩ : ∃ ps, p.map ptOf = ps := ⟨_, rfl⟩
  unfold sidesR
  have HPR := Lib.hid (poly_rows h)
  rw [hps] at HLP BB HPR HSB ⊢
  clear h hps
  have HSL := Lib.hid (sidesP_len ps)
  go_enter Try.func46, Try.ntmps46
  go_wp2_with fail
  refine (i_ispoly p _ _ HV.out).mono ?_
  rintro e w1 ⟨rfl, hb⟩
  rw [HP.out]
  have HB1 := Lib.hid hb
  clear hb
  go_wp2_with fail
  refine (i_sides ps HLP.out.2 _ _ (by rw [HPR.out]; exact HV.out.below HB1.out)).mono ?_
  rintro e w2 ⟨⟨g, c, rfl, hs⟩, hb2⟩
  obtain ⟨L, hL⟩ : ∃ L, sidesP ps = L := ⟨_, rfl⟩
  rw [hL] at hs BB HSL HSB ⊢
  have HS := Lib.hid hs
  have HB2 := Lib.hid (HB1.out.trans (hb2.mono HB1.out.size))
  have hl12 : L.length ≤ 12 := by rw [HSL.out]; exact HLP.out.2
  have hlc : L.length ≤ c := by
    obtain ⟨_, _, e, h, _⟩ := hs.shape
    simp only [Value.slice.injEq] at e
    omega
  have HLL := Lib.hid hL
  clear hs hb2 hL
  go_wp2_with fail
  go_loopw [13, 3] (fun i s wr => ∃ k : Nat, k ≤ L.length ∧ i = .int .i64 k ∧ s = .int .i64 (boundL (L.take k)) ∧ Below w2.heap.size w2 wr) (fun i _ _ => L.length - (RowKit.intOf i).toNat)
  case atStart => exact ⟨0, Nat.zero_le _, rfl, rfl, Below.refl _ _⟩
  case round =>
    obtain ⟨k, hk, rfl, rfl, hbr⟩ := hrel
    have HA := Lib.hid hbr
    have HW := Lib.hid (HB2.out.trans (hbr.mono HB2.out.size))
    clear hbr
    by_cases hlt : k < L.length
    · have i1 : (0 : Int) ≤ (k : Int) := by omega
      have i2 : (k : Int) < (L.length : Int) := by omega
      obtain ⟨b, e1, -, -, hb2, ⟨q0, q1, q2, q3, q4, q5⟩, -⟩ := HS.out.at6 k hlt rfl
      simp only [Option.some.injEq, Addr.mk.injEq, and_true] at e1
      subst e1
      rw [← HA.out.cell (p := ⟨g, k * 6, none⟩) hb2] at q0
      rw [← HA.out.cell (p := ⟨g, k * 6 + 1, none⟩) hb2] at q1
      rw [← HA.out.cell (p := ⟨g, k * 6 + 2, none⟩) hb2] at q2
      rw [← HA.out.cell (p := ⟨g, k * 6 + 3, none⟩) hb2] at q3
      rw [← HA.out.cell (p := ⟨g, k * 6 + 4, none⟩) hb2] at q4
      rw [← HA.out.cell (p := ⟨g, k * 6 + 5, none⟩) hb2] at q5
      have AT := Lib.hid (bound_take hlt)
      have bd := HSB.out L[k] (List.getElem_mem hlt)
      have b1 := BB.out k (by omega)
      have b2 := stepS_bd bd
      obtain ⟨s, hs⟩ : ∃ s, L[k] = s := ⟨_, rfl⟩
      rw [hs] at q0 q1 q3 q4 AT b2 bd
      obtain ⟨⟨x1, x2⟩, ⟨y1, y2⟩⟩ := s
      simp only at q0 q1 q3 q4 bd
      have BD := Lib.hid bd
      obtain ⟨sm, hs⟩ : ∃ sm, boundL (L.take k) = sm := ⟨_, rfl⟩
      obtain ⟨cr, hc⟩ : ∃ cr, stepS ((x1, x2), (y1, y2)) = cr := ⟨_, rfl⟩
      rw [hs] at AT b1 ⊢
      rw [hc] at AT b2
      have HC := Lib.hid hc
      have j8 : IntKind.i64.wrap (sm + cr) = sm + cr := by rw [IntWalk.i64_in _ (by omega)]
      have KX := Lib.hid (Bk.new wr #[.int .i64 x1, .int .i64 x2, .int .i64 0, .int .i64 y1, .int .i64 y2, .int .i64 0] 90)
      have BX := Lib.hid (below1 wr (.cells #[.int .i64 x1, .int .i64 x2, .int .i64 0, .int .i64 y1, .int .i64 y2, .int .i64 0] 90))
      clear hs hc bd b1 b2 hb2
      have bd1 := BD.out.1
      have bd2 := BD.out.2
      unfold BdP at bd1 bd2
      simp only at bd1 bd2
      have A1 := Lib.hid (fun W => i_addtP y1 y2 0 (-1) x1 x2 0 W (by omega) (by omega) (by omega) (by omega) (by omega) (by omega))
      have G1 := Lib.hid (fun W => i_gcd (y1 + -1 * x1) (y2 + -1 * x2) (by omega) (by omega) (by omega) (by omega) W)
      have HG := Lib.hid (show gcdI (y1 + -1 * x1) (y2 + -1 * x2) = cr by rw [← HC.out]; show _ = gcdI (y1 - x1) (y2 - x2); rw [show y1 + -1 * x1 = y1 - x1 by omega, show y2 + -1 * x2 = y2 - x2 by omega])
      rw [HG.out] at G1
      generalize y1 + -1 * x1 = d1 at *
      generalize y2 + -1 * x2 = d2 at *
      generalize (0 : Int) + -1 * 0 = d3 at *
      clear bd1 bd2
      go_wp2_with fail
      refine (A1.out _).mono ?_
      rintro e w3 ⟨rfl, hb3⟩
      have HB3 := Lib.hid (HA.out.trans ((BX.out.mono HA.out.size).trans (hb3.mono (Nat.le_trans HA.out.size BX.out.size))))
      have BZ := Lib.hid (below1 w3 (.cells #[.int .i64 d1, .int .i64 d2, .int .i64 d3] 65))
      clear hb3
      go_wp2_with fail
      refine (G1.out _).mono ?_
      rintro e w4 ⟨rfl, hb4⟩
      have HB4 := Lib.hid (HB3.out.trans ((BZ.out.mono HB3.out.size).trans (hb4.mono (Nat.le_trans HB3.out.size BZ.out.size))))
      clear hb4
      go_wp2
      exact ⟨⟨k + 1, by omega, by go_num, by rw [AT.out], HB4.out⟩, by simp [RowKit.intOf]; omega⟩
    · obtain rfl : k = L.length := by omega
      rw [List.take_length]
      go_wp2
      go_ret
      exact ⟨by rw [HLL.out]; rfl, HW.out⟩
set_option maxRecDepth 100000 in
set_option maxHeartbeats 800000 in
theorem i_inner (p : List (List Int)) (v : Value) (w : World) (hv : Rw w v p) :
    Calls Try.prog 48 #[v] w (Quiet w (.int .i64 (innerR p))) := by
  have HV := Lib.hid hv
  obtain ⟨va, vc, rfl, _, _⟩ := hv.shape
  clear hv
  by_cases h : polyR p = true
  case neg =>
    have HP := Lib.hid (bool_f h)
    refine (quiet_cast (show innerR p = -1 from if_neg h) ?_)
    clear h
    go_enter Try.func48, Try.ntmps48
    go_wp2_with fail
    refine (i_ispoly p _ _ HV.out).mono ?_
    rintro e w1 ⟨rfl, hb⟩
    rw [HP.out]
    have HB := Lib.hid hb
    clear hb
    go_wp2
    go_ret
    exact ⟨rfl, HB.out⟩
  have HP := Lib.hid h
  have h1 := area_all h
  have h2 := bound_all h
  refine (quiet_cast (show innerR p = (areaL (sidesR p) - boundL (sidesR p) + 2).tdiv 2 from if_pos h) ?_)
  have HE := Lib.hid (show boundR p = boundL (sidesR p) from if_pos h)
  have HS := Lib.hid (show areaR p = areaL (sidesR p) from if_pos h)
  obtain ⟨A, hA⟩ : ∃ A, areaL (sidesR p) = A := ⟨_, rfl⟩
  obtain ⟨B, hB⟩ : ∃ B, boundL (sidesR p) = B := ⟨_, rfl⟩
  rw [hA] at h1 HS ⊢
  rw [hB] at h2 HE ⊢
  have j1 : IntKind.i64.wrap (A - B) = A - B := by rw [IntWalk.i64_in _ (by omega)]
  have j2 : IntKind.i64.wrap (A - B + 2) = A - B + 2 := by rw [IntWalk.i64_in _ (by omega)]
  have j3 : IntKind.i64.wrap ((A - B + 2).tdiv 2) = (A - B + 2).tdiv 2 := IntWalk.i64_in _ (by have h3 := Int.natAbs_tdiv_le_natAbs (A - B + 2) 2; generalize (A - B + 2).tdiv 2 = t at h3; omega)
  clear h hA hB h1 h2
  go_enter Try.func48, Try.ntmps48
  go_wp2_with fail
  refine (i_ispoly p _ _ HV.out).mono ?_
  rintro e w1 ⟨rfl, hb⟩
  rw [HP.out]
  have HB := Lib.hid hb
  clear hb
  go_wp2_with fail
  refine (i_areatwice p _ _ (HV.out.below HB.out)).mono ?_
  rintro e w2 ⟨rfl, hb2⟩
  rw [HS.out]
  have HB2 := Lib.hid (HB.out.trans (hb2.mono HB.out.size))
  clear hb2
  go_wp2_with fail
  refine (i_bound p _ _ (HV.out.below HB2.out)).mono ?_
  rintro e w3 ⟨rfl, hb3⟩
  rw [HE.out]
  have HB3 := Lib.hid (HB2.out.trans (hb3.mono HB2.out.size))
  clear hb3
  go_wp2
  go_ret
  exact ⟨rfl, HB3.out⟩
end Go.Proofs.Ytoekgcafhcamjaa
/- The model's l7Place, PlaceOf. -/
namespace Go.Proofs.Ytoekgcafhcamjaa
open Go.RowKit Go.Lib

set_option maxRecDepth 100000 in
set_option maxHeartbeats 1600000 in
theorem s_place (ps : List P2) (x : P2) (h12 : ps.length ≤ 12) (hbd : ∀ p ∈ ps, BdP 50 p) (hxb : BdP 1000 x) (v u : Value) (w : World) (hv : Rw w v (ps.map rowOf)) (hu : Sl w u (intVals (rowOf x))) :
    Calls Try.prog 100 #[v, u] w (Quiet w (.int .i64 (placeL (sidesP ps) x))) := by
  have HX := Lib.hid hv
  have HU := Lib.hid hu
  have HXB := Lib.hid hxb
  obtain ⟨va, vc, rfl, hvm, _⟩ := hv.shape
  obtain ⟨ua, uc, rfl, _⟩ := hu.shape
  rw [List.length_map] at HX hvm ⊢
  have HBD := Lib.hid hbd
  clear hv hbd hu hxb
  go_enter Try.func100, Try.ntmps100
  go_wp2
  go_loopw [5, 6] (fun s i wr => ∃ k : Nat, k ≤ ps.length ∧ i = .int .i64 k ∧ s = .int .i64 (placeL ((sidesP ps).take k) x) ∧ 0 ≤ placeL ((sidesP ps).take k) x ∧ Below w.heap.size w wr) (fun _ i _ => ps.length - (RowKit.intOf i).toNat)
  case atStart => exact ⟨0, Nat.zero_le _, rfl, rfl, by simp [placeL], Below.refl _ _⟩
  case round =>
    obtain ⟨k, hk, rfl, rfl, hz, hbr⟩ := hrel
    rename World => w2
    have HA := Lib.hid hbr
    by_cases hlt : k < ps.length
    · have i1 : (0 : Int) ≤ (k : Int) := by omega
      have i2 : (k : Int) < (ps.length : Int) := by omega
      obtain ⟨nx, hnx⟩ : ∃ nx, (k + 1) % ps.length = nx := ⟨_, rfl⟩
      have hxl : nx < ps.length := by rw [← hnx]; exact Nat.mod_lt _ (by omega)
      have HSD := Lib.hid (side_at hlt hnx hxl)
      have j1 : IntKind.i64.wrap ((k : Int) + 1) = (k : Int) + 1 := by rw [IntWalk.i64_in _ (by omega)]
      have j2 : Int.tmod ((k : Int) + 1) (ps.length : Int) = (nx : Int) := by rw [mod_next, hnx]
      have j3 : ¬ (ps.length : Int) = 0 := by omega
      have j4 : ((ps.length : Int) == 0) = false := beq_eq_false_iff_ne.2 j3
      have j9 : ¬ ps = [] := fun e => by rw [e] at hlt; simp at hlt
      have j5 : IntKind.i64.wrap (nx : Int) = (nx : Int) := by rw [IntWalk.i64_in _ (by omega)]
      have j6 : (0 : Int) ≤ (nx : Int) := by omega
      have j7 : (nx : Int) < (ps.length : Int) := by omega
      obtain ⟨b1, o1, y, rfl, hb2, hcell, hsx⟩ := HX.out.pt k hlt
      obtain ⟨b2, o2, z, e2, _, hcell', hsy⟩ := HX.out.pt nx hxl
      simp only [Option.some.injEq, Addr.mk.injEq, and_true] at e2
      obtain ⟨rfl, rfl⟩ := e2
      rw [← HA.out.cell (p := ⟨b1, o1 + k, none⟩) hb2] at hcell
      rw [← HA.out.cell (p := ⟨b1, o1 + nx, none⟩) hb2] at hcell'
      have QX := Lib.hid hsx
      have QY := Lib.hid hsy
      obtain ⟨xa, xc, rfl, _⟩ := hsx.shape
      obtain ⟨ya, yc, rfl, _⟩ := hsy.shape
      have h1 : b1 < w2.heap.size := Nat.lt_of_lt_of_le hb2 hbr.size
      have CB := Lib.hid (show BdP 50 ps[k] ∧ BdP 50 ps[nx] from ⟨HBD.out ps[k] (List.getElem_mem _), HBD.out ps[nx] (List.getElem_mem _)⟩)
      have hsl : k < (sidesP ps).length := by rw [sidesP_len]; exact hlt
      have AT := Lib.hid (place_take x hsl)
      have AO := Lib.hid (place_out (l := sidesP ps) x hsl)
      rw [sidesP_get, HSD.out] at AT AO
      have hr := place_rng ((sidesP ps).take k) x
      obtain ⟨p, hp⟩ : ∃ p, ps[k] = p := ⟨_, rfl⟩
      obtain ⟨q, hq⟩ : ∃ q, ps[nx] = q := ⟨_, rfl⟩
      rw [hp, hq] at AT AO CB
      rw [hp] at QX hcell
      rw [hq] at QY hcell'
      obtain ⟨sm, hs⟩ : ∃ sm, placeL ((sidesP ps).take k) x = sm := ⟨_, rfl⟩
      rw [hs] at AT hr hz ⊢
      obtain ⟨t, ht⟩ : ∃ t, turnP p q x = t := ⟨_, rfl⟩
      simp only [ht] at AT AO
      have HT := Lib.hid ht
      have hbr : Below w2.heap.size w2 w2 := Below.refl _ _
      have HRG := Lib.hid (And.intro hz hr.2)
      clear hsx hsy hb2 hnx hsl hs hp hq ht hz hr
      go_wp2_with fail
      go_region_held3 (fun w' => w'.cell? ⟨b1, o1 + k, none⟩ = some (.slice xa (intVals (rowOf p)).length xc) ∧ w'.cell? ⟨b1, o1 + nx, none⟩ = some (.slice ya (intVals (rowOf q)).length yc) ∧ Below w2.heap.size w2 w')
        (first
          | with_reducible exact keepP2 hcell hcell' hbr
          | (go_split_ands; with_reducible exact keepQ2 h1 h1 (by assumption) (by assumption) (by assumption) (by assumption))
          | go_keep)
        (first | (go_at_call 117; refine (s_turn7 p q x CB.out.1 CB.out.2 HXB.out _ _ _ _ (QX.out.below HA.out.drew) (QY.out.below HA.out.drew) (HU.out.below HA.out.drew)).mono ?_; rintro e w3 ⟨rfl, hb3⟩; rw [HT.out]))
      rename_i hH
      have HB1 := Lib.hid (HA.out.trans (hH.2.2.mono HA.out.size))
      clear hH hbr hcell hcell'
      by_cases ht : t < 0
      · have E := Lib.hid (AO.out ht)
        go_wp2
        go_ret
        exact ⟨by rw [E.out]; rfl, HB1.out⟩
      · by_cases ht0 : t = 0
        · subst ht0
          have E := Lib.hid (show placeL ((sidesP ps).take (k + 1)) x = 0 by rw [AT.out]; have := HRG.out; unfold sgnI; rw [if_pos rfl]; omega)
          go_wp2
          exact ⟨⟨k + 1, by omega, by go_num, by rw [E.out], by rw [E.out]; exact Int.le_refl _, HB1.out⟩, by simp [RowKit.intOf]; omega⟩
        · have E := Lib.hid (show placeL ((sidesP ps).take (k + 1)) x = sm by rw [AT.out]; have := HRG.out; unfold sgnI; rw [if_neg ht0, if_neg ht]; omega)
          have k1 : (t == 0) = false := beq_eq_false_iff_ne.2 ht0
          have k2 : decide (t = 0) = false := decide_eq_false ht0
          have k3 : decide (t < 0) = false := decide_eq_false ht
          go_wp2
          exact ⟨⟨k + 1, by omega, by go_num, by rw [E.out], by rw [E.out]; exact HRG.out.1, HB1.out⟩, by simp [RowKit.intOf]; omega⟩
    · obtain rfl : k = ps.length := by omega
      have E := Lib.hid (show placeL ((sidesP ps).take ps.length) x = placeL (sidesP ps) x by rw [List.take_of_length_le (by rw [sidesP_len]; omega)])
      rw [E.out]
      clear hbr
      go_wp2
      go_ret
      exact ⟨rfl, HA.out⟩
theorem placeR_f {p : List (List Int)} {x : List Int} (h : ¬ (polyR p = true ∧ isV x = true ∧ x.length = 2)) : placeR p x = -1 := if_neg h
theorem pt_bd {x : List Int} (h : isV x = true) (h2 : x.length = 2) : BdP 1000 (ptOf x) := by
  have h3 := (isV_t h).2.2
  match x, h2 with
  | [a, b], _ =>
    have h4 := small_get h3 0 (by simp)
    have h5 := small_get h3 1 (by simp)
    exact ⟨h4, h5⟩
set_option maxRecDepth 100000 in
set_option maxHeartbeats 1600000 in
theorem s_placeof (p : List (List Int)) (x : List Int) (v u : Value) (w : World) (hv : Rw w v p) (hu : Sl w u (intVals x)) :
    Calls Try.prog 49 #[v, u] w (Quiet w (.int .i64 (placeR p x))) := by
  have HV := Lib.hid hv
  have HU := Lib.hid hu
  obtain ⟨va, vc, rfl, _, _⟩ := hv.shape
  obtain ⟨ua, uc, rfl, hum, _⟩ := hu.shape
  rw [intVals_len] at HU hum ⊢
  unfold maxLen at hum
  clear hv hu
  by_cases h : polyR p = true
  case neg =>
    have HP := Lib.hid (bool_f h)
    refine (quiet_cast (placeR_f (fun k => h k.1)) ?_)
    clear h
    go_enter Try.func49, Try.ntmps49
    go_wp2_with fail
    refine (s_ispoly p _ _ HV.out).mono ?_
    rintro e w1 ⟨rfl, hb⟩
    rw [HP.out]
    have HB := Lib.hid hb
    clear hb
    go_wp2
    go_ret
    exact ⟨rfl, HB.out⟩
  have HP := Lib.hid h
  by_cases h2 : isV x = true
  case neg =>
    have HQ := Lib.hid (bool_f h2)
    refine (quiet_cast (placeR_f (fun k => h2 k.2.1)) ?_)
    clear h h2
    go_enter Try.func49, Try.ntmps49
    go_wp2_with fail
    refine (s_ispoly p _ _ HV.out).mono ?_
    rintro e w1 ⟨rfl, hb⟩
    rw [HP.out]
    have HB := Lib.hid hb
    clear hb
    go_wp2_with fail
    refine (s_isv x _ _ (HU.out.below HB.out)).mono ?_
    rintro e w2 ⟨rfl, hb⟩
    rw [HQ.out]
    have HB2 := Lib.hid (HB.out.trans (hb.mono HB.out.size))
    clear hb
    go_wp2
    go_ret
    exact ⟨rfl, HB2.out⟩
  have HQ := Lib.hid h2
  by_cases h3 : x.length = 2
  case neg =>
    have k1 : ((x.length : Int) != 2) = true := by rw [bne_iff_ne]; omega
    have k2 : ((x.length : Int) == 2) = false := by rw [beq_eq_false_iff_ne]; omega
    have k3 : ¬ (x.length : Int) = 2 := by omega
    refine (quiet_cast (placeR_f (fun k => h3 k.2.2)) ?_)
    clear h h2
    go_enter Try.func49, Try.ntmps49
    go_wp2_with fail
    refine (s_ispoly p _ _ HV.out).mono ?_
    rintro e w1 ⟨rfl, hb⟩
    rw [HP.out]
    have HB := Lib.hid hb
    clear hb
    go_wp2_with fail
    refine (s_isv x _ _ (HU.out.below HB.out)).mono ?_
    rintro e w2 ⟨rfl, hb⟩
    rw [HQ.out]
    have HB2 := Lib.hid (HB.out.trans (hb.mono HB.out.size))
    clear hb
    go_wp2
    go_ret
    exact ⟨rfl, HB2.out⟩
  refine (quiet_cast (show placeR p x = placeL (sidesR p) (ptOf x) from if_pos ⟨h, h2, h3⟩) ?_)
  have HLP := Lib.hid (poly_len h)
  have HPB := Lib.hid (poly_bd h)
  have HPR := Lib.hid (poly_rows h)
  have HXB := Lib.hid (pt_bd h2 h3)
  have HRX := Lib.hid (row_pt h3)
  obtain ⟨r, hr⟩ : ∃ r, placeL (sidesR p) (ptOf x) = r := ⟨_, rfl⟩
  have HR := Lib.hid hr
  rw [hr]
  have HU2 := Lib.hid (show Sl w (.slice ua 2 uc) (intVals x) by have h := HU.out; rwa [h3] at h)
  rw [h3] at HU ⊢
  clear h h2 hr hum h3
  go_enter Try.func49, Try.ntmps49
  go_wp2_with fail
  refine (s_ispoly p _ _ HV.out).mono ?_
  rintro e w1 ⟨rfl, hb⟩
  rw [HP.out]
  have HB := Lib.hid hb
  clear hb
  go_wp2_with fail
  refine (s_isv x _ _ (HU2.out.below HB.out)).mono ?_
  rintro e w2 ⟨rfl, hb⟩
  rw [HQ.out]
  have HB2 := Lib.hid (HB.out.trans (hb.mono HB.out.size))
  clear hb
  go_wp2_with fail
  refine (s_place (p.map ptOf) (ptOf x) HLP.out.2 HPB.out HXB.out _ _ _ (by rw [HPR.out]; exact HV.out.below HB2.out) (by rw [HRX.out]; exact HU2.out.below HB2.out)).mono ?_
  rintro e w5 ⟨rfl, hb5⟩
  rw [show placeL (sidesP (p.map ptOf)) (ptOf x) = r from HR.out]
  have HB5 := Lib.hid (HB2.out.trans (hb5.mono HB2.out.size))
  clear hb5
  go_wp2
  go_ret
  exact ⟨rfl, HB5.out⟩
end Go.Proofs.Ytoekgcafhcamjaa
/- The program's placeBeside, PlaceOf. -/
namespace Go.Proofs.Ytoekgcafhcamjaa
open Go Go.RowKit Go.Lib

theorem cmp_sgn (t : Int) : cmpJ t 0 = sgnI t := rfl
theorem sgn_rng (t : Int) : -1 ≤ sgnI t ∧ sgnI t ≤ 1 := by
  unfold sgnI
  split
  · omega
  · split <;> omega
set_option maxRecDepth 100000 in
set_option maxHeartbeats 1600000 in
theorem i_beside (L : List S2) (x : P2) (hL : BdS L) (hx : BdP 1000 x) (h12 : L.length ≤ 12) (lo hi : Nat) (v : Value) (w : World) (hv : OwS lo hi w v L) :
    Calls Try.prog 101 #[v, ptV x] w (Quiet w (.int .i64 (placeL L x))) := by
  have HS := Lib.hid hv
  have HSB := Lib.hid hL
  have HXB := Lib.hid hx
  obtain ⟨a, c, rfl, hlc, _⟩ := hv.shape
  obtain ⟨x1, x2⟩ := x
  unfold ptV
  simp only
  have KX := Lib.hid (Bk.new w #[.int .i64 x1, .int .i64 x2, .int .i64 0] 65)
  have B0 := Lib.hid (below1 w (.cells #[.int .i64 x1, .int .i64 x2, .int .i64 0] 65))
  clear hv hL hx
  go_enter Try.func101, Try.ntmps101
  go_wp2_with fail
  go_loopw [10, 5] (fun i s wr => ∃ k : Nat, k ≤ L.length ∧ i = .int .i64 k ∧ s = .int .i64 (placeL (L.take k) (x1, x2)) ∧ Below (w.heap.size + 1) (w.alloc (.cells #[.int .i64 x1, .int .i64 x2, .int .i64 0] 65)) wr) (fun i _ _ => L.length - (RowKit.intOf i).toNat)
  case atStart => exact ⟨0, Nat.zero_le _, rfl, rfl, Below.refl _ _⟩
  case round =>
    obtain ⟨k, hk, rfl, rfl, hbr⟩ := hrel
    have HBR := Lib.hid hbr
    have HS1 := Lib.hid (show w.heap.size + 1 ≤ wr.heap.size by have := hbr.size; simpa using this)
    have HA := Lib.hid (B0.out.trans (hbr.mono (by omega)))
    have KX1 := Lib.hid (show Bk wr w.heap.size #[.int .i64 x1, .int .i64 x2, .int .i64 0] 65 from (hbr.block _ (Nat.lt_succ_self _)).trans KX.out)
    clear hbr
    by_cases hlt : k < L.length
    · have i1 : (0 : Int) ≤ (k : Int) := by omega
      have i2 : (k : Int) < (L.length : Int) := by omega
      obtain ⟨b, rfl, -, -, hb2, ⟨q0, q1, q2, q3, q4, q5⟩, -⟩ := HS.out.at6 k hlt rfl
      rw [← HA.out.cell (p := ⟨b, k * 6, none⟩) hb2] at q0
      rw [← HA.out.cell (p := ⟨b, k * 6 + 1, none⟩) hb2] at q1
      rw [← HA.out.cell (p := ⟨b, k * 6 + 2, none⟩) hb2] at q2
      rw [← HA.out.cell (p := ⟨b, k * 6 + 3, none⟩) hb2] at q3
      rw [← HA.out.cell (p := ⟨b, k * 6 + 4, none⟩) hb2] at q4
      rw [← HA.out.cell (p := ⟨b, k * 6 + 5, none⟩) hb2] at q5
      have AT := Lib.hid (place_take (x1, x2) hlt)
      have bd := HSB.out L[k] (List.getElem_mem hlt)
      obtain ⟨s, hs⟩ : ∃ s, L[k] = s := ⟨_, rfl⟩
      rw [hs] at q0 q1 q3 q4 AT bd
      obtain ⟨⟨y1, y2⟩, ⟨z1, z2⟩⟩ := s
      simp only at q0 q1 q3 q4 bd AT
      have BD := Lib.hid bd
      obtain ⟨t, ht⟩ : ∃ t, turnP (y1, y2) (z1, z2) (x1, x2) = t := ⟨_, rfl⟩
      have HT := Lib.hid ht
      rw [ht] at AT
      obtain ⟨sm, hsm⟩ : ∃ sm, placeL (L.take k) (x1, x2) = sm := ⟨_, rfl⟩
      rw [hsm] at AT ⊢
      obtain ⟨cr, hcr⟩ : ∃ cr, sgnI t = cr := ⟨_, rfl⟩
      rw [hcr] at AT
      have HCR := Lib.hid hcr
      have KY := Lib.hid (Bk.new wr #[.int .i64 y1, .int .i64 y2, .int .i64 0, .int .i64 z1, .int .i64 z2, .int .i64 0] 90)
      have BY := Lib.hid (below1 wr (.cells #[.int .i64 y1, .int .i64 y2, .int .i64 0, .int .i64 z1, .int .i64 z2, .int .i64 0] 90))
      obtain ⟨c0, c1, c2⟩ := bk3c (KX1.out.below BY.out)
      clear hs ht hsm hcr bd hb2
      go_wp2_with fail
      refine (i_turn (y1, y2) (z1, z2) (x1, x2) BD.out.1 BD.out.2 HXB.out _).mono ?_
      rintro e w3 ⟨rfl, hb3⟩
      rw [HT.out]
      have HB3 := Lib.hid (HBR.out.trans ((BY.out.mono HS1.out).trans (hb3.mono (Nat.le_trans HS1.out BY.out.size))))
      clear hb3 c0 c1 c2
      go_wp2_with fail
      refine (i_ccmpP t 0 _).mono ?_
      rintro e w4 ⟨rfl, rfl⟩
      rw [cmp_sgn, HCR.out]
      go_wp2
      exact ⟨⟨k + 1, by omega, by go_num, by rw [AT.out], HB3.out⟩, by simp [RowKit.intOf]; omega⟩
    · obtain rfl : k = L.length := by omega
      rw [List.take_length]
      go_wp2
      go_ret
      exact ⟨rfl, HA.out⟩
theorem pt_splice {x : List Int} (h : x.length = 2) : splice [Value.int .i64 0, .int .i64 0, .int .i64 0] 0 (intVals x) = [.int .i64 (ptOf x).1, .int .i64 (ptOf x).2, .int .i64 0] := by
  match x, h with
  | [a, b], _ => rfl
theorem isV_pt {x : List Int} (h : (isV x && decide (x.length = 2)) = true) : isV x = true ∧ x.length = 2 ∧ BdP 1000 (ptOf x) := by
  rw [Bool.and_eq_true] at h
  have h2 := of_decide_eq_true h.2
  have h3 := (isV_t h.1).2.2
  refine ⟨h.1, h2, ?_⟩
  match x, h2 with
  | [a, b], _ =>
    have h4 := small_get h3 0 (by simp)
    have h5 := small_get h3 1 (by simp)
    exact ⟨h4, h5⟩
theorem placeR_no {p : List (List Int)} {x : List Int} (h : ¬ (polyR p = true ∧ (isV x && decide (x.length = 2)) = true)) : placeR p x = -1 := by
  unfold placeR
  rw [if_neg]
  rintro ⟨h1, h2, h3⟩
  exact h ⟨h1, by rw [h2, decide_eq_true h3]; rfl⟩
set_option maxRecDepth 100000 in
set_option maxHeartbeats 1600000 in
theorem i_placeof (p : List (List Int)) (x : List Int) (v u : Value) (w : World) (hv : Rw w v p) (hu : Sl w u (intVals x)) :
    Calls Try.prog 51 #[v, u] w (Quiet w (.int .i64 (placeR p x))) := by
  have HV := Lib.hid hv
  have HU := Lib.hid hu
  obtain ⟨va, vc, rfl, _, _⟩ := hv.shape
  obtain ⟨ua, uc, rfl, _, _⟩ := hu.shape
  clear hv hu
  by_cases h : polyR p = true
  case neg =>
    have HP := Lib.hid (bool_f h)
    refine (quiet_cast (placeR_no (fun k => h k.1)) ?_)
    clear h
    go_enter Try.func51, Try.ntmps51
    go_wp2_with fail
    refine (i_ispoly p _ _ HV.out).mono ?_
    rintro e w1 ⟨rfl, hb⟩
    rw [HP.out]
    have HB := Lib.hid hb
    clear hb
    go_wp2
    go_ret
    exact ⟨rfl, HB.out⟩
  have HP := Lib.hid h
  by_cases h2 : (isV x && decide (x.length = 2)) = true
  case neg =>
    have HQ := Lib.hid (bool_f h2)
    refine (quiet_cast (placeR_no (fun k => h2 k.2)) ?_)
    clear h h2
    go_enter Try.func51, Try.ntmps51
    go_wp2_with fail
    refine (i_ispoly p _ _ HV.out).mono ?_
    rintro e w1 ⟨rfl, hb⟩
    rw [HP.out]
    have HB := Lib.hid hb
    clear hb
    go_wp2_with fail
    refine (i_plane x _ _ (HU.out.below HB.out)).mono ?_
    rintro e w2 ⟨rfl, hb⟩
    rw [HQ.out]
    have HB2 := Lib.hid (HB.out.trans (hb.mono HB.out.size))
    clear hb
    go_wp2
    go_ret
    exact ⟨rfl, HB2.out⟩
  have HQ := Lib.hid h2
  have HX := Lib.hid (isV_pt h2)
  refine (quiet_cast (show placeR p x = placeL (sidesR p) (ptOf x) from if_pos ⟨h, HX.out.1, HX.out.2.1⟩) ?_)
  have HLP := Lib.hid (poly_len h)
  have HSB := Lib.hid (sides_bd (poly_bd h))
  have HPR := Lib.hid (poly_rows h)
  have HSP := Lib.hid (pt_splice HX.out.2.1)
  obtain ⟨r, hr⟩ : ∃ r, placeL (sidesR p) (ptOf x) = r := ⟨_, rfl⟩
  have HR := Lib.hid hr
  rw [hr]
  clear h h2 hr
  go_enter Try.func51, Try.ntmps51
  go_wp2_with fail
  refine (i_ispoly p _ _ HV.out).mono ?_
  rintro e w1 ⟨rfl, hb⟩
  rw [HP.out]
  have HB := Lib.hid hb
  clear hb
  go_wp2_with fail
  refine (i_plane x _ _ (HU.out.below HB.out)).mono ?_
  rintro e w2 ⟨rfl, hb⟩
  rw [HQ.out]
  have HB2 := Lib.hid (HB.out.trans (hb.mono HB.out.size))
  clear hb
  go_wp2_with fail
  refine (i_sides (p.map ptOf) HLP.out.2 _ _ (by rw [HPR.out]; exact HV.out.below HB2.out)).mono ?_
  rintro e w3 ⟨⟨g, c, rfl, hs⟩, hb3⟩
  have HS := Lib.hid hs
  have HB3 := Lib.hid (HB2.out.trans (hb3.mono HB2.out.size))
  clear hs hb3
  go_wp2_with fail
  refine (i_num x (ptOf x).1 (ptOf x).2 0 HSP.out (by have := HX.out.2.1; omega) (by have := HX.out.2.1; omega) _ _ (HU.out.below HB3.out)).mono ?_
  rintro e w4 ⟨rfl, hb4⟩
  have HB4 := Lib.hid (HB3.out.trans (hb4.mono HB3.out.size))
  have HS4 := Lib.hid (HS.out.below hb4)
  clear hb4
  go_wp2_with fail
  refine (i_beside (sidesP (p.map ptOf)) (ptOf x) HSB.out HX.out.2.2 (by rw [sidesP_len]; exact HLP.out.2) _ _ _ _ HS4.out).mono ?_
  rintro e w5 ⟨rfl, hb5⟩
  rw [show placeL (sidesP (p.map ptOf)) (ptOf x) = r from HR.out]
  have HB5 := Lib.hid (HB4.out.trans (hb5.mono HB4.out.size))
  clear hb5
  go_wp2
  go_ret
  exact ⟨rfl, HB5.out⟩
end Go.Proofs.Ytoekgcafhcamjaa
/- Plain facts on the whole points of a polygon. -/
namespace Go.Proofs.Ytoekgcafhcamjaa

theorem last_step (acc : List P2) (x : P2) (h : acc ≠ []) : (stepR acc x).getLast? = acc.getLast? := by
  unfold stepR
  obtain ⟨k, hk⟩ := popR_app acc x
  have hn := popR_ne acc x h
  rw [List.getLast?_cons]
  rw [hk] at hn ⊢
  have hl : ¬ acc.length ≤ k := fun c => hn (List.drop_eq_nil_iff.2 c)
  rw [List.getLast?_drop, if_neg hl]
  cases hq : acc.getLast? with
  | none => rw [List.getLast?_eq_none_iff] at hq; exact absurd hq h
  | some y => rfl
theorem last_fold : ∀ (l acc : List P2), acc ≠ [] → (l.foldl stepR acc).getLast? = acc.getLast?
  | [], _, _ => rfl
  | x :: l, acc, h => by
    rw [List.foldl_cons, last_fold l (stepR acc x) (by simp [stepR]), last_step acc x h]
theorem bend_long : ∀ (l acc : List P2), 2 ≤ acc.length → 2 ≤ (l.foldl stepR acc).length
  | [], _, h => h
  | x :: l, acc, h => by
    rw [List.foldl_cons]
    refine bend_long l _ ?_
    have hn := popR_ne acc x (by intro e; rw [e] at h; simp at h)
    unfold stepR
    match hp : popR acc x, hn with
    | a :: r, _ => simp
theorem bendL_head (s t : P2) (l : List P2) : (bendL (s :: t :: l)).head? = some s := by
  have h1 : bendR (s :: t :: l) = l.foldl stepR [t, s] := rfl
  have h2 := last_fold l [t, s] (by simp)
  have h3 := bend_long l [t, s] (by simp)
  unfold bendL
  rw [h1, List.head?_reverse]
  match hq : l.foldl stepR [t, s], h3 with
  | a :: b :: r, _ =>
    rw [hq] at h2
    simpa using h2
theorem cornL_head (s t : P2) (l : List P2) : (cornL (s :: t :: l)).head? = some s := by
  have h := bendL_head s t l
  unfold cornL
  rw [List.head?_append, h]; rfl
/-- The first corner is the least one. -/
theorem poly_first {p : List (List Int)} (h : polyR p = true) : ∀ q ∈ p.map ptOf, ((p.map ptOf).getD 0 (0, 0)).1 ≤ q.1 := by
  have e := polyR_t h
  have hs := polyR_shape h
  have e1 : hullP p = (p.map ptOf, true) := by
    unfold hullR at e
    have a := congrArg Prod.fst e
    have b := congrArg Prod.snd e
    simp only at a b
    refine Prod.ext ?_ b
    simp only
    rw [← a, List.map_map, show ptOf ∘ rowOf = id from rfl, List.map_id, a]
  unfold hullP at e1
  split at e1
  · cases (congrArg Prod.snd e1)
  · split at e1
    · cases (congrArg Prod.snd e1)
    · rename_i h3
      have hc : cornL (sortL p) = p.map ptOf := by
        unfold cornR at e1
        split at e1
        · cases (congrArg Prod.snd e1)
        · exact congrArg Prod.fst e1
      have hst := (sortL_strict hs.2.2).1
      match hS : sortL p, h3 with
      | [], h3 => simp at h3
      | [_], h3 => simp at h3
      | s :: t :: l, _ =>
        rw [hS] at hc hst
        have hh := cornL_head s t l
        rw [hc] at hh
        have h0 : (p.map ptOf).getD 0 (0, 0) = s := by
          rw [List.getD_eq_getElem?_getD, ← List.head?_eq_getElem?, hh]; rfl
        rw [h0]
        intro q hq
        rw [← hc] at hq
        have hm := cornL_mem hq
        rcases List.mem_cons.1 hm with e | k
        · rw [e]; exact Int.le_refl _
        · have := (List.pairwise_cons.1 hst).1 q k
          unfold ltP at this
          omega

/-- The least and the greatest number. -/
def loM (f : P2 → Int) (ps : List P2) : Int := ps.foldl (fun m p => min m (f p)) (f (ps.getD 0 (0, 0)))
def hiM (f : P2 → Int) (ps : List P2) : Int := ps.foldl (fun m p => max m (f p)) (f (ps.getD 0 (0, 0)))
def loT (f : P2 → Int) (ps : List P2) (k : Nat) : Int := (ps.take k).foldl (fun m p => min m (f p)) (f (ps.getD 0 (0, 0)))
def hiT (f : P2 → Int) (ps : List P2) (k : Nat) : Int := (ps.take k).foldl (fun m p => max m (f p)) (f (ps.getD 0 (0, 0)))
theorem loT_step {f : P2 → Int} {ps : List P2} {k : Nat} (h : k < ps.length) : loT f ps (k + 1) = min (loT f ps k) (f ps[k]) := by
  unfold loT
  rw [List.take_succ_eq_append_getElem h, List.foldl_append]; rfl
theorem hiT_step {f : P2 → Int} {ps : List P2} {k : Nat} (h : k < ps.length) : hiT f ps (k + 1) = max (hiT f ps k) (f ps[k]) := by
  unfold hiT
  rw [List.take_succ_eq_append_getElem h, List.foldl_append]; rfl
theorem loT_all (f : P2 → Int) (ps : List P2) : loT f ps ps.length = loM f ps := by unfold loT loM; rw [List.take_length]
theorem hiT_all (f : P2 → Int) (ps : List P2) : hiT f ps ps.length = hiM f ps := by unfold hiT hiM; rw [List.take_length]
theorem loM_bd {f : P2 → Int} {n : Int} : ∀ (l : List P2) (m : Int), (-n ≤ m ∧ m ≤ n) → (∀ p ∈ l, -n ≤ f p ∧ f p ≤ n) → -n ≤ l.foldl (fun m p => min m (f p)) m ∧ l.foldl (fun m p => min m (f p)) m ≤ n
  | [], _, h, _ => h
  | p :: l, m, h, k => by
    rw [List.foldl_cons]
    have := k p (List.mem_cons_self ..)
    exact loM_bd l _ (by omega) (fun q hq => k q (List.mem_cons_of_mem _ hq))
theorem hiM_bd {f : P2 → Int} {n : Int} : ∀ (l : List P2) (m : Int), (-n ≤ m ∧ m ≤ n) → (∀ p ∈ l, -n ≤ f p ∧ f p ≤ n) → -n ≤ l.foldl (fun m p => max m (f p)) m ∧ l.foldl (fun m p => max m (f p)) m ≤ n
  | [], _, h, _ => h
  | p :: l, m, h, k => by
    rw [List.foldl_cons]
    have := k p (List.mem_cons_self ..)
    exact hiM_bd l _ (by omega) (fun q hq => k q (List.mem_cons_of_mem _ hq))
theorem lo_first {f : P2 → Int} : ∀ (l : List P2) (m : Int), (∀ p ∈ l, m ≤ f p) → l.foldl (fun m p => min m (f p)) m = m
  | [], _, _ => rfl
  | p :: l, m, k => by
    rw [List.foldl_cons]
    have h := k p (List.mem_cons_self ..)
    rw [show min m (f p) = m by omega]
    exact lo_first l m (fun q hq => k q (List.mem_cons_of_mem _ hq))
theorem lo_poly {p : List (List Int)} (h : polyR p = true) : loM (·.1) (p.map ptOf) = ((p.map ptOf).getD 0 (0, 0)).1 := lo_first _ _ (poly_first h)
theorem getD_bd {ps : List P2} {n : Int} (h0 : 0 < ps.length) (h : ∀ p ∈ ps, BdP n p) : BdP n (ps.getD 0 (0, 0)) := by
  rw [List.getD_eq_getElem?_getD, List.getElem?_eq_getElem h0]
  exact h _ (List.getElem_mem _)

/-- The points of a column below m, of the columns below n. -/
def colP (L : List S2) (x lo : Int) (m : Nat) : List P2 := ((List.range m).map fun (j : Nat) => ((x, lo + (j : Int)) : P2)).filter fun q => decide (0 ≤ placeL L q)
theorem colP_step (L : List S2) (x lo : Int) (m : Nat) : colP L x lo (m + 1) = colP L x lo m ++ (if 0 ≤ placeL L (x, lo + (m : Int)) then [(x, lo + (m : Int))] else []) := by
  unfold colP
  rw [List.range_succ, List.map_append, List.filter_append]
  congr 1
  by_cases h : 0 ≤ placeL L (x, lo + (m : Int))
  · simp [h]
  · simp [h]
theorem colP_len (L : List S2) (x lo : Int) (m : Nat) : (colP L x lo m).length ≤ m := by
  unfold colP
  have := List.length_filter_le (fun q => decide (0 ≤ placeL L q)) ((List.range m).map fun (j : Nat) => ((x, lo + (j : Int)) : P2))
  simpa using this
def colsP (L : List S2) (l lo : Int) (h n : Nat) : List P2 := (List.range n).flatMap fun (i : Nat) => colP L (l + (i : Int)) lo h
theorem colsP_step (L : List S2) (l lo : Int) (h n : Nat) : colsP L l lo h (n + 1) = colsP L l lo h n ++ colP L (l + (n : Int)) lo h := by
  unfold colsP
  rw [List.range_succ, List.flatMap_append]; simp
theorem colsP_len (L : List S2) (l lo : Int) (h : Nat) (hh : h ≤ 101) : ∀ n, (colsP L l lo h n).length ≤ 101 * n
  | 0 => by simp [colsP]
  | n + 1 => by
    rw [colsP_step, List.length_append]
    have h1 := colsP_len L l lo h hh n
    have h2 := colP_len L (l + (n : Int)) lo h
    omega
def wideN (a b : Int) : Nat := (b - a + 1).toNat
def ptsP (ps : List P2) : List P2 := colsP (sidesP ps) (loM (·.1) ps) (loM (·.2) ps) (wideN (loM (·.2) ps) (hiM (·.2) ps)) (wideN (loM (·.1) ps) (hiM (·.1) ps))
def pointsR (p : List (List Int)) : List (List Int) := if polyR p = true ∧ areaL (sidesR p) ≤ 2000 then (ptsP (p.map ptOf)).map rowOf else []
/-- The numbers of a polygon. -/
theorem poly_box {p : List (List Int)} (h : polyR p = true) : (-50 ≤ loM (·.1) (p.map ptOf) ∧ loM (·.1) (p.map ptOf) ≤ 50) ∧ (-50 ≤ loM (·.2) (p.map ptOf) ∧ loM (·.2) (p.map ptOf) ≤ 50) ∧ (-50 ≤ hiM (·.1) (p.map ptOf) ∧ hiM (·.1) (p.map ptOf) ≤ 50) ∧ (-50 ≤ hiM (·.2) (p.map ptOf) ∧ hiM (·.2) (p.map ptOf) ≤ 50) := by
  have hb := poly_bd h
  have h0 := getD_bd (by have := poly_len h; omega) hb
  exact ⟨loM_bd _ _ h0.1 fun q hq => (hb q hq).1, loM_bd _ _ h0.2 fun q hq => (hb q hq).2, hiM_bd _ _ h0.1 fun q hq => (hb q hq).1, hiM_bd _ _ h0.2 fun q hq => (hb q hq).2⟩
theorem ptsP_len {p : List (List Int)} (h : polyR p = true) : (ptsP (p.map ptOf)).length ≤ 10201 := by
  have hb := poly_box h
  unfold ptsP
  have h1 := colsP_len (sidesP (p.map ptOf)) (loM (·.1) (p.map ptOf)) (loM (·.2) (p.map ptOf)) (wideN (loM (·.2) (p.map ptOf)) (hiM (·.2) (p.map ptOf))) (by unfold wideN; omega) (wideN (loM (·.1) (p.map ptOf)) (hiM (·.1) (p.map ptOf)))
  have h2 : wideN (loM (·.1) (p.map ptOf)) (hiM (·.1) (p.map ptOf)) ≤ 101 := by unfold wideN; omega
  omega
theorem pointsR_len (p : List (List Int)) : tot (pointsR p) ≤ 20402 := by
  unfold pointsR
  split
  · rename_i h
    rw [tot_rows]
    have := ptsP_len h.1
    omega
  · simp [tot]
end Go.Proofs.Ytoekgcafhcamjaa
/- The model's whole points of a polygon. -/
namespace Go.Proofs.Ytoekgcafhcamjaa
open Go.RowKit Go.Lib

set_option maxRecDepth 100000 in
theorem s_minP (x y : Int) (w : World) : Calls Try.prog 126 #[.int .i64 x, .int .i64 y] w fun e w' => e = .returned (.int .i64 (min x y)) ∧ w = w' := by
  by_cases h : x < y
  · have e := Lib.hid (show min x y = x by omega)
    go_enter Try.func126, Try.ntmps126
    go_wp2
    go_ret
    exact ⟨ret_int e.out.symm, rfl⟩
  · have e := Lib.hid (show min x y = y by omega)
    go_enter Try.func126, Try.ntmps126
    go_wp2
    go_ret
    exact ⟨ret_int e.out.symm, rfl⟩
theorem sl_pair {w : World} {B : Nat} {x y : Int} {T : TypeId} (hb : Bk w B #[.int .i64 x, .int .i64 y] T) : Sl w (.slice (some ⟨B, 0, none⟩) 2 2) (intVals (rowOf (x, y))) := by
  refine .inr ⟨by simp [intVals, rowOf], B, 0, 2, by simp [intVals, rowOf], by simp [intVals, rowOf], by simp [intVals, rowOf, maxLen], hb.lt, fun i u hi => ?_⟩
  match i, hi with
  | 0, hi => obtain rfl := Option.some.inj hi; exact hb.cell 0 rfl
  | 1, hi => obtain rfl := Option.some.inj hi; exact hb.cell 1 rfl
  | _ + 2, hi => simp [intVals, rowOf] at hi
theorem own_pair (w : World) (x y : Int) (o : Obj) : OwnV 3 w.heap.size ((w.alloc (.cells #[.int .i64 x, .int .i64 y] 3)).alloc o).heap.size ((w.alloc (.cells #[.int .i64 x, .int .i64 y] 3)).alloc o) (.slice (some ⟨w.heap.size, 0, none⟩) 2 2) (intVals (rowOf (x, y))) := by
  refine .inr ⟨w.heap.size, 2, #[.int .i64 x, .int .i64 y], by simp [intVals, rowOf], Nat.le_refl _, by simp; omega, ?_, by simp [intVals, rowOf], by unfold maxLen; omega, rfl, rfl⟩
  rw [Below.heap_alloc _ _ _ (by simp)]
  exact heap_alloc_new w _
set_option maxRecDepth 100000 in
set_option maxHeartbeats 6400000 in
theorem s_points (ps : List P2) (h1 : 1 ≤ ps.length) (h12 : ps.length ≤ 12) (hbd : ∀ p ∈ ps, BdP 50 p) (hlo : loM (·.1) ps = (ps.getD 0 (0, 0)).1) (v : Value) (w : World) (hv : Rw w v (ps.map rowOf)) :
    Calls Try.prog 102 #[v] w (MadeR w ((ptsP ps).map rowOf)) := by
  have HX := Lib.hid hv
  obtain ⟨va, vc, rfl, hvm, _⟩ := hv.shape
  rw [List.length_map] at HX hvm ⊢
  have HBD := Lib.hid hbd
  have HLO := Lib.hid hlo
  have B0 := Lib.hid (below1 w (.cells #[] 24))
  obtain ⟨b1, o1, x, rfl, hb2, hcell, hsx⟩ := HX.out.pt 0 h1
  rw [Nat.add_zero] at hcell
  obtain ⟨b3, o3, c3, rfl, _, hb3, r0, r1⟩ := row_cells hsx
  have hc0 := (B0.out.cell (p := ⟨b1, o1, none⟩) hb2).trans hcell
  have hr0 := (B0.out.cell (p := ⟨b3, o3, none⟩) hb3).trans r0
  have hr1 := (B0.out.cell (p := ⟨b3, o3 + 1, none⟩) hb3).trans r1
  have hg0 : ps.getD 0 (0, 0) = ps[0] := by rw [List.getD_eq_getElem?_getD, List.getElem?_eq_getElem h1]; rfl
  rw [← hg0] at hr0 hr1
  obtain ⟨q, hq⟩ : ∃ q, ps.getD 0 (0, 0) = q := ⟨_, rfl⟩
  have HQ := Lib.hid hq
  rw [hq] at hr0 hr1 HLO
  have T0 := Lib.hid (show loT (·.2) ps 0 = q.2 ∧ hiT (·.2) ps 0 = q.2 ∧ hiT (·.1) ps 0 = q.1 by unfold loT hiT; rw [hq]; exact ⟨rfl, rfl, rfl⟩)
  have BX := Lib.hid (show (-50 ≤ loM (·.1) ps ∧ loM (·.1) ps ≤ 50) ∧ (-50 ≤ loM (·.2) ps ∧ loM (·.2) ps ≤ 50) ∧ (-50 ≤ hiM (·.1) ps ∧ hiM (·.1) ps ≤ 50) ∧ (-50 ≤ hiM (·.2) ps ∧ hiM (·.2) ps ≤ 50) from by
    have h0 := getD_bd h1 hbd
    exact ⟨loM_bd _ _ h0.1 fun q hq => (hbd q hq).1, loM_bd _ _ h0.2 fun q hq => (hbd q hq).2, hiM_bd _ _ h0.1 fun q hq => (hbd q hq).1, hiM_bd _ _ h0.2 fun q hq => (hbd q hq).2⟩)
  have i0 : (0 : Int) < (ps.length : Int) := by omega
  clear hv hbd hlo hcell hsx hb2 hb3 r0 r1 hg0 hq
  go_enter Try.func102, Try.ntmps102
  go_wp2
  go_loopw [4, 5, 6, 7] (fun lo hi la i wr => ∃ k : Nat, k ≤ ps.length ∧ i = .int .i64 k ∧ lo = .int .i64 (loT (·.2) ps k) ∧ hi = .int .i64 (hiT (·.2) ps k) ∧ la = .int .i64 (hiT (·.1) ps k) ∧ wr = w.alloc (.cells #[] 24)) (fun _ _ _ i _ => ps.length - (RowKit.intOf i).toNat)
  case atStart => exact ⟨0, Nat.zero_le _, rfl, by rw [T0.out.1], by rw [T0.out.2.1], by rw [T0.out.2.2], rfl⟩
  case round =>
    obtain ⟨k, hk, rfl, rfl, rfl, rfl, rfl⟩ := hrel
    by_cases hlt : k < ps.length
    · have i1 : (0 : Int) ≤ (k : Int) := by omega
      have i2 : (k : Int) < (ps.length : Int) := by omega
      obtain ⟨b4, o4, y, e4, hb4, hcell4, hs4⟩ := HX.out.pt k hlt
      simp only [Option.some.injEq, Addr.mk.injEq, and_true] at e4
      obtain ⟨rfl, rfl⟩ := e4
      obtain ⟨b5, o5, c5, rfl, _, hb5, q0, q1⟩ := row_cells hs4
      have hc4 := (B0.out.cell (p := ⟨b1, o1 + k, none⟩) hb4).trans hcell4
      have hq0 := (B0.out.cell (p := ⟨b5, o5, none⟩) hb5).trans q0
      have hq1 := (B0.out.cell (p := ⟨b5, o5 + 1, none⟩) hb5).trans q1
      have S1 := Lib.hid (loT_step (f := (·.2)) hlt)
      have S2 := Lib.hid (hiT_step (f := (·.2)) hlt)
      have S3 := Lib.hid (hiT_step (f := (·.1)) hlt)
      try simp only at S1 S2 S3
      obtain ⟨z, hz⟩ : ∃ z, ps[k] = z := ⟨_, rfl⟩
      rw [hz] at hq0 hq1 S1 S2 S3
      clear hs4 hcell4 hb4 hb5 q0 q1 hz hc0 hr0 hr1
      go_wp2_with fail
      refine (s_minP _ _ _).mono ?_
      rintro e w1 ⟨rfl, rfl⟩
      rw [← S1.out]
      go_wp2_with fail
      refine (s_max _ _ _).mono ?_
      rintro e w1 ⟨rfl, rfl⟩
      rw [← S2.out]
      go_wp2_with fail
      refine (s_max _ _ _).mono ?_
      rintro e w1 ⟨rfl, rfl⟩
      rw [← S3.out]
      go_wp2
      exact ⟨⟨k + 1, by omega, by go_num, by simp⟩, by simp [RowKit.intOf]; omega⟩
    · obtain rfl : k = ps.length := by omega
      rw [loT_all, hiT_all, hiT_all]
      obtain ⟨lo, hlo⟩ : ∃ lo, loM (·.2) ps = lo := ⟨_, rfl⟩
      obtain ⟨hi, hhi⟩ : ∃ hi, hiM (·.2) ps = hi := ⟨_, rfl⟩
      obtain ⟨la, hla⟩ : ∃ la, hiM (·.1) ps = la := ⟨_, rfl⟩
      obtain ⟨le, hle⟩ : ∃ le, q.1 = le := ⟨_, rfl⟩
      obtain ⟨H, hH⟩ : ∃ H, wideN lo hi = H := ⟨_, rfl⟩
      obtain ⟨W, hW⟩ : ∃ W, wideN le la = W := ⟨_, rfl⟩
      have HPT := Lib.hid (show ptsP ps = colsP (sidesP ps) le lo H W by unfold ptsP; rw [HLO.out, hlo, hhi, hla, hle, hH, hW])
      have BY := BX.out
      rw [HLO.out, hlo, hhi, hla, hle] at BY
      rw [hle] at hr0
      rw [hlo, hhi, hla]
      unfold wideN at hH hW
      obtain ⟨⟨u1, u2⟩, ⟨u3, u4⟩, ⟨u5, u6⟩, u7, u8⟩ := BY
      have HH := Lib.hid hH
      have HW := Lib.hid hW
      have W0 := Lib.hid B0.out.size
      have OB := Lib.hid (owr_none0 (T := 24) (e := 3) (owns_none (e := 24) (Nat.le_refl w.heap.size)))
      clear hlo hhi hla hle
      go_wp2_with fail
      go_loopw [8, 3] (fun i o wr => ∃ n : Nat, n ≤ W ∧ i = .int .i64 (le + (n : Int)) ∧ OwR 24 3 w.heap.size wr.heap.size wr o ((colsP (sidesP ps) le lo H n).map rowOf) ∧ Below w.heap.size w wr) (fun i _ _ => (la + 1 - RowKit.intOf i).toNat)
      case atStart => exact ⟨0, Nat.zero_le _, by simp, OB.out, B0.out⟩
      case round =>
        obtain ⟨n, hn, rfl, ho, hb⟩ := hrel
        rename World => w2
        have HB2 := Lib.hid hb
        obtain ⟨oa, oc, rfl, hom, _⟩ := ho.rw.shape
        have NL := Lib.hid (colsP_len (sidesP ps) le lo H (by omega) n)
        obtain ⟨kq, hkq⟩ : ∃ kq, ((colsP (sidesP ps) le lo H n).map rowOf).length = kq := ⟨_, rfl⟩
        rw [hkq] at ho ⊢
        have HO2 := Lib.hid ho
        clear ho hb hom hkq
        by_cases hx : le + (n : Int) ≤ la
        · have hnW : n < W := by omega
          have CS := Lib.hid (colsP_step (sidesP ps) le lo H n)
          obtain ⟨xx, hxx⟩ : ∃ xx, le + (n : Int) = xx := ⟨_, rfl⟩
          have HXX := Lib.hid hxx
          rw [hxx] at CS hx ⊢
          have hxb : -50 ≤ xx ∧ xx ≤ 50 := by omega
          obtain ⟨xb1, xb2⟩ := hxb
          clear hxx
          go_wp2_with fail
          go_loopw [9, 3] (fun i o wr => ∃ m : Nat, m ≤ H ∧ i = .int .i64 (lo + (m : Int)) ∧ OwR 24 3 w.heap.size wr.heap.size wr o ((colsP (sidesP ps) le lo H n ++ colP (sidesP ps) xx lo m).map rowOf) ∧ Below w.heap.size w wr) (fun i _ _ => (hi + 1 - RowKit.intOf i).toNat)
          case atStart => exact ⟨0, Nat.zero_le _, by simp, by simpa [colP] using HO2.out, HB2.out⟩
          case round =>
            obtain ⟨m, hm, rfl, ho, hb⟩ := hrel
            rename World => w3
            have HB3 := Lib.hid hb
            have ML := Lib.hid (colP_len (sidesP ps) xx lo m)
            have ML2 := Lib.hid (show ((colsP (sidesP ps) le lo H n ++ colP (sidesP ps) xx lo m).map rowOf).length ≤ 101 * n + m by have := NL.out; have := ML.out; rw [List.length_map, List.length_append]; omega)
            obtain ⟨R, hR⟩ : ∃ R, (colsP (sidesP ps) le lo H n ++ colP (sidesP ps) xx lo m).map rowOf = R := ⟨_, rfl⟩
            have HRR := Lib.hid hR
            rw [hR] at ho ML2
            obtain ⟨oa, oc, rfl, hom, _⟩ := ho.rw.shape
            obtain ⟨kr, hkr⟩ : ∃ kr, R.length = kr := ⟨_, rfl⟩
            have HKR := Lib.hid hkr
            rw [hkr] at ho ML2 ⊢
            have HO3 := Lib.hid ho
            clear ho hb hom hR hkr
            by_cases hy : lo + (m : Int) ≤ hi
            · have hmH : m < H := by omega
              have PS := Lib.hid (colP_step (sidesP ps) xx lo m)
              obtain ⟨yy, hyy⟩ : ∃ yy, lo + (m : Int) = yy := ⟨_, rfl⟩
              have HYY := Lib.hid hyy
              rw [hyy] at PS hy ⊢
              obtain ⟨r, hr⟩ : ∃ r, placeL (sidesP ps) (xx, yy) = r := ⟨_, rfl⟩
              have HR := Lib.hid hr
              rw [hr] at PS
              have BP := Lib.hid (show BdP 1000 (xx, yy) by unfold BdP; simp only; omega)
              have KR := Lib.hid (sl_pair (Bk.new w3 #[.int .i64 xx, .int .i64 yy] 3))
              have b4 := below1 w3 (.cells #[.int .i64 xx, .int .i64 yy] 3)
              have HB4 := Lib.hid (HB3.out.trans (b4.mono HB3.out.size))
              have j9 : IntKind.i64.wrap (yy + 1) = yy + 1 := by rw [IntWalk.i64_in _ (by omega)]
              clear hyy hr
              go_wp2_with fail
              refine (s_place ps (xx, yy) h12 HBD.out BP.out _ _ _ (HX.out.below HB4.out) KR.out).mono ?_
              rintro e w5 ⟨rfl, hb5⟩
              rw [HR.out]
              have HB5 := Lib.hid (HB4.out.trans (hb5.mono HB4.out.size))
              have HO5 := Lib.hid (HO3.out.below (b4.trans (hb5.mono b4.size)))
              have Z5 := Lib.hid (Nat.le_trans b4.size hb5.size)
              clear hb5 b4
              by_cases hr0' : 0 ≤ r
              · have PE := Lib.hid (show colP (sidesP ps) xx lo (m + 1) = colP (sidesP ps) xx lo m ++ [(xx, yy)] by rw [PS.out, if_pos hr0'])
                go_wp2_with (at_builtin; go_must (refine list_app_row rfl _ _ rfl w.heap.size w5.heap.size _ (.slice (some ⟨w5.heap.size, 0, none⟩) 2 2) R (rowOf (xx, yy)) rfl ((HO5.out.mono (Nat.le_refl _) Z5.out).below (below2 w5 _ _)) (own_pair w5 xx yy _) _ rfl (by have h := heap_alloc_new (w5.alloc (.cells #[.int .i64 xx, .int .i64 yy] 3)) (.cells #[Value.slice (some ⟨w5.heap.size, 0, none⟩) 2 2] 24); simpa using h) (by have := ML2.out; rw [HKR.out]; omega) HB5.out.size (by simp; omega) ?_; intro g8 c8 w8 ho8 hb8))
                have HO8 := Lib.hid ho8
                have HB8 := Lib.hid (HB5.out.trans ((((below2 w5 _ _).mono HB5.out.size)).trans hb8))
                clear ho8 hb8
                go_wp2
                refine ⟨⟨m + 1, by omega, by have := HYY.out; simp; omega, ?_, HB8.out⟩, by simp [RowKit.intOf]; omega⟩
                have h := HO8.out
                rw [PE.out, ← List.append_assoc, List.map_append, HRR.out]
                simpa using h
              · have PE := Lib.hid (show colP (sidesP ps) xx lo (m + 1) = colP (sidesP ps) xx lo m by rw [PS.out, if_neg hr0', List.append_nil])
                have k9 : decide (0 ≤ r) = false := decide_eq_false hr0'
                go_wp2
                exact ⟨⟨m + 1, by omega, by have := HYY.out; simp; omega, by rw [PE.out, HRR.out]; exact HO5.out.mono (Nat.le_refl _) Z5.out, HB5.out⟩, by simp [RowKit.intOf]; omega⟩
            · obtain rfl : m = H := by omega
              have j9 : IntKind.i64.wrap (xx + 1) = xx + 1 := by rw [IntWalk.i64_in _ (by omega)]
              have h := HO3.out
              rw [← HRR.out, ← CS.out] at h
              have HF := Lib.hid h
              clear h
              go_wp2
              exact ⟨⟨n + 1, by omega, by have := HXX.out; simp; omega, HF.out, HB3.out⟩, by simp [RowKit.intOf]; omega⟩
        · obtain rfl : n = W := by omega
          have h := HO2.out
          rw [← HPT.out] at h
          have HF := Lib.hid h
          clear h
          go_wp2
          go_ret
          exact ⟨⟨_, rfl, HF.out⟩, HB2.out⟩
theorem madeR_ck {w : World} {r r' : List (List Int)} {e : Ending} {w' : World} (h : r' = r) (g : MadeR w r e w') : MadeR w r' e w' := by subst h; exact g
theorem pointsR_ck {p : List (List Int)} (h : ¬ (polyR p = true ∧ areaL (sidesR p) ≤ 2000)) : pointsR p = [] := if_neg h
set_option maxRecDepth 100000 in
set_option maxHeartbeats 800000 in
theorem s_ppoints (p : List (List Int)) (v : Value) (w : World) (hv : Rw w v p) :
    Calls Try.prog 53 #[v] w (MadeR w (pointsR p)) := by
  have HV := Lib.hid hv
  obtain ⟨va, vc, rfl, _, _⟩ := hv.shape
  clear hv
  by_cases h : polyR p = true
  case neg =>
    have HP := Lib.hid (bool_f h)
    have HE := Lib.hid (pointsR_ck (p := p) (fun k => h k.1))
    clear h
    go_enter Try.func53, Try.ntmps53
    go_wp2_with fail
    refine (s_ispoly p _ _ HV.out).mono ?_
    rintro e w1 ⟨rfl, hb⟩
    rw [HP.out]
    have HB := Lib.hid hb
    clear hb
    go_wp2
    go_ret
    exact madeR_ck HE.out ⟨⟨_, rfl, owr_none0 (owns_none HB.out.size)⟩, HB.out.trans ((below1 _ _).mono HB.out.size)⟩
  have HP := Lib.hid h
  have HS := Lib.hid (s_area (p.map ptOf) (poly_len h).2 (poly_bd h))
  rw [show areaL (sidesP (p.map ptOf)) = areaL (sidesR p) from rfl] at HS
  have HPR := Lib.hid (poly_rows h)
  by_cases h2 : areaL (sidesR p) ≤ 2000
  case neg =>
    have HE := Lib.hid (pointsR_ck (p := p) (fun k => h2 k.2))
    obtain ⟨A, hA⟩ : ∃ A, areaL (sidesR p) = A := ⟨_, rfl⟩
    rw [hA] at HS h2
    have k1 : (2000 : Int) < A := by omega
    clear h h2 hA
    go_enter Try.func53, Try.ntmps53
    go_wp2_with fail
    refine (s_ispoly p _ _ HV.out).mono ?_
    rintro e w1 ⟨rfl, hb⟩
    rw [HP.out]
    have HB := Lib.hid hb
    clear hb
    go_wp2_with fail
    refine (HS.out _ _ (by rw [HPR.out]; exact HV.out.below HB.out)).mono ?_
    rintro e w2 ⟨rfl, hb2⟩
    have HB2 := Lib.hid (HB.out.trans (hb2.mono HB.out.size))
    clear hb2
    go_wp2
    go_ret
    exact madeR_ck HE.out ⟨⟨_, rfl, owr_none0 (owns_none HB2.out.size)⟩, HB2.out.trans ((below1 _ _).mono HB2.out.size)⟩
  have HE := Lib.hid (show pointsR p = (ptsP (p.map ptOf)).map rowOf from if_pos ⟨h, h2⟩)
  have HLP := Lib.hid (poly_len h)
  have HPB := Lib.hid (poly_bd h)
  have HLO := Lib.hid (lo_poly h)
  obtain ⟨A, hA⟩ : ∃ A, areaL (sidesR p) = A := ⟨_, rfl⟩
  rw [hA] at HS h2
  have k1 : ¬ (2000 : Int) < A := by omega
  clear h h2 hA
  go_enter Try.func53, Try.ntmps53
  go_wp2_with fail
  refine (s_ispoly p _ _ HV.out).mono ?_
  rintro e w1 ⟨rfl, hb⟩
  rw [HP.out]
  have HB := Lib.hid hb
  clear hb
  go_wp2_with fail
  refine (HS.out _ _ (by rw [HPR.out]; exact HV.out.below HB.out)).mono ?_
  rintro e w2 ⟨rfl, hb2⟩
  have HB2 := Lib.hid (HB.out.trans (hb2.mono HB.out.size))
  clear hb2
  go_wp2_with fail
  refine (s_points (p.map ptOf) (by have := HLP.out; omega) HLP.out.2 HPB.out HLO.out _ _ (by rw [HPR.out]; exact HV.out.below HB2.out)).mono ?_
  rintro e w3 ⟨⟨u, rfl, ho⟩, hb3⟩
  have HO := Lib.hid (ho.mono HB2.out.size (Nat.le_refl _))
  have HB3 := Lib.hid (HB2.out.trans (hb3.mono HB2.out.size))
  clear ho hb3
  go_wp2
  go_ret
  exact madeR_ck HE.out ⟨⟨_, rfl, HO.out⟩, HB3.out⟩
end Go.Proofs.Ytoekgcafhcamjaa
/- The program's spanOf, PolygonPoints. -/
namespace Go.Proofs.Ytoekgcafhcamjaa
open Go Go.RowKit Go.Lib

theorem madeR_mk {w : World} {r r' : List (List Int)} {e : Ending} {w' : World} (h : r' = r) (g : MadeR w r e w') : MadeR w r' e w' := by subst h; exact g
theorem pointsR_no {p : List (List Int)} (h : ¬ (polyR p = true ∧ areaL (sidesR p) ≤ 2000)) : pointsR p = [] := if_neg h
set_option maxRecDepth 100000 in
set_option maxHeartbeats 1600000 in
theorem i_span0 (ps : List P2) (h1 : 1 ≤ ps.length) (h12 : ps.length ≤ 12) (v : Value) (w : World) (hv : Rw w v (ps.map rowOf)) :
    Calls Try.prog 103 #[v, .int .i64 0] w (Quiet w (.tuple #[.int .i64 (loM (·.1) ps), .int .i64 (hiM (·.1) ps)])) := by
  have HX := Lib.hid hv
  obtain ⟨va, vc, rfl, hvm, _⟩ := hv.shape
  rw [List.length_map] at HX hvm ⊢
  obtain ⟨b1, o1, x, rfl, hb2, hcell, hsx⟩ := HX.out.pt 0 h1
  rw [Nat.add_zero] at hcell
  obtain ⟨b3, o3, c3, rfl, hc3, hb3, r0, r1⟩ := row_cells hsx
  have hg0 : ps.getD 0 (0, 0) = ps[0] := by rw [List.getD_eq_getElem?_getD, List.getElem?_eq_getElem h1]; rfl
  rw [← hg0] at r0 r1
  obtain ⟨q, hq⟩ : ∃ q, ps.getD 0 (0, 0) = q := ⟨_, rfl⟩
  rw [hq] at r0 r1
  have T0 := Lib.hid (show loT (·.1) ps 0 = q.1 ∧ hiT (·.1) ps 0 = q.1 by unfold loT hiT; rw [hq]; exact ⟨rfl, rfl⟩)
  have i0 : (0 : Int) < (ps.length : Int) := by omega
  clear hv hsx hb2 hb3 hg0 hq
  go_enter Try.func103, Try.ntmps103
  go_wp2_with fail
  go_quiet (fail)
  go_wp2_with fail
  refine wgen ?_
  intro w1 hw1
  have HB1 := Lib.hid (show Below w.heap.size w w1 by rw [hw1]; exact below_drewN' (Below.refl _ _) _)
  clear hw1 hcell r0 r1
  go_loopw [24, 6, 7] (fun i lo hi wr => ∃ k : Nat, k ≤ ps.length ∧ i = .int .i64 k ∧ lo = .int .i64 (loT (·.1) ps k) ∧ hi = .int .i64 (hiT (·.1) ps k) ∧ Below w.heap.size w wr) (fun i _ _ _ => ps.length - (RowKit.intOf i).toNat)
  case atStart => exact ⟨0, Nat.zero_le _, rfl, by rw [T0.out.1], by rw [T0.out.2], HB1.out⟩
  case round =>
    obtain ⟨k, hk, rfl, rfl, rfl, hb⟩ := hrel
    have HB := Lib.hid hb
    clear hb
    by_cases hlt : k < ps.length
    · have i1 : (0 : Int) ≤ (k : Int) := by omega
      have i2 : (k : Int) < (ps.length : Int) := by omega
      obtain ⟨b4, o4, y, e4, hb4, hcell4, hs4⟩ := HX.out.pt k hlt
      simp only [Option.some.injEq, Addr.mk.injEq, and_true] at e4
      obtain ⟨rfl, rfl⟩ := e4
      obtain ⟨b5, o5, c5, rfl, hc5, hb5, q0, q1⟩ := row_cells hs4
      rw [← HB.out.cell (p := ⟨b1, o1 + k, none⟩) hb4] at hcell4
      rw [← HB.out.cell (p := ⟨b5, o5, none⟩) hb5] at q0
      rw [← HB.out.cell (p := ⟨b5, o5 + 1, none⟩) hb5] at q1
      have S1 := Lib.hid (loT_step (f := (·.1)) hlt)
      have S2 := Lib.hid (hiT_step (f := (·.1)) hlt)
      try simp only at S1 S2
      obtain ⟨z, hz⟩ : ∃ z, ps[k] = z := ⟨_, rfl⟩
      rw [hz] at q0 q1 S1 S2
      obtain ⟨lo, hlo⟩ : ∃ lo, loT (·.1) ps k = lo := ⟨_, rfl⟩
      obtain ⟨hi, hhi⟩ : ∃ hi, hiT (·.1) ps k = hi := ⟨_, rfl⟩
      rw [hlo] at S1 ⊢
      rw [hhi] at S2 ⊢
      clear hs4 hb4 hb5 hz hlo hhi
      go_wp2_with fail
      go_quiet (fail)
      go_wp2
      exact ⟨⟨k + 1, by omega, by go_num, by rw [S1.out], by rw [S2.out], below_drewN' HB.out _⟩, by simp [RowKit.intOf]; omega⟩
    · obtain rfl : k = ps.length := by omega
      rw [loT_all, hiT_all]
      go_wp2
      go_ret2
      exact ⟨rfl, HB.out⟩
set_option maxRecDepth 100000 in
set_option maxHeartbeats 1600000 in
theorem i_span1 (ps : List P2) (h1 : 1 ≤ ps.length) (h12 : ps.length ≤ 12) (v : Value) (w : World) (hv : Rw w v (ps.map rowOf)) :
    Calls Try.prog 103 #[v, .int .i64 1] w (Quiet w (.tuple #[.int .i64 (loM (·.2) ps), .int .i64 (hiM (·.2) ps)])) := by
  have HX := Lib.hid hv
  obtain ⟨va, vc, rfl, hvm, _⟩ := hv.shape
  rw [List.length_map] at HX hvm ⊢
  obtain ⟨b1, o1, x, rfl, hb2, hcell, hsx⟩ := HX.out.pt 0 h1
  rw [Nat.add_zero] at hcell
  obtain ⟨b3, o3, c3, rfl, hc3, hb3, r0, r1⟩ := row_cells hsx
  have hg0 : ps.getD 0 (0, 0) = ps[0] := by rw [List.getD_eq_getElem?_getD, List.getElem?_eq_getElem h1]; rfl
  rw [← hg0] at r0 r1
  obtain ⟨q, hq⟩ : ∃ q, ps.getD 0 (0, 0) = q := ⟨_, rfl⟩
  rw [hq] at r0 r1
  have T0 := Lib.hid (show loT (·.2) ps 0 = q.2 ∧ hiT (·.2) ps 0 = q.2 by unfold loT hiT; rw [hq]; exact ⟨rfl, rfl⟩)
  have i0 : (0 : Int) < (ps.length : Int) := by omega
  clear hv hsx hb2 hb3 hg0 hq
  go_enter Try.func103, Try.ntmps103
  go_wp2_with fail
  go_quiet (fail)
  go_wp2_with fail
  refine wgen ?_
  intro w1 hw1
  have HB1 := Lib.hid (show Below w.heap.size w w1 by rw [hw1]; exact below_drewN' (Below.refl _ _) _)
  clear hw1 hcell r0 r1
  go_loopw [24, 6, 7] (fun i lo hi wr => ∃ k : Nat, k ≤ ps.length ∧ i = .int .i64 k ∧ lo = .int .i64 (loT (·.2) ps k) ∧ hi = .int .i64 (hiT (·.2) ps k) ∧ Below w.heap.size w wr) (fun i _ _ _ => ps.length - (RowKit.intOf i).toNat)
  case atStart => exact ⟨0, Nat.zero_le _, rfl, by rw [T0.out.1], by rw [T0.out.2], HB1.out⟩
  case round =>
    obtain ⟨k, hk, rfl, rfl, rfl, hb⟩ := hrel
    have HB := Lib.hid hb
    clear hb
    by_cases hlt : k < ps.length
    · have i1 : (0 : Int) ≤ (k : Int) := by omega
      have i2 : (k : Int) < (ps.length : Int) := by omega
      obtain ⟨b4, o4, y, e4, hb4, hcell4, hs4⟩ := HX.out.pt k hlt
      simp only [Option.some.injEq, Addr.mk.injEq, and_true] at e4
      obtain ⟨rfl, rfl⟩ := e4
      obtain ⟨b5, o5, c5, rfl, hc5, hb5, q0, q1⟩ := row_cells hs4
      rw [← HB.out.cell (p := ⟨b1, o1 + k, none⟩) hb4] at hcell4
      rw [← HB.out.cell (p := ⟨b5, o5, none⟩) hb5] at q0
      rw [← HB.out.cell (p := ⟨b5, o5 + 1, none⟩) hb5] at q1
      have S1 := Lib.hid (loT_step (f := (·.2)) hlt)
      have S2 := Lib.hid (hiT_step (f := (·.2)) hlt)
      try simp only at S1 S2
      obtain ⟨z, hz⟩ : ∃ z, ps[k] = z := ⟨_, rfl⟩
      rw [hz] at q0 q1 S1 S2
      obtain ⟨lo, hlo⟩ : ∃ lo, loT (·.2) ps k = lo := ⟨_, rfl⟩
      obtain ⟨hi, hhi⟩ : ∃ hi, hiT (·.2) ps k = hi := ⟨_, rfl⟩
      rw [hlo] at S1 ⊢
      rw [hhi] at S2 ⊢
      clear hs4 hb4 hb5 hz hlo hhi
      go_wp2_with fail
      go_quiet (fail)
      go_wp2
      exact ⟨⟨k + 1, by omega, by go_num, by rw [S1.out], by rw [S2.out], below_drewN' HB.out _⟩, by simp [RowKit.intOf]; omega⟩
    · obtain rfl : k = ps.length := by omega
      rw [loT_all, hiT_all]
      go_wp2
      go_ret2
      exact ⟨rfl, HB.out⟩
set_option maxRecDepth 100000 in
set_option maxHeartbeats 6400000 in
theorem i_points (p : List (List Int)) (v : Value) (w : World) (hv : Rw w v p) :
    Calls Try.prog 54 #[v] w (MadeR w (pointsR p)) := by
  have HV := Lib.hid hv
  obtain ⟨va, vc, rfl, _, _⟩ := hv.shape
  clear hv
  by_cases h : polyR p = true
  case neg =>
    have HP := Lib.hid (bool_f h)
    have HE := Lib.hid (pointsR_no (p := p) (fun k => h k.1))
    clear h
    go_enter Try.func54, Try.ntmps54
    go_wp2_with fail
    refine (i_ispoly p _ _ HV.out).mono ?_
    rintro e w1 ⟨rfl, hb⟩
    rw [HP.out]
    have HB := Lib.hid hb
    clear hb
    go_wp2
    go_ret
    exact madeR_mk HE.out ⟨⟨_, rfl, OwR.nil⟩, HB.out⟩
  have HP := Lib.hid h
  have HAR := Lib.hid (show areaR p = areaL (sidesR p) from if_pos h)
  by_cases h2 : areaL (sidesR p) ≤ 2000
  case neg =>
    have HE := Lib.hid (pointsR_no (p := p) (fun k => h2 k.2))
    obtain ⟨A, hA⟩ : ∃ A, areaL (sidesR p) = A := ⟨_, rfl⟩
    rw [hA] at HAR h2
    have k1 : (2000 : Int) < A := by omega
    clear h h2 hA
    go_enter Try.func54, Try.ntmps54
    go_wp2_with fail
    refine (i_ispoly p _ _ HV.out).mono ?_
    rintro e w1 ⟨rfl, hb⟩
    rw [HP.out]
    have HB := Lib.hid hb
    clear hb
    go_wp2_with fail
    refine (i_areatwice p _ _ (HV.out.below HB.out)).mono ?_
    rintro e w2 ⟨rfl, hb2⟩
    rw [HAR.out]
    have HB2 := Lib.hid (HB.out.trans (hb2.mono HB.out.size))
    clear hb2
    go_wp2
    go_ret
    exact madeR_mk HE.out ⟨⟨_, rfl, OwR.nil⟩, HB2.out⟩
  have HE := Lib.hid (show pointsR p = (ptsP (p.map ptOf)).map rowOf from if_pos ⟨h, h2⟩)
  have HLP := Lib.hid (poly_len h)
  have HSB := Lib.hid (sides_bd (poly_bd h))
  have HPR := Lib.hid (poly_rows h)
  have BX := Lib.hid (poly_box h)
  have PL := Lib.hid (ptsP_len h)
  obtain ⟨A, hA⟩ : ∃ A, areaL (sidesR p) = A := ⟨_, rfl⟩
  rw [hA] at HAR h2
  have k1 : ¬ (2000 : Int) < A := by omega
  obtain ⟨ps, hps⟩ : ∃ ps, p.map ptOf = ps := ⟨_, rfl⟩
  rw [hps] at HE HLP HSB HPR BX PL
  clear h h2 hA hps
  obtain ⟨lo, hlo⟩ : ∃ lo, loM (·.2) ps = lo := ⟨_, rfl⟩
  obtain ⟨hi, hhi⟩ : ∃ hi, hiM (·.2) ps = hi := ⟨_, rfl⟩
  obtain ⟨la, hla⟩ : ∃ la, hiM (·.1) ps = la := ⟨_, rfl⟩
  obtain ⟨le, hle⟩ : ∃ le, loM (·.1) ps = le := ⟨_, rfl⟩
  obtain ⟨H, hH⟩ : ∃ H, wideN lo hi = H := ⟨_, rfl⟩
  obtain ⟨W, hW⟩ : ∃ W, wideN le la = W := ⟨_, rfl⟩
  have HPT := Lib.hid (show ptsP ps = colsP (sidesP ps) le lo H W by unfold ptsP; rw [hlo, hhi, hla, hle, hH, hW])
  have BY := BX.out
  rw [hlo, hhi, hla, hle] at BY
  have HS0 := Lib.hid (fun v w hv => i_span0 ps (by have := HLP.out; omega) (by have := HLP.out; omega) v w hv)
  have HS1 := Lib.hid (fun v w hv => i_span1 ps (by have := HLP.out; omega) (by have := HLP.out; omega) v w hv)
  rw [hle, hla] at HS0
  rw [hlo, hhi] at HS1
  unfold wideN at hH hW
  obtain ⟨⟨u1, u2⟩, ⟨u3, u4⟩, ⟨u5, u6⟩, u7, u8⟩ := BY
  clear hlo hhi hla hle
  go_enter Try.func54, Try.ntmps54
  go_wp2_with fail
  refine (i_ispoly p _ _ HV.out).mono ?_
  rintro e w1 ⟨rfl, hb⟩
  rw [HP.out]
  have HB1 := Lib.hid hb
  clear hb
  go_wp2_with fail
  refine (i_areatwice p _ _ (HV.out.below HB1.out)).mono ?_
  rintro e w2 ⟨rfl, hb2⟩
  rw [HAR.out]
  have HB2 := Lib.hid (HB1.out.trans (hb2.mono HB1.out.size))
  clear hb2
  go_wp2_with fail
  refine (i_sides ps HLP.out.2 _ _ (by rw [HPR.out]; exact HV.out.below HB2.out)).mono ?_
  rintro e w3 ⟨⟨g, c, rfl, hs⟩, hb3⟩
  have HS3 := Lib.hid hs
  have HB3 := Lib.hid (HB2.out.trans (hb3.mono HB2.out.size))
  clear hs hb3
  go_wp2_with fail
  refine (HS0.out _ _ (by rw [HPR.out]; exact HV.out.below HB3.out)).mono ?_
  rintro e w4 ⟨rfl, hb4⟩
  have HB4 := Lib.hid (HB3.out.trans (hb4.mono HB3.out.size))
  have HS4 := Lib.hid (HS3.out.below hb4)
  have Z4 := Lib.hid hb4.size
  clear hb4
  go_wp2_with fail
  refine (HS1.out _ _ (by rw [HPR.out]; exact HV.out.below HB4.out)).mono ?_
  rintro e w5 ⟨rfl, hb5⟩
  have HB5 := Lib.hid (HB4.out.trans (hb5.mono HB4.out.size))
  have HS5 := Lib.hid (HS4.out.below hb5)
  have Z5 := Lib.hid (show w3.heap.size ≤ w5.heap.size from Nat.le_trans Z4.out hb5.size)
  clear hb5
  go_wp2_with fail
  go_loopw [9, 3] (fun i o wr => ∃ n : Nat, n ≤ W ∧ i = .int .i64 (le + (n : Int)) ∧ OwP w5.heap.size wr.heap.size wr o (colsP (sidesP ps) le lo H n) ∧ Below w5.heap.size w5 wr) (fun i _ _ => (la + 1 - RowKit.intOf i).toNat)
  case atStart => exact ⟨0, Nat.zero_le _, by simp, OwE.nil, Below.refl _ _⟩
  case round =>
    obtain ⟨n, hn, rfl, ho, hb⟩ := hrel
    rename World => w6
    have HB6 := Lib.hid hb
    obtain ⟨oa, oc, rfl, hom, _⟩ := ho.shape
    have NL := Lib.hid (colsP_len (sidesP ps) le lo H (by omega) n)
    obtain ⟨kq, hkq⟩ : ∃ kq, (colsP (sidesP ps) le lo H n).length = kq := ⟨_, rfl⟩
    have HKQ := Lib.hid hkq
    rw [hkq] at ho ⊢
    have HO2 := Lib.hid ho
    clear ho hb hom hkq
    by_cases hx : le + (n : Int) ≤ la
    · have hnW : n < W := by omega
      have CS := Lib.hid (colsP_step (sidesP ps) le lo H n)
      obtain ⟨xx, hxx⟩ : ∃ xx, le + (n : Int) = xx := ⟨_, rfl⟩
      have HXX := Lib.hid hxx
      rw [hxx] at CS hx ⊢
      have hxb : -50 ≤ xx ∧ xx ≤ 50 := by omega
      obtain ⟨xb1, xb2⟩ := hxb
      clear hxx
      go_wp2_with fail
      go_loopw [10, 3] (fun i o wr => ∃ m : Nat, m ≤ H ∧ i = .int .i64 (lo + (m : Int)) ∧ OwP w5.heap.size wr.heap.size wr o (colsP (sidesP ps) le lo H n ++ colP (sidesP ps) xx lo m) ∧ Below w5.heap.size w5 wr) (fun i _ _ => (hi + 1 - RowKit.intOf i).toNat)
      case atStart => exact ⟨0, Nat.zero_le _, by simp, by simpa [colP] using HO2.out, HB6.out⟩
      case round =>
        obtain ⟨m, hm, rfl, ho, hb⟩ := hrel
        rename World => w7
        have HB7 := Lib.hid hb
        have ML := Lib.hid (colP_len (sidesP ps) xx lo m)
        have ML2 := Lib.hid (show (colsP (sidesP ps) le lo H n ++ colP (sidesP ps) xx lo m).length ≤ 101 * n + m by have := NL.out; have := ML.out; rw [List.length_append]; omega)
        obtain ⟨R, hR⟩ : ∃ R, colsP (sidesP ps) le lo H n ++ colP (sidesP ps) xx lo m = R := ⟨_, rfl⟩
        have HRR := Lib.hid hR
        rw [hR] at ho ML2
        obtain ⟨oa, oc, rfl, hom, _⟩ := ho.shape
        obtain ⟨kr, hkr⟩ : ∃ kr, R.length = kr := ⟨_, rfl⟩
        have HKR := Lib.hid hkr
        rw [hkr] at ho ML2 ⊢
        have HO3 := Lib.hid ho
        clear ho hb hom hR hkr
        by_cases hy : lo + (m : Int) ≤ hi
        · have hmH : m < H := by omega
          have PS := Lib.hid (colP_step (sidesP ps) xx lo m)
          obtain ⟨yy, hyy⟩ : ∃ yy, lo + (m : Int) = yy := ⟨_, rfl⟩
          have HYY := Lib.hid hyy
          rw [hyy] at PS hy ⊢
          obtain ⟨r, hr⟩ : ∃ r, placeL (sidesP ps) (xx, yy) = r := ⟨_, rfl⟩
          have HR := Lib.hid hr
          rw [hr] at PS
          have BP := Lib.hid (show BdP 1000 (xx, yy) by unfold BdP; simp only; omega)
          have KX := Lib.hid (Bk.new w7 #[.int .i64 xx, .int .i64 yy, .int .i64 0] 65)
          have b8 := below1 w7 (.cells #[.int .i64 xx, .int .i64 yy, .int .i64 0] 65)
          have HB8 := Lib.hid (HB7.out.trans (b8.mono HB7.out.size))
          obtain ⟨c0, c1, c2⟩ := bk3c KX.out
          have j9 : IntKind.i64.wrap (yy + 1) = yy + 1 := by rw [IntWalk.i64_in _ (by omega)]
          clear hyy hr
          go_wp2_with fail
          refine (i_beside (sidesP ps) (xx, yy) HSB.out BP.out (by rw [sidesP_len]; exact HLP.out.2) _ _ _ _ (HS5.out.below HB8.out)).mono ?_
          rintro e w9 ⟨rfl, hb9⟩
          rw [HR.out]
          have HB9 := Lib.hid (HB8.out.trans (hb9.mono HB8.out.size))
          have HO9 := Lib.hid (HO3.out.below (b8.trans (hb9.mono b8.size)))
          have KX9 := Lib.hid (KX.out.below hb9)
          have Z9 := Lib.hid (Nat.le_trans b8.size hb9.size)
          clear hb9 b8 c0 c1 c2
          obtain ⟨c0, c1, c2⟩ := bk3c KX9.out
          by_cases hr0 : 0 ≤ r
          · have PE := Lib.hid (show colP (sidesP ps) xx lo (m + 1) = colP (sidesP ps) xx lo m ++ [(xx, yy)] by rw [PS.out, if_pos hr0])
            go_wp2_with (at_builtin; go_must (refine list_app_np rfl _ _ rfl w5.heap.size w7.heap.size _ R (xx, yy) rfl (HO9.out.below (below1 w9 _)) _ rfl (heap_alloc_new _ _) (by have := ML2.out; rw [HKR.out]; omega) (by have := HB9.out.size; simp; omega) ?_; intro g10 c10 w10 ho10 hb10))
            have HO10 := Lib.hid ho10
            have B10 := Lib.hid (show Below w5.heap.size w5 w10 from (HB9.out.trans ((below1 w9 _).mono HB9.out.size)).trans ((Below.refl w5.heap.size _).grown hb10 (by have := HB9.out.size; simp; omega) (fun q hq => (HO9.out.1.lt q hq).1)))
            clear ho10 hb10
            go_wp2
            refine ⟨⟨m + 1, by omega, by have := HYY.out; simp; omega, ?_, B10.out⟩, by simp [RowKit.intOf]; omega⟩
            have h := HO10.out
            rw [PE.out, ← List.append_assoc, HRR.out]
            simpa using h
          · have PE := Lib.hid (show colP (sidesP ps) xx lo (m + 1) = colP (sidesP ps) xx lo m by rw [PS.out, if_neg hr0, List.append_nil])
            have k9 : decide (0 ≤ r) = false := decide_eq_false hr0
            go_wp2
            exact ⟨⟨m + 1, by omega, by have := HYY.out; simp; omega, by rw [PE.out, HRR.out]; exact HO9.out.mono (Nat.le_refl _) Z9.out, HB9.out⟩, by simp [RowKit.intOf]; omega⟩
        · obtain rfl : m = H := by omega
          have j9 : IntKind.i64.wrap (xx + 1) = xx + 1 := by rw [IntWalk.i64_in _ (by omega)]
          have h := HO3.out
          rw [← HRR.out, ← CS.out] at h
          have HF := Lib.hid h
          clear h
          go_wp2
          exact ⟨⟨n + 1, by omega, by have := HXX.out; simp; omega, HF.out, HB7.out⟩, by simp [RowKit.intOf]; omega⟩
    · obtain rfl : n = W := by omega
      have h := HO2.out
      rw [← HPT.out] at h
      have HF := Lib.hid h
      have HL9 := Lib.hid (show kq = (ptsP ps).length by rw [HPT.out, HKQ.out])
      rw [HL9.out]
      rw [HL9.out] at HF
      clear h
      go_wp2_with fail
      refine (i_plane2 (ptsP ps) (by have := PL.out; omega) w5.heap.size w6.heap.size _ w6 HF.out).mono ?_
      rintro e w7 ⟨⟨u, rfl, ho⟩, hb7⟩
      have HB7 := Lib.hid (HB5.out.trans ((HB6.out.mono HB5.out.size).trans (hb7.mono (Nat.le_trans HB5.out.size HB6.out.size))))
      have HO7 := Lib.hid (ho.mono (Nat.le_trans HB5.out.size HB6.out.size) (Nat.le_refl _))
      clear ho hb7
      go_wp2
      go_ret
      exact madeR_mk HE.out ⟨⟨_, rfl, HO7.out⟩, HB7.out⟩
end Go.Proofs.Ytoekgcafhcamjaa
