/- The program's cornersOf. -/
import Derived.Test.YtoekgcafhcamjaaGreatDoorPgL
import Derived.Test.YtoekgcafhcamjaaGreatDoorMao
import Derived.Test.YtoekgcafhcamjaaGreatDoorShelfSort
import Derived.Test.YtoekgcafhcamjaaGreatDoorMap
import Derived.Test.YtoekgcafhcamjaaGreatDoorMae
namespace Go.Proofs.YtoekgcafhcamjaaGreatDoor
open Go Go.RowKit Go.Lib Go.Sort

theorem OwE.news {α : Type} {enc : α → List Value} {k : Nat} {T : TypeId} {lo hi : Nat} {w : World} {l : List α} (hk : ∀ x, (enc x).length = k) {ad : Option Addr} {m c : Nat} (h : OwE enc k T lo hi w (.slice ad m c) l) :
    (l.flatMap enc).length = m * k ∧ (0 < m → ∃ p, ad = some p ∧ ∀ j u, (l.flatMap enc)[j]? = some u → w.cell? (p.add j) = some u) := by
  have hl := flatE_len enc k hk l
  obtain ⟨a', c', e, _⟩ := owns_slice h.1
  simp only [Value.slice.injEq] at e
  obtain ⟨rfl, rfl, rfl⟩ := e
  refine ⟨hl, fun h0 => ?_⟩
  obtain ⟨g, cap, e1⟩ := Go.Joins.ownsRow_form h.1 h0
  simp only [Value.slice.injEq] at e1
  obtain ⟨rfl, _, rfl⟩ := e1
  refine ⟨⟨g, 0, none⟩, rfl, fun j u hu => ?_⟩
  have hj := lt_of_get hu
  rw [hl] at hj
  have hadd : (⟨g, 0, none⟩ : Addr).add j = ⟨g, j, none⟩ := by
    unfold Addr.add
    split
    · simp_all
    · simp
  rw [hadd, h.1.cellAt j hj, hu]
/-- What the sorting leaves. -/
def SortedO (w : World) (lo g n c : Nat) (ps : List P2) (e : Ending) (w' : World) : Prop :=
  e = .returned (.tuple #[]) ∧ ∃ D : List P2, (∀ p, p ∈ D ↔ p ∈ ps) ∧ D.length = n ∧ D.Pairwise (fun a b => ¬ ltP b a) ∧ OwP lo w'.heap.size w' (.slice (some ⟨g, 0, none⟩) n c) D ∧ w.grownBy w' (some g)
theorem i_sortn (ps : List P2) (lo hi g n c : Nat) (w : World) (hn : ps.length = n) (h200 : n ≤ 200) (hv : OwP lo hi w (.slice (some ⟨g, 0, none⟩) n c) ps) :
    Calls Tryz.prog 160 #[.slice (some ⟨g, 0, none⟩) n c, .func (.func 161) #[] #[]] w (SortedO w lo g n c ps) := by
  obtain ⟨ho, _⟩ := hv
  rw [hn] at ho
  have eg : ∀ args w, (callFunc 161 args).run Tryz.prog w = .ok (.enter 161 args) w := enters_of Tryz.func161 (by kernel_rfl) rfl
  have hs : ps.toArray.size = n := by simpa using hn
  have hH := holds_owns (d := ps.toArray) encP_len (by simpa using ho) hs
  have hcmp : CmpLays Tryz.prog 161 #[] encP 3 cfP g 0 ps.toArray.size w := fun _ _ _ _ x y => i_cmpn x y _
  have h := AnyQ.slices_SortFunc Tryz.sortN 3 Tryz.isAgg60 Tryz.sizeOf60 encP encP_len encP_one cfP swoP 161 #[] g 0 c ps.toArray w eg hcmp hH (ho.lt g rfl).2 (by rw [hs]; omega)
  rw [hs] at h
  refine h.mono ?_
  rintro e w' ⟨he, d', m, os, hp, hso, rfl⟩
  have hp' := perm_mem (by rw [hs]; exact hp)
  have hds : d'.size = n := by rw [hp'.1, hs]
  obtain ⟨k1, k2⟩ := owns_sorted (m := m) (d := ps.toArray) (d' := d') os encP_len (by simpa using ho) hds
  refine ⟨he, d'.toList, fun p => by rw [hp'.2], by simpa using hds, (sorted_pair hso hds).imp fun {a b} h => ?_, ⟨?_, fun b hb => (k1.lt b hb).2⟩, k2⟩
  · rw [ltP_of] at h
    exact of_decide_eq_false h
  · rw [show d'.toList.length = n by simpa using hds]
    exact k1
theorem i_revn (ps : List P2) (lo hi g n c : Nat) (w : World) (hn : ps.length = n) (h200 : n ≤ 200) (hv : OwP lo hi w (.slice (some ⟨g, 0, none⟩) n c) ps) :
    Calls Tryz.prog 163 #[.slice (some ⟨g, 0, none⟩) n c] w fun e w' => e = .returned (.tuple #[]) ∧ OwP lo w'.heap.size w' (.slice (some ⟨g, 0, none⟩) n c) ps.reverse ∧ w.grownBy w' (some g) := by
  obtain ⟨ho, _⟩ := hv
  rw [hn] at ho
  have hs : ps.toArray.size = n := by simpa using hn
  have hH := holds_owns (d := ps.toArray) encP_len (by simpa using ho) hs
  have h := AnyQ.slices_Reverse Tryz.revN 3 Tryz.isAgg60 Tryz.sizeOf60 encP encP_len encP_one g 0 c ps.toArray w hH (by rw [hs]; omega)
  rw [hs] at h
  refine h.mono ?_
  rintro e w' ⟨he, m, rfl⟩
  obtain ⟨k1, k2⟩ := owns_put (w := Sort.ahead w m) (d := ps.toArray) (d' := ps.toArray.reverse) encP_len (show (Sort.ahead w m).ownsRow lo 60 3 _ n (ps.toArray.toList.flatMap encP) from (show w.ownsRow lo 60 3 _ n (ps.toArray.toList.flatMap encP) by simpa using ho)) (by simpa using hn)
  refine ⟨he, ⟨?_, fun b hb => (k1.lt b hb).2⟩, k2.os, k2.tape, k2.output, k2.size, k2.block⟩
  rw [List.length_reverse, hn]
  simpa using k1
/-- What cornersOf leaves. -/
def CornO (w : World) (g : Nat) (ps : List P2) (e : Ending) (w' : World) : Prop :=
  (∃ (D : List P2) (u : Value), e = .returned u ∧ (∀ p, p ∈ D ↔ p ∈ ps) ∧ D.length = ps.length ∧ D.Pairwise (fun a b => ¬ ltP b a) ∧ OwP w.heap.size w'.heap.size w' u (cornL D)) ∧ w.grownBy w' (some g)
set_option maxRecDepth 100000 in
set_option maxHeartbeats 1600000 in
theorem i_corners (ps : List P2) (lo hi g n c : Nat) (w : World) (hn : ps.length = n) (h200 : n ≤ 200) (hbd : ∀ p ∈ ps, BdP 50 p) (hhi : hi ≤ w.heap.size) (hv : OwP lo hi w (.slice (some ⟨g, 0, none⟩) n c) ps) :
    Calls Tryz.prog 139 #[.slice (some ⟨g, 0, none⟩) n c] w (CornO w g ps) := by
  have HV := Lib.hid hv
  have HN := Lib.hid hn
  have HBD := Lib.hid hbd
  have hg : g < w.heap.size := Nat.lt_of_lt_of_le (hv.2 g rfl) hhi
  have HG := Lib.hid hg
  obtain ⟨i0, hi', hz0, hz1, hz2⟩ := info_parts info_nums
  have HI := Lib.hid (And.intro hi' (And.intro hz0 (And.intro hz1 hz2)))
  clear hv hn hbd hg hi' hz0 hz1 hz2
  go_enter Tryz.func139, Tryz.ntmps139
  go_wp2_with fail
  refine (i_sortn ps lo hi g n c w HN.out h200 HV.out).mono ?_
  rintro e w1 ⟨rfl, D, d1, d2, d3, d4, d5⟩
  have HD := Lib.hid (And.intro d1 (And.intro d2 d3))
  have O1 := Lib.hid d4
  have G1 := Lib.hid d5
  have BD := Lib.hid (show ∀ p ∈ D, BdP 50 p from fun p hp => HBD.out p ((d1 p).1 hp))
  clear d1 d2 d3 d4 d5
  go_wp2_with fail
  refine (i_bend D (by have := HD.out.2.1; omega) BD.out lo w1.heap.size _ w1 O1.out).mono ?_
  rintro e w2 ⟨⟨u2, rfl, h2⟩, b2⟩
  have O2 := Lib.hid h2
  have B2 := Lib.hid b2
  obtain ⟨a2, c2, rfl, _, _⟩ := h2.shape
  clear h2 b2
  go_wp2_with fail
  refine (i_revn D lo w2.heap.size g n c w2 HD.out.2.1 h200 ((O1.out.below B2.out).mono (Nat.le_refl _) B2.out.size)).mono ?_
  rintro e w3 ⟨rfl, o3, g3⟩
  have O3 := Lib.hid o3
  have G3 := Lib.hid g3
  have hw12 := Nat.le_trans G1.out.size B2.out.size
  have P2 := Lib.hid (O2.out.grown g3 (fun b hb e => by
    obtain rfl := Option.some.inj e
    have := (O2.out.1.lt _ hb).1
    have := HG.out
    have := G1.out.size
    omega))
  clear o3 g3
  go_wp2_with fail
  refine (i_bend D.reverse (by have := HD.out.2.1; rw [List.length_reverse]; omega) (fun p hp => BD.out p (List.mem_reverse.1 hp)) lo w3.heap.size _ w3 O3.out).mono ?_
  rintro e w4 ⟨⟨u4, rfl, h4⟩, b4⟩
  have O4 := Lib.hid h4
  have B4 := Lib.hid b4
  obtain ⟨a4, c4, rfl, _, _⟩ := h4.shape
  have P4 := Lib.hid ((P2.out.mono (Nat.le_refl _) (Nat.le_refl _)).kept (Kept.of_below (lo := w2.heap.size) (hi := w2.heap.size) b4) (.inl (Nat.le_refl _)))
  have hl1 := bendL_len D
  have hl2 := bendL_len D.reverse
  rw [List.length_reverse, HD.out.2.1] at hl2
  rw [HD.out.2.1] at hl1
  have HL := Lib.hid (And.intro hl1 hl2)
  clear h4 b4 hl1 hl2
  go_wp2_with (at_builtin; go_must (refine list_appG rfl _ _ 144 rfl w1.heap.size 60 i0 _ 3 24 Tryz.underlying144 HI.out.1 HI.out.2.1 HI.out.2.2.1 HI.out.2.2.2 rfl (by omega) _ (bendL D).length ((bendL D).flatMap encP) rfl P4.out.1 _ _ _ ((bendL D.reverse).flatMap encP) rfl (OwE.news encP_len O4.out).1 (OwE.news encP_len O4.out).2 (flatP_one _) (by have := HL.out; omega) (by omega) (by have := B2.out.size; have := G3.out.size; have := B4.out.size; omega) ?_; intro a5 c5 w5 ho5 hg5 hat5))
  have O5 := Lib.hid ho5
  have G5 := Lib.hid hg5
  clear ho5 hg5 hat5
  go_wp2
  go_ret
  have hz : w.heap.size ≤ w1.heap.size := G1.out.size
  refine ⟨⟨D, _, rfl, HD.out.1, by rw [HD.out.2.1, HN.out], HD.out.2.2, ?_⟩, ?_⟩
  · have e1 : (bendL D).flatMap encP ++ (bendL D.reverse).flatMap encP = (cornL D).flatMap encP := by unfold cornL; rw [List.flatMap_append]
    have hlen : (cornL D).length = (bendL D).length + (bendL D.reverse).length := by unfold cornL; simp
    refine OwE.mono (lo := w1.heap.size) (hi := w5.heap.size) ⟨?_, fun b hb => (O5.out.lt b hb).2⟩ hz (Nat.le_refl _)
    rw [hlen, ← e1]
    exact O5.out
  · have g2 : w.grownBy w2 (some g) := grownTrans G1.out (r2 := none) ⟨B2.out.os, B2.out.tape, B2.out.output, B2.out.size, fun q hq _ => B2.out.block q hq⟩ (fun b hb => by cases hb)
    have g3 := grownTrans g2 G3.out (fun b hb => .inl hb)
    have g4 : w.grownBy w4 (some g) := grownTrans g3 (r2 := none) ⟨B4.out.os, B4.out.tape, B4.out.output, B4.out.size, fun q hq _ => B4.out.block q hq⟩ (fun b hb => by cases hb)
    exact grownTrans g4 G5.out (fun b hb => .inr (by have := (P4.out.1.lt b hb).1; omega))
end Go.Proofs.YtoekgcafhcamjaaGreatDoor
/- Points as new rows (the code since e5f8e5e: vectorsOf). -/
namespace Go.Proofs.YtoekgcafhcamjaaGreatDoor
open Go Go.RowKit Go.Lib

theorem owr_made {T e : TypeId} {base : Nat} {w : World} {v : Value} {n : Nat} (h : w.ownsRow base T 1 v n (List.replicate n (.slice none 0 0))) : OwR T e base w.heap.size w v (List.replicate n []) := by
  have key : ∀ (i : Nat) (u : Value), (List.replicate n (Value.slice none 0 0))[i]? = some u → u = .slice none 0 0 := fun i u hu => by
    rw [List.getElem?_replicate] at hu
    split at hu
    · exact (Option.some.inj hu).symm
    · cases hu
  refine ⟨List.replicate n (.slice none 0 0), by simp, OwnV.of_owns h, ?_, ?_, ?_⟩
  · intro i u zs hu hz
    have hz2 : zs = [] := by
      rw [List.getElem?_replicate] at hz
      split at hz
      · exact (Option.some.inj hz).symm
      · cases hz
    rw [key i u hu, hz2]
    exact OwnV.nil
  · intro i j u u' b _ hu _ hub
    rw [key i u hu] at hub
    cases hub
  · intro i u b hu hub
    rw [key i u hu] at hub
    cases hub
theorem made_nils (n : Nat) : (madeCells #[Value.slice none 0 0] (n * 1)).toList = List.replicate n (.slice none 0 0) := by
  refine List.ext_getElem? fun i => ?_
  unfold madeCells
  rw [Array.getElem?_toList, Array.getElem?_map, List.getElem?_replicate]
  by_cases hi : i < n
  · simp [hi]
    rw [show i % 1 = 0 by omega]
    rfl
  · simp [hi]
/-- The first k are there, the others nil. -/
def fillR (ps : List P2) (k : Nat) : List (List Int) := (ps.take k).map rowOf ++ List.replicate (ps.length - k) []
theorem fillR_zero (ps : List P2) : fillR ps 0 = List.replicate ps.length [] := by simp [fillR]
theorem fillR_all (ps : List P2) : fillR ps ps.length = ps.map rowOf := by simp [fillR]
theorem fillR_len (ps : List P2) (k : Nat) (h : k ≤ ps.length) : (fillR ps k).length = ps.length := by simp [fillR]; omega
theorem fillR_step (ps : List P2) (k : Nat) (h : k < ps.length) : (fillR ps k).set k (rowOf ps[k]) = fillR ps (k + 1) := by
  unfold fillR
  rw [List.set_append_right _ _ (by simp; omega), List.length_map, List.length_take, Nat.min_eq_left (by omega), Nat.sub_self]
  rw [show ps.length - k = (ps.length - (k + 1)) + 1 by omega, List.replicate_succ, List.set_cons_zero, List.take_succ_eq_append_getElem h, List.map_append]
  simp
theorem sl_two {w : World} {B : Nat} {x y z : Int} {T : TypeId} (hb : Bk w B #[.int .i64 x, .int .i64 y, .int .i64 z] T) : Sl w (.slice (some ⟨B, 0, none⟩) 2 3) (intVals (rowOf (x, y))) := by
  obtain ⟨h0, h1, _⟩ := bk3c hb
  refine .inr ⟨by simp [intVals, rowOf], B, 0, 3, by simp [intVals, rowOf], by simp [intVals, rowOf], by simp [intVals, rowOf, maxLen], hb.lt, fun i u hi => ?_⟩
  match i, hi with
  | 0, hi => obtain rfl := Option.some.inj hi; exact h0
  | 1, hi => obtain rfl := Option.some.inj hi; exact h1
  | _ + 2, hi => simp [intVals, rowOf] at hi
theorem owp_rd3 {lo hi : Nat} {w : World} {v : Value} {ps : List P2} (h : OwP lo hi w v ps) : Rd3 w v (ps.map fun p => (p.1, p.2, 0)) := by
  obtain ⟨a, c, rfl, h1, h2⟩ := h.shape
  refine ⟨a, c, by rw [List.length_map], by rw [List.length_map]; exact h1, h2, fun j hj => ?_⟩
  rw [List.length_map] at hj
  obtain ⟨b, rfl, _, _, _, hb, _, ⟨c0, c1, c2⟩, _⟩ := h.at3 j hj rfl
  refine ⟨b, 0, rfl, hb, ?_, ?_, ?_⟩
  · rw [Nat.zero_add, List.getElem_map]; exact c0
  · rw [Nat.zero_add, List.getElem_map]; exact c1
  · rw [Nat.zero_add, List.getElem_map]; exact c2
theorem i_plane2 (ps : List P2) (h200 : ps.length ≤ 1048576) (lo hi : Nat) (v : Value) (w : World) (hv : OwP lo hi w v ps) :
    Calls Tryz.prog 140 #[v, .int .i64 2] w (MadeR w (ps.map rowOf)) := by
  have h := i_vecs2 (ps.map fun p => (p.1, p.2, 0)) (by rw [List.length_map]; exact h200) v w (owp_rd3 hv)
  rw [show cutT 2 (ps.map fun p => ((p.1, p.2, 0) : T3)) = ps.map rowOf by unfold cutT; rw [List.map_map]; rfl] at h
  exact h
end Go.Proofs.YtoekgcafhcamjaaGreatDoor
/- The program's HullOf. -/
namespace Go.Proofs.YtoekgcafhcamjaaGreatDoor
open Go Go.RowKit Go.Lib

def fillP (l : List (List Int)) (k : Nat) : List P2 := (l.take k).map ptOf ++ List.replicate (l.length - k) (0, 0)
theorem fillP_zero (l : List (List Int)) : fillP l 0 = List.replicate l.length (0, 0) := by simp [fillP]
theorem fillP_all (l : List (List Int)) : fillP l l.length = l.map ptOf := by simp [fillP]
theorem fillP_len (l : List (List Int)) (k : Nat) (h : k ≤ l.length) : (fillP l k).length = l.length := by simp [fillP]; omega
theorem fillP_step (l : List (List Int)) (k : Nat) (h : k < l.length) : (fillP l k).set k (ptOf l[k]) = fillP l (k + 1) := by
  unfold fillP
  rw [List.set_append_right _ _ (by simp; omega), List.length_map, List.length_take, Nat.min_eq_left (by omega), Nat.sub_self]
  rw [show l.length - k = (l.length - (k + 1)) + 1 by omega, List.replicate_succ, List.set_cons_zero, List.take_succ_eq_append_getElem h, List.map_append]
  simp
theorem splice_two {x : List Int} (h : x.length = 2) : splice [Value.int .i64 0, .int .i64 0, .int .i64 0] 0 (intVals x) = [.int .i64 (ptOf x).1, .int .i64 (ptOf x).2, .int .i64 0] := by
  match x, h with
  | [a, b], _ => rfl
theorem flat_pt {l : List (List Int)} (h : flatR l = true) : ∀ p ∈ l.map ptOf, BdP 50 p := by
  intro p hp
  obtain ⟨v, hv, rfl⟩ := List.mem_map.1 hp
  obtain ⟨h1, h2⟩ := flatR_t h v hv
  match v, h1 with
  | [a, b], _ =>
    have h3 := small_get h2 0 (by simp)
    have h4 := small_get h2 1 (by simp)
    exact ⟨h3, h4⟩
theorem hullR_none {l : List (List Int)} (h : hullP l = ([], false)) : hullR l = ([], false) := by unfold hullR; rw [h]; rfl
theorem gotr_mk {w : World} {r r' : List (List Int) × Bool} {e : Ending} {w' : World} (h : r' = r) (g : GotR w r e w') : GotR w r' e w' := by subst h; exact g
set_option maxRecDepth 100000 in
set_option maxHeartbeats 3200000 in
theorem i_hullof (l : List (List Int)) (v : Value) (w : World) (hv : Rw w v l) :
    Calls Tryz.prog 104 #[v] w (GotR w (hullR l)) := by
  have HV := Lib.hid hv
  obtain ⟨a, c, rfl, hm, hopen⟩ := hv.shape
  unfold maxLen at hm
  have HO := Lib.hid hopen
  clear hv hopen
  by_cases c1 : 200 < l.length
  case pos =>
    have HE := Lib.hid (hullR_none (l := l) (by unfold hullP; rw [if_pos (.inl c1)]))
    have i1 : (200 : Int) < (l.length : Int) := by omega
    go_enter Tryz.func104, Tryz.ntmps104
    go_wp2
    go_ret2
    exact gotr_mk HE.out ⟨⟨_, rfl, OwR.nil⟩, Below.refl _ _⟩
  by_cases c2 : flatR l = true
  case neg =>
    have HE := Lib.hid (hullR_none (l := l) (by unfold hullP; rw [if_pos (.inr c2)]))
    have C2 := Lib.hid (bool_f c2)
    have i1 : ¬ (200 : Int) < (l.length : Int) := by omega
    clear c2
    go_enter Tryz.func104, Tryz.ntmps104
    go_wp2_with fail
    refine (i_containscn l _ _ HV.out).mono ?_
    rintro e w1 ⟨rfl, hb⟩
    rw [C2.out]
    have HB := Lib.hid hb
    go_wp2
    go_ret2
    exact gotr_mk HE.out ⟨⟨_, rfl, OwR.nil⟩, HB.out⟩
  have C2 := Lib.hid c2
  have i1 : ¬ (200 : Int) < (l.length : Int) := by omega
  obtain ⟨i0, hi', hz0, hz1, hz2⟩ := info_parts info_nums
  clear c2
  go_enter Tryz.func104, Tryz.ntmps104
  go_wp2_with fail
  refine (i_containscn l _ _ HV.out).mono ?_
  rintro e w0 ⟨rfl, hb⟩
  rw [C2.out]
  have HB0 := Lib.hid hb
  clear hb
  go_wp2_with (at_make; refine wpList_make_full _ rfl _ _ 144 rfl w0.heap.size 60 i0 _ 3 Tryz.underlying144 hi' hz0 hz1 .i64 .i64 _ _ l.length rfl rfl rfl rfl (by rw [hz2]; omega) (by unfold maxLen; omega) (by simp) ?_; intro w1 hown hgrow; have hbel : Below w0.heap.size w0 w1 := (Below.refl _ _).grown hgrow (Nat.le_refl _) (fun q hq => by cases hq))
  rw [show (Value.agg #[.int .i64 0, .int .i64 0, .int .i64 0]).cells = #[Value.int .i64 0, .int .i64 0, .int .i64 0] from rfl] at hown
  have hlt1 : w0.heap.size < w1.heap.size := by have := (hown.lt _ rfl).2; simpa using this
  have O1 := Lib.hid (show OwP w0.heap.size w1.heap.size w1 (.slice (some ⟨w0.heap.size, 0, none⟩) l.length l.length) (fillP l 0) by rw [fillP_zero]; exact OwE.zeros3 hown (Nat.le_refl _) hlt1)
  have B1 := Lib.hid hbel
  have HL1 := Lib.hid hlt1
  clear hown hgrow hbel hi' hz0 hz1 hz2 hlt1
  go_loopw [20] (fun i wr => ∃ k : Nat, k ≤ l.length ∧ i = .int .i64 k ∧ OwP w0.heap.size wr.heap.size wr (.slice (some ⟨w0.heap.size, 0, none⟩) l.length l.length) (fillP l k) ∧ Below w0.heap.size w0 wr) (fun i _ => l.length - (RowKit.intOf i).toNat)
  case atStart => exact ⟨0, Nat.zero_le _, rfl, O1.out, B1.out⟩
  case round =>
    obtain ⟨k, hk, rfl, ho, hb⟩ := hrel
    have HK := Lib.hid ho
    have HB := Lib.hid (HB0.out.trans (hb.mono HB0.out.size))
    have HB9 := Lib.hid hb
    clear ho hb
    by_cases hlt : k < l.length
    · have i2 : (0 : Int) ≤ (k : Int) := by omega
      have i3 : (k : Int) < (l.length : Int) := by omega
      obtain ⟨b, off, u, rfl, hc, hlt2, hcell, hsu⟩ := HO.out k _ (List.getElem?_eq_getElem hlt)
      rw [← HB.out.cell (p := ⟨b, off + k, none⟩) hlt2] at hcell
      have FS := Lib.hid (fillP_step l k hlt)
      have FL := Lib.hid (fillP_len l k hk)
      have h2 := (flatR_t C2.out l[k] (List.getElem_mem hlt)).1
      obtain ⟨x, hx⟩ : ∃ x, l[k] = x := ⟨_, rfl⟩
      rw [hx] at hsu FS h2
      have HU := Lib.hid (hsu.below HB.out)
      obtain ⟨ua, uc, rfl, _, _⟩ := hsu.shape
      have S2 := Lib.hid (splice_two h2)
      have H2 := Lib.hid h2
      obtain ⟨p, hp⟩ : ∃ p, ptOf x = p := ⟨_, rfl⟩
      rw [hp] at FS S2
      obtain ⟨p1, p2⟩ := p
      simp only at S2
      clear hx hsu h2 hp
      go_wp2_with fail
      refine (i_num x p1 p2 0 S2.out (by have := H2.out; omega) (by have := H2.out; omega) _ _ HU.out).mono ?_
      rintro e w2 ⟨rfl, hb2⟩
      have K2 := Lib.hid (HK.out.below hb2)
      have B2 := Lib.hid (HB9.out.trans (hb2.mono HB9.out.size))
      obtain ⟨b4, e4, -, -, -, -, -, ⟨q0, q1, q2⟩, qf⟩ := K2.out.at3 k (by rw [FL.out]; exact hlt) rfl
      simp only [Option.some.injEq, Addr.mk.injEq, and_true] at e4
      subst e4
      have f0 := qf (k * 3)
      have f1 := qf (k * 3 + 1)
      have f2 := qf (k * 3 + 2)
      have O3 := Lib.hid (K2.out.put3 k (by rw [FL.out]; exact hlt) (p1, p2))
      rw [FS.out] at O3
      have B3 := Lib.hid (((B2.out.setCell (p := ⟨w0.heap.size, k * 3, none⟩) (Nat.le_refl _) (.int .i64 p1)).setCell (p := ⟨w0.heap.size, k * 3 + 1, none⟩) (Nat.le_refl _) (.int .i64 p2)).setCell (p := ⟨w0.heap.size, k * 3 + 2, none⟩) (Nat.le_refl _) (.int .i64 0))
      have Z3 := Lib.hid hb2.size
      clear hb2 qf
      go_wp2
      exact ⟨⟨k + 1, by omega, by go_num, O3.out.mono (Nat.le_refl _) (by have := Z3.out; simp [World.setCell]; omega), B3.out⟩, by simp [RowKit.intOf]; omega⟩
    · obtain rfl : k = l.length := by omega
      have h := HK.out
      rw [fillP_all] at h
      have HP := Lib.hid h
      have HF := Lib.hid (flat_pt C2.out)
      clear h
      go_wp2_with fail
      refine (i_corners (l.map ptOf) w0.heap.size wr.heap.size w0.heap.size l.length l.length wr (by simp) (by omega) HF.out (Nat.le_refl _) HP.out).mono ?_
      rintro e w2 ⟨⟨D, u, rfl, d1, d2, d3, d4⟩, g2⟩
      have HR := Lib.hid (hull_prog (by omega) C2.out d3 d1)
      have ML := cornL_len D
      rw [d2, List.length_map] at ML
      obtain ⟨ua, uc, rfl, _, _⟩ := d4.shape
      have O2 := Lib.hid d4
      have B2 := Lib.hid (HB.out.trans ((Below.refl w.heap.size wr).grown g2 HB.out.size (fun q hq => by have := Option.some.inj hq; have := HB0.out.size; omega)))
      have HC := Lib.hid (show ∀ r, cornR D = r → hullR l = (r.1.map rowOf, r.2) from fun r hr => by unfold hullR; rw [HR.out, hr])
      obtain ⟨m, hm9⟩ : ∃ m, (cornL D).length = m := ⟨_, rfl⟩
      have HM := Lib.hid hm9
      rw [hm9] at O2 ML ⊢
      clear d1 d2 d3 d4 g2 hm9
      by_cases m1 : m < 3
      · have j1 : (m : Int) < 3 := by omega
        have HE := Lib.hid (HC.out _ (show cornR D = ([], false) by unfold cornR; rw [if_pos (.inl (by rw [HM.out]; exact m1))]))
        go_wp2
        go_ret2
        exact gotr_mk HE.out ⟨⟨_, rfl, OwR.nil⟩, B2.out⟩
      · have j1 : ¬ (m : Int) < 3 := by omega
        by_cases m2 : 12 < m
        · have j2 : (12 : Int) < (m : Int) := by omega
          have HE := Lib.hid (HC.out _ (show cornR D = ([], false) by unfold cornR; rw [if_pos (.inr (by rw [HM.out]; exact m2))]))
          go_wp2
          go_ret2
          exact gotr_mk HE.out ⟨⟨_, rfl, OwR.nil⟩, B2.out⟩
        · have j2 : ¬ (12 : Int) < (m : Int) := by omega
          have HE := Lib.hid (HC.out _ (show cornR D = (cornL D, true) by unfold cornR; rw [if_neg (by rw [HM.out]; omega)]))
          go_wp2_with fail
          refine (i_plane2 (cornL D) (by rw [HM.out]; omega) wr.heap.size w2.heap.size _ w2 O2.out).mono ?_
          rintro e w3 ⟨⟨u3, rfl, h3⟩, b3⟩
          have O3 := Lib.hid (h3.mono B2.out.size (Nat.le_refl _))
          have B3 := Lib.hid (B2.out.trans (b3.mono B2.out.size))
          clear h3 b3
          go_wp2
          go_ret2
          exact gotr_mk HE.out ⟨⟨_, rfl, O3.out⟩, B3.out⟩
end Go.Proofs.YtoekgcafhcamjaaGreatDoor
/- Lists of rows that are the same, on both sides; both IsPolygon. -/
namespace Go.Proofs.YtoekgcafhcamjaaGreatDoor
open Go.RowKit Go.Lib

theorem Rw.cells {w : World} {a : Option Addr} {n c : Nat} {l : List (List Int)} (h : Rw w (.slice a n c) l) (k : Nat) (hk : k < l.length) : ∃ (b off : Nat) (x : Value), a = some ⟨b, off, none⟩ ∧ b < w.heap.size ∧ w.cell? ⟨b, off + k, none⟩ = some x ∧ Sl w x (intVals l[k]) := by
  obtain ⟨a', c', e, _, ho⟩ := h.shape
  simp only [Value.slice.injEq] at e
  obtain ⟨rfl, rfl, rfl⟩ := e
  obtain ⟨b, off, u, h1, _, h2, h3, h4⟩ := ho k _ (List.getElem?_eq_getElem hk)
  exact ⟨b, off, u, h1, h2, h3, h4⟩
set_option maxRecDepth 100000 in
set_option maxHeartbeats 1600000 in
theorem i_eqrows (hs ks : List (List Int)) (v u : Value) (w : World) (hv : Rw w v hs) (hu : Rw w u ks) :
    Calls Tryz.prog 105 #[v, u, .func (.func 106) #[] #[]] w (Quiet w (.bool (decide (hs = ks)))) := by
  have HX := Lib.hid hv
  have HY := Lib.hid hu
  obtain ⟨a, c, rfl, hm, _⟩ := hv.shape
  obtain ⟨b, d, rfl, _, _⟩ := hu.shape
  unfold maxLen at hm
  clear hv hu
  by_cases hl : hs.length = ks.length
  case neg =>
    have E := Lib.hid (show ¬ hs = ks from fun e => hl (by rw [e]))
    have hne3 : ((hs.length : Int) == (ks.length : Int)) = false := by rw [beq_eq_false_iff_ne]; omega
    have hne4 : ((hs.length : Int) != (ks.length : Int)) = true := by rw [bne_iff_ne]; omega
    have hne5 : (hs.length == ks.length) = false := by rw [beq_eq_false_iff_ne]; exact hl
    have hne6 : (hs.length != ks.length) = true := by rw [bne_iff_ne]; exact hl
    go_enter Tryz.func105, Tryz.ntmps105
    go_wp2
    go_ret
    exact ⟨ret_bool (decide_eq_false E.out).symm, Below.refl _ _⟩
  have HL := Lib.hid hl
  rw [← hl] at HY ⊢
  clear hl
  go_enter Tryz.func105, Tryz.ntmps105
  go_wp2
  go_loopw [7, 17] (fun _ i wr => ∃ k : Nat, k ≤ hs.length ∧ i = .int .i64 k ∧ hs.take k = ks.take k ∧ Below w.heap.size w wr) (fun _ i _ => hs.length - (RowKit.intOf i).toNat)
  case atStart => exact ⟨0, Nat.zero_le _, rfl, rfl, Below.refl _ _⟩
  case round =>
    obtain ⟨k, hk, rfl, ht, hbr⟩ := hrel
    have HT := Lib.hid ht
    have HA := Lib.hid hbr
    clear ht
    by_cases hlt : k < hs.length
    · have hlt' : k < ks.length := by have := HL.out; omega
      have i1 : (0 : Int) ≤ (k : Int) := by omega
      have i2 : (k : Int) < (hs.length : Int) := by omega
      obtain ⟨b1, o1, x, rfl, hb2, hcell, hsx⟩ := HX.out.cells k hlt
      obtain ⟨b2, o2, y, rfl, hb2', hcell', hsy⟩ := HY.out.cells k hlt'
      rw [← HA.out.cell (p := ⟨b1, o1 + k, none⟩) hb2] at hcell
      rw [← HA.out.cell (p := ⟨b2, o2 + k, none⟩) hb2'] at hcell'
      have QX := Lib.hid (hsx.below HA.out)
      have QY := Lib.hid (hsy.below HA.out)
      obtain ⟨xa, xc, rfl, _⟩ := hsx.shape
      obtain ⟨ya, yc, rfl, _⟩ := hsy.shape
      clear hsx hsy hbr
      obtain ⟨q, hq⟩ : ∃ q : Bool, decide (hs[k] = ks[k]) = q := ⟨_, rfl⟩
      have HQ := Lib.hid hq
      clear hq
      go_wp2_with fail
      refine (i_sameP hs[k] ks[k] _ _ _ QX.out QY.out).mono ?_
      rintro e w1 ⟨rfl, hb1⟩
      rw [HQ.out]
      have HB1 := Lib.hid (HA.out.trans (hb1.mono HA.out.size))
      clear hb1 hcell hcell'
      cases q with
      | true =>
        go_wp2
        exact ⟨⟨k + 1, by omega, by go_num, takeEqStep hlt hlt' HT.out (of_decide_eq_true HQ.out), HB1.out⟩, by simp [RowKit.intOf]; omega⟩
      | false =>
        go_wp2
        go_ret
        exact ⟨ret_bool (decide_eq_false (getNe hlt hlt' (of_decide_eq_false HQ.out))).symm, HB1.out⟩
    · obtain rfl : k = hs.length := by omega
      have E := Lib.hid (takeAllEq HL.out rfl HT.out)
      clear hbr
      go_wp2
      go_ret
      exact ⟨ret_bool (decide_eq_true E.out).symm, HA.out⟩
set_option maxRecDepth 100000 in
set_option maxHeartbeats 1600000 in
theorem s_samelist (hs ks : List (List Int)) (v u : Value) (w : World) (hv : Rw w v hs) (hu : Rw w u ks) :
    Calls Tryz.prog 100 #[v, u] w (Quiet w (.bool (decide (hs = ks)))) := by
  have HX := Lib.hid hv
  have HY := Lib.hid hu
  obtain ⟨a, c, rfl, hm, _⟩ := hv.shape
  obtain ⟨b, d, rfl, _, _⟩ := hu.shape
  unfold maxLen at hm
  clear hv hu
  by_cases hl : hs.length = ks.length
  case neg =>
    have E := Lib.hid (show ¬ hs = ks from fun e => hl (by rw [e]))
    have hne3 : ((hs.length : Int) == (ks.length : Int)) = false := by rw [beq_eq_false_iff_ne]; omega
    have hne4 : ((hs.length : Int) != (ks.length : Int)) = true := by rw [bne_iff_ne]; omega
    have hne5 : (hs.length == ks.length) = false := by rw [beq_eq_false_iff_ne]; exact hl
    have hne6 : (hs.length != ks.length) = true := by rw [bne_iff_ne]; exact hl
    go_enter Tryz.func100, Tryz.ntmps100
    go_wp2
    go_ret
    exact ⟨ret_bool (decide_eq_false E.out).symm, Below.refl _ _⟩
  have HL := Lib.hid hl
  rw [← hl] at HY ⊢
  clear hl
  go_enter Tryz.func100, Tryz.ntmps100
  go_wp2
  go_loopw [5] (fun i wr => ∃ k : Nat, k ≤ hs.length ∧ i = .int .i64 k ∧ hs.take k = ks.take k ∧ Below w.heap.size w wr) (fun i _ => hs.length - (RowKit.intOf i).toNat)
  case atStart => exact ⟨0, Nat.zero_le _, rfl, rfl, Below.refl _ _⟩
  case round =>
    obtain ⟨k, hk, rfl, ht, hbr⟩ := hrel
    rename World => w2
    have HT := Lib.hid ht
    have HA := Lib.hid hbr
    clear ht
    by_cases hlt : k < hs.length
    · have hlt' : k < ks.length := by have := HL.out; omega
      have i1 : (0 : Int) ≤ (k : Int) := by omega
      have i2 : (k : Int) < (hs.length : Int) := by omega
      obtain ⟨b1, o1, x, rfl, hb2, hcell, hsx⟩ := HX.out.cells k hlt
      obtain ⟨b2, o2, y, rfl, hb2', hcell', hsy⟩ := HY.out.cells k hlt'
      rw [← HA.out.cell (p := ⟨b1, o1 + k, none⟩) hb2] at hcell
      rw [← HA.out.cell (p := ⟨b2, o2 + k, none⟩) hb2'] at hcell'
      have QX := Lib.hid hsx
      have QY := Lib.hid hsy
      obtain ⟨xa, xc, rfl, _⟩ := hsx.shape
      obtain ⟨ya, yc, rfl, _⟩ := hsy.shape
      have h1 : b1 < w2.heap.size := Nat.lt_of_lt_of_le hb2 hbr.size
      have h2 : b2 < w2.heap.size := Nat.lt_of_lt_of_le hb2' hbr.size
      clear hsx hsy hbr hb2 hb2'
      obtain ⟨q, hq⟩ : ∃ q : Bool, decide (hs[k] = ks[k]) = q := ⟨_, rfl⟩
      have HQ := Lib.hid hq
      have hbr : Below w2.heap.size w2 w2 := Below.refl _ _
      clear hq
      go_wp2_with fail
      go_region_held3 (fun w' => w'.cell? ⟨b1, o1 + k, none⟩ = some (.slice xa (intVals hs[k]).length xc) ∧ w'.cell? ⟨b2, o2 + k, none⟩ = some (.slice ya (intVals ks[k]).length yc) ∧ Below w2.heap.size w2 w')
        (first
          | with_reducible exact keepP2 hcell hcell' hbr
          | (go_split_ands; with_reducible exact keepQ2 h1 h2 (by assumption) (by assumption) (by assumption) (by assumption))
          | go_keep)
        (first | (go_at_call 132; refine (s_sameP hs[k] ks[k] _ _ _ (QX.out.below HA.out.drew) (QY.out.below HA.out.drew)).mono ?_; rintro e w3 ⟨rfl, hb3⟩; rw [HQ.out]))
      rename_i hH
      have HB1 := Lib.hid (HA.out.trans (hH.2.2.mono HA.out.size))
      clear hH hbr hcell hcell'
      cases q with
      | true =>
        go_wp2
        exact ⟨⟨k + 1, by omega, by go_num, takeEqStep hlt hlt' HT.out (of_decide_eq_true HQ.out), HB1.out⟩, by simp [RowKit.intOf]; omega⟩
      | false =>
        go_wp2
        go_ret
        exact ⟨ret_bool (decide_eq_false (getNe hlt hlt' (of_decide_eq_false HQ.out))).symm, HB1.out⟩
    · obtain rfl : k = hs.length := by omega
      have E := Lib.hid (takeAllEq HL.out rfl HT.out)
      clear hbr
      go_wp2
      go_ret
      exact ⟨ret_bool (decide_eq_true E.out).symm, HA.out⟩

/-- What IsPolygon answers. -/
def polyR (p : List (List Int)) : Bool := decide (hullR p = (p, true))
theorem polyR_t {p : List (List Int)} (h : polyR p = true) : hullR p = (p, true) := of_decide_eq_true h
theorem hull_shape {p : List (List Int)} (h : (hullR p).2 = true) : p.length ≤ 200 ∧ flatR p = true ∧ 3 ≤ (hullR p).1.length ∧ (hullR p).1.length ≤ 12 := by
  unfold hullR hullP at h ⊢
  simp only at h ⊢
  split at h
  · cases h
  · rename_i h1
    rw [if_neg h1]
    split at h
    · cases h
    · rename_i h2
      rw [if_neg h2]
      unfold cornR at h ⊢
      split at h
      · cases h
      · rename_i h3
        rw [if_neg h3, List.length_map]
        refine ⟨by omega, ?_, by simp only; omega, by simp only; omega⟩
        cases hf : flatR p with
        | true => rfl
        | false => exact absurd (Or.inr (by rw [hf]; simp)) h1
theorem polyR_shape {p : List (List Int)} (h : polyR p = true) : 3 ≤ p.length ∧ p.length ≤ 12 ∧ flatR p = true := by
  have e := polyR_t h
  have k := hull_shape (p := p) (by rw [e])
  rw [e] at k
  exact ⟨k.2.2.1, k.2.2.2, k.2.1⟩
theorem polyR_of {p : List (List Int)} {q : Bool} (h : (hullR p).2 = true) (e : decide (p = (hullR p).1) = q) : polyR p = q := by
  rw [← e]
  unfold polyR
  exact decide_eq_decide.2 ⟨fun k => by rw [k], fun k => Prod.ext k.symm h⟩
theorem polyR_no {p : List (List Int)} (h : (hullR p).2 = false) : polyR p = false := decide_eq_false fun k => by rw [k] at h; cases h
set_option maxRecDepth 100000 in
set_option maxHeartbeats 800000 in
theorem i_ispoly (p : List (List Int)) (v : Value) (w : World) (hv : Rw w v p) :
    Calls Tryz.prog 69 #[v] w (Quiet w (.bool (polyR p))) := by
  have HV := Lib.hid hv
  obtain ⟨ok, hok⟩ : ∃ ok, (hullR p).2 = ok := ⟨_, rfl⟩
  have HK := Lib.hid hok
  clear hv hok
  cases ok
  case false =>
    have HE := Lib.hid (polyR_no HK.out)
    go_enter Tryz.func69, Tryz.ntmps69
    go_wp2_with fail
    refine (i_hullof p v w HV.out).mono ?_
    rintro e w1 ⟨⟨u, rfl, ho⟩, hb⟩
    rw [HK.out]
    have HB := Lib.hid hb
    obtain ⟨ua, uc, rfl, _, _⟩ := ho.rw.shape
    clear ho hb
    go_wp2
    go_ret
    exact ⟨ret_bool HE.out.symm, HB.out⟩
  case true =>
    obtain ⟨q, hq⟩ : ∃ q : Bool, decide (p = (hullR p).1) = q := ⟨_, rfl⟩
    have HQ := Lib.hid hq
    have HE := Lib.hid (polyR_of HK.out hq)
    clear hq
    go_enter Tryz.func69, Tryz.ntmps69
    go_wp2_with fail
    refine (i_hullof p v w HV.out).mono ?_
    rintro e w1 ⟨⟨u, rfl, ho⟩, hb⟩
    rw [HK.out]
    have HB := Lib.hid hb
    have HO := Lib.hid ho.rw
    obtain ⟨ua, uc, rfl, _, _⟩ := ho.rw.shape
    clear ho hb
    go_wp2_with fail
    refine (i_eqrows p (hullR p).1 _ _ _ (HV.out.below HB.out) HO.out).mono ?_
    rintro e w2 ⟨rfl, hb2⟩
    rw [HQ.out]
    have HB2 := Lib.hid (HB.out.trans (hb2.mono HB.out.size))
    clear hb2
    go_wp2
    go_ret
    exact ⟨ret_bool HE.out.symm, HB2.out⟩
set_option maxRecDepth 100000 in
set_option maxHeartbeats 800000 in
theorem s_ispoly (p : List (List Int)) (v : Value) (w : World) (hv : Rw w v p) :
    Calls Tryz.prog 66 #[v] w (Quiet w (.bool (polyR p))) := by
  have HV := Lib.hid hv
  obtain ⟨a, c, rfl, hm, _⟩ := hv.shape
  unfold maxLen at hm
  clear hv
  by_cases c1 : 3 ≤ p.length ∧ p.length ≤ 12
  case neg =>
    have HI := Lib.hid (inR_f (x := (p.length : Int)) (lo := 3) (hi := 12) (fun h => c1 (by omega)))
    have HE := Lib.hid (show polyR p = false by
      cases hq : polyR p with
      | false => rfl
      | true => exact absurd ⟨(polyR_shape hq).1, (polyR_shape hq).2.1⟩ c1)
    clear c1
    go_enter Tryz.func66, Tryz.ntmps66
    go_wp2_with fail
    refine (s_in _ _ _ _).mono ?_
    rintro e w1 ⟨rfl, rfl⟩
    rw [HI.out]
    go_wp2
    go_ret
    exact ⟨ret_bool HE.out.symm, Below.refl _ _⟩
  have HI := Lib.hid (inR_mk (x := (p.length : Int)) (lo := 3) (hi := 12) (by omega) (by omega))
  clear c1
  by_cases c2 : flatR p = true
  case neg =>
    have C2 := Lib.hid (bool_f c2)
    have HE := Lib.hid (show polyR p = false by
      cases hq : polyR p with
      | false => rfl
      | true => exact absurd (polyR_shape hq).2.2 c2)
    clear c2
    go_enter Tryz.func66, Tryz.ntmps66
    go_wp2_with fail
    refine (s_in _ _ _ _).mono ?_
    rintro e w1 ⟨rfl, rfl⟩
    rw [HI.out]
    go_wp2_with fail
    refine (s_flat p _ _ HV.out).mono ?_
    rintro e w1 ⟨rfl, hb⟩
    rw [C2.out]
    have HB := Lib.hid hb
    clear hb
    go_wp2
    go_ret
    exact ⟨ret_bool HE.out.symm, HB.out⟩
  have C2 := Lib.hid c2
  clear c2
  obtain ⟨ok, hok⟩ : ∃ ok, (hullR p).2 = ok := ⟨_, rfl⟩
  have HK := Lib.hid hok
  clear hok
  cases ok
  case false =>
    have HE := Lib.hid (polyR_no HK.out)
    go_enter Tryz.func66, Tryz.ntmps66
    go_wp2_with fail
    refine (s_in _ _ _ _).mono ?_
    rintro e w1 ⟨rfl, rfl⟩
    rw [HI.out]
    go_wp2_with fail
    refine (s_flat p _ _ HV.out).mono ?_
    rintro e w1 ⟨rfl, hb⟩
    rw [C2.out]
    have HB := Lib.hid hb
    clear hb
    go_wp2_with fail
    refine (s_hullof p _ _ (HV.out.below HB.out)).mono ?_
    rintro e w2 ⟨⟨u, rfl, ho⟩, hb⟩
    rw [HK.out]
    have HB2 := Lib.hid (HB.out.trans (hb.mono HB.out.size))
    obtain ⟨ua, uc, rfl, _, _⟩ := ho.rw.shape
    clear ho hb
    go_wp2
    go_ret
    exact ⟨ret_bool HE.out.symm, HB2.out⟩
  case true =>
    obtain ⟨q, hq⟩ : ∃ q : Bool, decide (p = (hullR p).1) = q := ⟨_, rfl⟩
    have HQ := Lib.hid (show decide ((hullR p).1 = p) = q by rw [← hq]; exact decide_eq_decide.2 ⟨Eq.symm, Eq.symm⟩)
    have HE := Lib.hid (polyR_of HK.out hq)
    clear hq
    go_enter Tryz.func66, Tryz.ntmps66
    go_wp2_with fail
    refine (s_in _ _ _ _).mono ?_
    rintro e w1 ⟨rfl, rfl⟩
    rw [HI.out]
    go_wp2_with fail
    refine (s_flat p _ _ HV.out).mono ?_
    rintro e w1 ⟨rfl, hb⟩
    rw [C2.out]
    have HB := Lib.hid hb
    clear hb
    go_wp2_with fail
    refine (s_hullof p _ _ (HV.out.below HB.out)).mono ?_
    rintro e w2 ⟨⟨u, rfl, ho⟩, hb⟩
    rw [HK.out]
    have HB2 := Lib.hid (HB.out.trans (hb.mono HB.out.size))
    have HO := Lib.hid ho.rw
    obtain ⟨ua, uc, rfl, _, _⟩ := ho.rw.shape
    clear ho hb
    go_wp2_with fail
    refine (s_samelist (hullR p).1 p _ _ _ HO.out (HV.out.below HB2.out)).mono ?_
    rintro e w3 ⟨rfl, hb3⟩
    rw [HQ.out]
    have HB3 := Lib.hid (HB2.out.trans (hb3.mono HB2.out.size))
    clear hb3
    go_wp2
    go_ret
    exact ⟨ret_bool HE.out.symm, HB3.out⟩
end Go.Proofs.YtoekgcafhcamjaaGreatDoor
