/- The program's leadersOf. -/
import Derived.Test.YtjijgagdaolkcaaGreatLtO
import Derived.Test.YtjijgagdaolkcaaGreatMbg
import Derived.Carry
import Derived.Test.YtjijgagdaolkcaaGreatMbi
import Derived.Test.YtjijgagdaolkcaaGreatMav
namespace Go.Proofs.YtjijgagdaolkcaaGreat
open Go Go.RowKit Go.Lib

set_option maxRecDepth 100000 in
theorem i_keysv (b : Nat) (w : World) : Calls Tryz.prog 58 #[.map (some b)] w fun e w' =>
    e = .returned (.func (.func 83) #[] #[.pointer (some ⟨w.heap.size, 0, none⟩)]) ∧ w' = w.alloc (.cells #[.map (some b)] 73) := by
  go_enter Tryz.func58, Tryz.ntmps58
  go_wp2
  go_ret
  exact ⟨rfl, rfl⟩
set_option maxRecDepth 100000 in
theorem i_collect (Bm b N : Nat) (S : List T3) (w : World) (hBm : Bm < w.heap.size) (hm : w.cell? ⟨Bm, 0, none⟩ = some (.map (some b))) (hown : SetM w b N S) (hN : N ≤ 1048576) :
    Calls Tryz.prog 82 #[.func (.func 83) #[] #[.pointer (some ⟨Bm, 0, none⟩)]] w (Made3 S w) := by
  have CA := Lib.hid (callsIn_wide.1 (i_aseq Bm b N S w hBm hm hown hN))
  clear hBm hm hown hN
  go_enter Tryz.func82, Tryz.ntmps82
  go_wp2_with fail
  refine CA.out.mono ?_
  rintro e w1 ⟨v, xs, rfl, h1, h2, h3⟩
  go_wp2_with fail
  go_ret
  exact ⟨v, xs, rfl, h1, h2, h3⟩
theorem nodup_len : ∀ {l l' : List T3}, l.Nodup → (∀ t ∈ l, t ∈ l') → l.length ≤ l'.length
  | [], _, _, _ => Nat.zero_le _
  | x :: l, l', hn, hs => by
    obtain ⟨h1, h2⟩ := List.nodup_cons.1 hn
    have hx := hs x (by simp)
    have ih := nodup_len (l := l) (l' := l'.erase x) h2 (fun t ht => (List.mem_erase_of_ne (fun e => h1 (by rw [← e]; exact ht))).2 (hs t (by simp [ht])))
    have hp := List.length_pos_of_mem hx
    rw [List.length_erase_of_mem hx] at ih
    simp only [List.length_cons]
    omega
theorem sorted_strict {l : List T3} (hn : l.Nodup) (hp : l.Pairwise fun a b => ¬ ltT b a) : l.Pairwise ltT := by
  refine List.Pairwise.imp (R := fun a b => a ≠ b ∧ ¬ ltT b a) ?_ (List.pairwise_and_iff.2 ⟨hn, hp⟩)
  rintro ⟨a0, a1, a2⟩ ⟨b0, b1, b2⟩ ⟨h1, h2⟩
  unfold ltT at *
  simp only [ne_eq, Prod.mk.injEq] at h1 h2 ⊢
  omega
/-- The keys of S in order. -/
def Keys3 (S : List T3) (w : World) (e : Ending) (w' : World) : Prop := ∃ (v : Value) (xs : List T3), e = .returned v ∧ xs.Pairwise ltT ∧ (∀ t, t ∈ xs ↔ (W3 t ∧ t ∈ S)) ∧ Ow3 w.heap.size w'.heap.size w' v xs ∧ Below w.heap.size w w'
set_option maxRecDepth 100000 in
theorem i_sortedf (Bm b N : Nat) (S : List T3) (t0 : T3) (ht0 : W3 t0 ∧ t0 ∈ S) (w : World) (hBm : Bm < w.heap.size) (hm : w.cell? ⟨Bm, 0, none⟩ = some (.map (some b))) (hown : SetM w b N S) (hN : N ≤ 1048576) (B : List T3) (hSB : ∀ t ∈ S, t ∈ B) (hS : B.length ≤ 1048576) :
    Calls Tryz.prog 57 #[.func (.func 83) #[] #[.pointer (some ⟨Bm, 0, none⟩)], .func (.func 28) #[] #[]] w (Keys3 S w) := by
  have CA := Lib.hid (i_collect Bm b N S w hBm hm hown hN)
  clear hBm hm hown hN
  go_enter Tryz.func57, Tryz.ntmps57
  go_wp2_with fail
  refine CA.out.mono ?_
  rintro e w1 ⟨v, xs, rfl, ⟨hnd, hall⟩, ho, hb⟩
  have hmem := (hall t0).2 ht0
  have hpos : 0 < xs.length := List.length_pos_of_mem hmem
  have hlen : xs.length ≤ 1048576 := by
    refine Nat.le_trans ?_ hS
    exact nodup_len hnd (fun t ht => hSB t ((hall t).1 ht).2)
  obtain ⟨g, cap, rfl⟩ := Go.Joins.ownsRow_form ho.1 hpos
  have HO := Lib.hid ho
  have HB := Lib.hid hb
  obtain ⟨nx, hnx⟩ : ∃ nx, xs.length = nx := ⟨_, rfl⟩
  have hg : w.heap.size ≤ g := (ho.1.lt g rfl).1
  rw [hnx] at HO hlen ⊢
  have CS := Lib.hid (i_sort3 xs w.heap.size w1.heap.size g nx cap w1 hnx hlen HO.out)
  have HA := Lib.hid (And.intro hnd hall)
  clear ho hb hmem hpos hnx hall hnd hlen
  go_wp2_with fail
  refine CS.out.mono ?_
  rintro e w2 ⟨rfl, D, h1, h2, h3, h4, h5, h6⟩
  have HR := Lib.hid (show Keys3 S w (.returned (.slice (some ⟨g, 0, none⟩) nx cap)) w2 from ⟨_, D, rfl, sorted_strict (h3 HA.out.1) h4, fun t => by rw [h1 t]; exact HA.out.2 t, h5, HB.out.grown h6 HB.out.size (fun k e => by cases e; exact hg)⟩)
  clear h1 h2 h3 h4 h5 h6
  go_wp2_with fail
  go_ret
  exact HR.out
/-- The leaders, in order. -/
def Lead3 (h : H6) (w : World) (e : Ending) (w' : World) : Prop := ∃ v, e = .returned v ∧ Ow3 w.heap.size w'.heap.size w' v (boxT h) ∧ Below w.heap.size w w'
theorem w3_in {h : H6} (s : h.Sm) {t : T3} (i : InT h t) : W3 t := by
  have hb := lead_bd s i
  exact w3_of (by omega) (by omega) (by omega)
set_option maxRecDepth 100000 in
set_option maxHeartbeats 1600000 in
theorem i_leaders (h : H6) (k : h.Ok) (s : h.Sm) (hc : (boxT h).length ≤ 1048576) (w : World) :
    Calls Tryz.prog 24 #[gridV h] w (Lead3 h w) := by
  have hmm := @run_makeMap Tryz.prog
  have B0 := Lib.hid (below2 w (.cells #[.int .i64 h.d0, .int .i64 h.a, .int .i64 h.b, .int .i64 0, .int .i64 h.d1, .int .i64 h.c, .int .i64 0, .int .i64 0, .int .i64 h.d2] 45) (.map #[] 0))
  have M0 := Lib.hid (SetM.made (w.alloc (.cells #[.int .i64 h.d0, .int .i64 h.a, .int .i64 h.b, .int .i64 0, .int .i64 h.d1, .int .i64 h.c, .int .i64 0, .int .i64 0, .int .i64 h.d2] 45)))
  rw [World.size_alloc] at M0
  have hbx : ∀ t ∈ ([] : List T3), InT h t := fun t ht => by simp at ht
  have CK := Lib.hid (fun W hW => i_keep h k s (w.heap.size + 1) (boxT h).length (by unfold maxLen; omega) (Miss h []) [] (0, 0, 0) 0 W (Nat.le_refl _) (by rw [miss_nil]; omega) hbx hW (by simp) (by simp) (by simp))
  have CB := Lib.hid (fun (S : List T3) (g : Grows h [] (0, 0, 0) S) t => show t ∈ S ↔ InT h t from ⟨fun ht => g.box t ht, fun ht => reach_all k (S := fun t => t ∈ S) g.has (fun t ht j hj => g.shut t ht (by simp) j hj) t ht⟩)
  have HW := Lib.hid (fun t (i : InT h t) => w3_in s i)
  have hL := lead_in k (0, 0, 0)
  have HL := Lib.hid hL
  have HC := Lib.hid hc
  unfold gridV at CK ⊢
  unfold encV at CK
  simp only at CK ⊢
  clear hbx hL k s hc
  go_enter Tryz.func24, Tryz.ntmps24
  go_wp2_with fail
  refine (CK.out _ M0.out).mono ?_
  rintro e w1 ⟨v, S, n, rfl, ho, hn, hg, hgr⟩
  have B1 := Lib.hid (B0.out.grown hgr B0.out.size (fun q e => by cases e; omega))
  have KM := Lib.hid ho
  have hnn : n ≤ 1048576 := by have := HC.out; omega
  have GR := Lib.hid hg
  clear ho hn hg hgr
  go_wp2_with fail
  refine (i_keysv (w.heap.size + 1) w1).mono ?_
  rintro e w2 ⟨rfl, rfl⟩
  have B2 := Lib.hid (B1.out.alloc B1.out.size (.cells #[.map (some (w.heap.size + 1))] 73))
  have hbk := Bk.new w1 #[.map (some (w.heap.size + 1))] 73
  have CS := Lib.hid (i_sortedf w1.heap.size (w.heap.size + 1) n S (leadT h (0, 0, 0)) ⟨HW.out _ HL.out, GR.out.has⟩ _ hbk.lt (hbk.cell 0 rfl) (KM.out.kept (grown_alloc _ _ none) (by simp)) hnn (boxT h) (fun t ht => mem_boxT.2 (GR.out.box t ht)) HC.out)
  clear hbk
  go_wp2_with fail
  refine CS.out.mono ?_
  rintro e w3 ⟨v3, xs, rfl, h1, h2, h3, h4⟩
  have hxs : xs = boxT h := sorted_ext h1 (boxT_sorted h) (fun t => by
    rw [h2 t, CB.out S GR.out t, mem_boxT]
    exact ⟨fun h => h.2, fun h => ⟨HW.out t h, h⟩⟩)
  subst hxs
  have HO := Lib.hid (h3.mono B2.out.size (Nat.le_refl _))
  have HB := Lib.hid (B2.out.trans (h4.mono B2.out.size))
  clear h1 h2 h3 h4
  go_wp2_with fail
  go_ret
  exact ⟨_, rfl, HO.out, HB.out⟩
end Go.Proofs.YtjijgagdaolkcaaGreat
/- The program's ClassLeaders. -/
namespace Go.Proofs.YtjijgagdaolkcaaGreat
open Go Go.RowKit Go.Lib

theorem OwE.rd3 {lo hi : Nat} {w : World} {v : Value} {l : List T3} (h : Ow3 lo hi w v l) : Rd3 w v l := by
  obtain ⟨a, c, rfl, h1, h2⟩ := h.shape
  refine ⟨a, c, rfl, h1, h2, fun j hj => ?_⟩
  obtain ⟨b, rfl, _, _, _, hb, _, hc, _⟩ := OwE.at enc3_len h j hj (by omega) rfl
  refine ⟨b, 0, rfl, hb, ?_, ?_, ?_⟩
  · have := hc 0 (by omega); rw [Nat.zero_add]; exact this
  · have := hc 1 (by omega); rw [Nat.zero_add]; exact this
  · have := hc 2 (by omega); rw [Nat.zero_add]; exact this
theorem i_vecsn (l : List T3) (n : Nat) (h1 : 1 ≤ n) (h3 : n ≤ 3) (hlen : l.length ≤ 1048576) (v : Value) (w : World) (hv : Rd3 w v l) :
    Calls Tryz.prog 29 #[v, .int .i64 n] w (MadeR w (cutT n l)) := by
  match n, h1, h3 with
  | 1, _, _ => exact i_vecs1 l hlen v w hv
  | 2, _, _ => exact i_vecs2 l hlen v w hv
  | 3, _, _ => exact i_vecs3 l hlen v w hv
theorem box_size {h : H6} (k : h.Ok) : (((boxT h).length : Nat) : Int) = h.d0 * h.d1 * h.d2 := by
  have p0 := k.p0; have p1 := k.p1; have p2 := k.p2
  rw [boxT_len]
  simp only [Int.natCast_mul]
  rw [Int.toNat_of_nonneg (by omega), Int.toNat_of_nonneg (by omega), Int.toNat_of_nonneg (by omega), Int.mul_assoc]
theorem leadersR_no {m : List (List Int)} (h : ¬ ((hermR m).2 = true ∧ indexR m ≤ 500)) : leadersR m = [] := if_neg h
theorem madeR_of {w : World} {r r' : List (List Int)} {e : Ending} {w' : World} (h : r' = r) (g : MadeR w r e w') : MadeR w r' e w' := by subst h; exact g
set_option maxRecDepth 100000 in
set_option maxHeartbeats 1600000 in
theorem i_leaders8 (m : List (List Int)) (v : Value) (w : World) (hv : Rw w v m) :
    Calls Tryz.prog 7 #[v] w (MadeR w (leadersR m)) := by
  have HV := Lib.hid hv
  obtain ⟨a, ac, rfl, am, _⟩ := hv.shape
  unfold maxLen at am
  clear hv
  by_cases h1 : (hermR m).2 = true
  · have H1 := Lib.hid h1
    have CF := Lib.hid (show ∀ W A, Rw W A m → Calls Tryz.prog 30 #[A] W (GotR W (hermL m, true)) from fun W A hW => by have h0 := i_hermof m A W hW; rwa [show hermR m = (hermL m, true) from Prod.ext (herm_mat h1).2.2 h1] at h0)
    by_cases h2 : indexR m ≤ 500
    · obtain ⟨hd, hm2, hl2⟩ := herm_mat h1
      obtain ⟨h, n1, n3, hp, _, ok, hix, hlen, _⟩ := herm_pad6 hd
      have sm := sm_of hm2 ok hp
      have hcn : (boxT h).length ≤ 500 := by have := box_size ok; omega
      have HR := Lib.hid (show leadersR m = cutT m.length (boxT h) from ((if_pos ⟨h1, h2⟩).trans (by rw [hl2])).trans (box_cut hd hp).symm)
      have CG := Lib.hid (fun W A hW => i_gridof (m := hermL m) (n := m.length) (M := 100) n1 n3 (by rw [← hlen]; exact isM_sq hm2) hp A W hW)
      have CL := Lib.hid (fun W => i_leaders h ok sm (by omega) W)
      have CV := Lib.hid (fun A W hA => i_vecsn (boxT h) m.length n1 n3 (by omega) A W hA)
      have hgt : (decide (500 < indexR m)) = false := decide_eq_false (by omega)
      unfold gridV at CL
      clear hd hm2 hl2 hp ok hix hlen sm hcn h1 h2
      have CI := Lib.hid (fun A W hA => i_index8 m A W hA)
      generalize indexR m = ix at CI hgt
      have HG := Lib.hid hgt
      have hle : ix ≤ 500 := by simpa using hgt
      clear hgt
      go_enter Tryz.func7, Tryz.ntmps7
      go_wp2_with fail
      refine (CF.out _ _ HV.out).mono ?_
      rintro e w1 ⟨⟨r, rfl, ho⟩, hb⟩
      have B1 := Lib.hid hb
      have O1 := Lib.hid ho.rw
      obtain ⟨ra, rc, rfl, _, _⟩ := ho.rw.shape
      clear hb ho
      go_wp2_with fail
      refine (CI.out _ _ (HV.out.below B1.out)).mono ?_
      rintro e w2 ⟨rfl, hb⟩
      have B2 := Lib.hid (B1.out.trans (hb.mono B1.out.size))
      have O2 := Lib.hid (O1.out.below hb)
      clear hb
      go_wp2_with fail
      refine (CG.out _ _ O2.out).mono ?_
      rintro e w3 ⟨rfl, hb⟩
      have B3 := Lib.hid (B2.out.trans (hb.mono B2.out.size))
      clear hb
      go_wp2_with fail
      refine (CL.out _).mono ?_
      rintro e w4 ⟨u, rfl, ho, hb⟩
      have B4 := Lib.hid (B3.out.trans (hb.mono B3.out.size))
      have O4 := Lib.hid ho.rd3
      obtain ⟨ua, uc, rfl, _, _⟩ := ho.rd3
      clear hb ho
      go_wp2_with fail
      refine (CV.out _ _ O4.out).mono ?_
      rintro e w5 ⟨⟨q, rfl, ho⟩, hb⟩
      have B5 := Lib.hid (B4.out.trans (hb.mono B4.out.size))
      have O5 := Lib.hid (ho.mono (lo' := w.heap.size) B4.out.size (Nat.le_refl _))
      clear hb ho
      go_wp2_with fail
      go_ret
      rw [HR.out]
      exact ⟨⟨_, rfl, O5.out⟩, B5.out⟩
    · have HR := Lib.hid (leadersR_no (fun h => h2 h.2))
      have CI := Lib.hid (fun A W hA => i_index8 m A W hA)
      clear h1
      generalize indexR m = ix at CI h2
      have hle : 500 < ix := by omega
      clear h2
      go_enter Tryz.func7, Tryz.ntmps7
      go_wp2_with fail
      refine (CF.out _ _ HV.out).mono ?_
      rintro e w1 ⟨⟨r, rfl, ho⟩, hb⟩
      have B1 := Lib.hid hb
      obtain ⟨ra, rc, rfl, _, _⟩ := ho.rw.shape
      clear hb ho
      go_wp2_with fail
      refine (CI.out _ _ (HV.out.below B1.out)).mono ?_
      rintro e w2 ⟨rfl, hb⟩
      have B2 := Lib.hid (B1.out.trans (hb.mono B1.out.size))
      clear hb
      go_wp2_with fail
      go_ret
      rw [HR.out]
      exact ⟨⟨_, rfl, OwR.nil⟩, B2.out⟩
  · have HR := Lib.hid (leadersR_no (fun h => h1 h.1))
    have HE := Lib.hid (bool_f h1)
    clear h1
    go_enter Tryz.func7, Tryz.ntmps7
    go_wp2_with fail
    refine (i_hermof m _ _ HV.out).mono ?_
    rintro e w1 ⟨⟨r, rfl, ho⟩, hb⟩
    have B1 := Lib.hid hb
    obtain ⟨ra, rc, rfl, _, _⟩ := ho.rw.shape
    rw [HE.out]
    clear hb ho
    go_wp2_with fail
    go_ret
    rw [HR.out]
    exact ⟨⟨_, rfl, OwR.nil⟩, B1.out⟩
end Go.Proofs.YtjijgagdaolkcaaGreat
/- The program's CellPoints. -/
namespace Go.Proofs.YtjijgagdaolkcaaGreat
open Go Go.RowKit Go.Lib

theorem flatT_put : ∀ (l : List T3) (j : Nat) (p : T3), (((l.flatMap enc3).set (j * 3) (.int .i64 p.1)).set (j * 3 + 1) (.int .i64 p.2.1)).set (j * 3 + 2) (.int .i64 p.2.2) = (l.set j p).flatMap enc3
  | [], j, p => by simp
  | x :: l, 0, p => by simp [enc3]
  | x :: l, j + 1, p => by
    have ih := flatT_put l j p
    rw [show (j + 1) * 3 = j * 3 + 1 + 1 + 1 from by omega]
    simp only [List.flatMap_cons, enc3, List.cons_append, List.nil_append, List.set_cons_succ, show j * 3 + 1 + 1 + 1 + 1 = j * 3 + 1 + 1 + 1 + 1 from rfl, show j * 3 + 1 + 1 + 1 + 2 = j * 3 + 2 + 1 + 1 + 1 from rfl, ← ih]
/-- A triple is stored at place j. -/
theorem OwE.putT {lo hi : Nat} {w : World} {b n c : Nat} {l : List T3} (h : Ow3 lo hi w (.slice (some ⟨b, 0, none⟩) n c) l) (j : Nat) (hj : j < l.length) (p : T3) :
    Ow3 lo hi (((w.setCell ⟨b, j * 3, none⟩ (.int .i64 p.1)).setCell ⟨b, j * 3 + 1, none⟩ (.int .i64 p.2.1)).setCell ⟨b, j * 3 + 2, none⟩ (.int .i64 p.2.2)) (.slice (some ⟨b, 0, none⟩) n c) (l.set j p) := by
  obtain ⟨k2, k3⟩ := h
  obtain ⟨g, cap, e1⟩ := Go.Joins.ownsRow_form k2 (by omega)
  simp only [Value.slice.injEq, Option.some.injEq, Addr.mk.injEq] at e1
  obtain ⟨⟨rfl, _, _⟩, rfl, rfl⟩ := e1
  have hst := ((((k2.stored (j * 3) (.int .i64 p.1)).1).stored (j * 3 + 1) (.int .i64 p.2.1)).1.stored (j * 3 + 2) (.int .i64 p.2.2)).1
  rw [flatT_put l j p] at hst
  exact ⟨by rw [List.length_set]; exact hst, k3⟩
/-- The first k are points of the cell, the others leaders. -/
def fillC (f : T3 → T3) (l : List T3) (k : Nat) : List T3 := (l.take k).map f ++ l.drop k
theorem fillC_zero (f : T3 → T3) (l : List T3) : fillC f l 0 = l := by simp [fillC]
theorem fillC_all (f : T3 → T3) (l : List T3) : fillC f l l.length = l.map f := by simp [fillC]
theorem fillC_len (f : T3 → T3) (l : List T3) (k : Nat) : (fillC f l k).length = l.length := by simp [fillC]; omega
theorem fillC_get (f : T3 → T3) (l : List T3) (k : Nat) (h : k < l.length) : (fillC f l k)[k]? = some l[k] := by
  unfold fillC
  rw [List.getElem?_append_right (by simp; omega)]
  simp [Nat.min_eq_left (Nat.le_of_lt h), h]
theorem fillC_step (f : T3 → T3) (l : List T3) (k : Nat) (h : k < l.length) : (fillC f l k).set k (f l[k]) = fillC f l (k + 1) := by
  unfold fillC
  rw [List.set_append_right _ _ (by simp; omega), List.length_map, List.length_take, Nat.min_eq_left (by omega), Nat.sub_self, List.drop_eq_getElem_cons h, List.set_cons_zero, List.take_succ_eq_append_getElem h, List.map_append]
  simp
/-- What the loop of CellPoints meets. -/
structure CellIn (m : List (List Int)) (h : H6) (a b c d e f g i j : Int) : Prop where
  n1 : 1 ≤ m.length
  n3 : m.length ≤ 3
  sq : Sq m.length 100 m
  pad : padM m = [[a, b, c], [d, e, f], [g, i, j]]
  hp : padM (hermL m) = h.rows
  he : hermL [[a, b, c], [d, e, f], [g, i, j]] = h.rows
  ok : h.Ok
  sm : h.Sm
  sq3 : Sq 3 100 [[a, b, c], [d, e, f], [g, i, j]]
  dn : detL [[a, b, c], [d, e, f], [g, i, j]] ≠ 0
  d5 : -500 ≤ detL [[a, b, c], [d, e, f], [g, i, j]] ∧ detL [[a, b, c], [d, e, f], [g, i, j]] ≤ 500
  few : (boxT h).length ≤ 500
theorem le_prod {x y z N : Int} (hx : 0 < x) (hy : 0 < y) (hz : 0 < z) (h : x * y * z ≤ N) : x ≤ N ∧ y ≤ N ∧ z ≤ N := by
  have h1 : 1 * 1 ≤ x * y := Int.mul_le_mul (by omega) (by omega) (by omega) (by omega)
  have h2 : x * 1 ≤ x * y := Int.mul_le_mul_of_nonneg_left (by omega) (by omega)
  have h3 : 1 * y ≤ x * y := Int.mul_le_mul_of_nonneg_right (by omega) (by omega)
  have h4 : x * y * 1 ≤ x * y * z := Int.mul_le_mul_of_nonneg_left (by omega) (by omega)
  have h5 : 1 * z ≤ x * y * z := Int.mul_le_mul_of_nonneg_right (by omega) (by omega)
  omega
theorem cellIn_mk {m : List (List Int)} (h1 : 1 ≤ indexR m) (h5 : indexR m ≤ 500) : ∃ (h : H6) (a b c d e f g i j : Int), CellIn m h a b c d e f g i j := by
  have hd := det_of_index h1
  obtain ⟨hM, hd2⟩ := isM_of_det hd
  obtain ⟨n1, n3, _⟩ := isM_t hM
  have hsq := isM_sq hM
  obtain ⟨h, _, _, hp, he, ok, hix, _, _⟩ := herm_pad6 hd
  obtain ⟨a, b, c, d, e, f, g, i, j, p1, hs, hdp⟩ := pad_all hM
  have hN : h.d0 * h.d1 * h.d2 ≤ 500 := by omega
  have hl := le_prod ok.p0 ok.p1 ok.p2 hN
  have hbx := box_size ok
  have hdm : ((detL m).natAbs : Int) ≤ 500 := by
    have e1 : detR m = detL m := if_pos hM
    unfold indexR at h5
    rw [e1] at h5
    exact h5
  rw [p1] at he
  exact ⟨h, a, b, c, d, e, f, g, i, j, n1, n3, hsq, p1, hp, he, ok, ⟨hl.1, hl.2.1, hl.2.2⟩, hs, by rw [hdp]; exact hd2, by rw [hdp]; omega, by omega⟩
theorem cellsR_no {m : List (List Int)} (h : ¬ (1 ≤ indexR m ∧ indexR m ≤ 500)) : cellsR m = [] := if_neg h
set_option maxRecDepth 100000 in
set_option maxHeartbeats 3200000 in
theorem i_cells8 (m : List (List Int)) (v : Value) (w : World) (hv : Rw w v m) :
    Calls Tryz.prog 6 #[v] w (MadeR w (cellsR m)) := by
  have HV := Lib.hid hv
  obtain ⟨va, vc, rfl, vm, _⟩ := hv.shape
  unfold maxLen at vm
  clear hv
  have CI := Lib.hid (fun A W hA => i_index8 m A W hA)
  have hi0 : 0 ≤ indexR m := by unfold indexR; omega
  by_cases h1 : 1 ≤ indexR m
  · by_cases h5 : indexR m ≤ 500
    · obtain ⟨h, a, b, c, d, e, f, g, i, j, K⟩ := cellIn_mk h1 h5
      have HE := Lib.hid (fun D hs hm => cells_eq (D := D) h1 h5 K.hp hs hm)
      have HND := Lib.hid (cells_nodup (det_of_index h1) (show hermL (padM m) = h.rows by rw [K.pad]; exact K.he))
      rw [K.pad] at HE HND
      obtain ⟨_, _, _, _, _, _, _, _, _, hh, ra, rb, rc, rd, re, rf, rg, ri, rj⟩ := sq3 K.sq3
      simp only [List.cons.injEq, and_true] at hh
      obtain ⟨⟨rfl, rfl, rfl⟩, ⟨rfl, rfl, rfl⟩, rfl, rfl, rfl⟩ := hh
      have CG := Lib.hid (fun A W hA => i_gridof (m := m) (n := m.length) (M := 100) K.n1 K.n3 K.sq K.pad A W hA)
      have CH := Lib.hid (fun W => i_hermite a b c d e f g i j K.sq3 K.dn W)
      have HR := Lib.hid K.he
      have CL := Lib.hid (fun W => i_leaders h K.ok K.sm (by have := K.few; omega) W)
      have CP := Lib.hid (fun W t (ht : InT h t) => by
        have hb := lead_bd K.sm ht
        exact i_cellp a b c d e f g i j t.1 t.2.1 t.2.2 ra rb rc rd re rf rg ri rj hb.1 hb.2.1 hb.2.2 K.dn K.d5 W)
      have CV := Lib.hid (fun l hl A W hA => i_vecsn l m.length K.n1 K.n3 hl A W hA)
      have HF := Lib.hid K.few
      have h0 : 0 < (boxT h).length := List.length_pos_of_mem (mem_boxT.2 (lead_in K.ok (0, 0, 0)))
      have HIN := Lib.hid (fun t (ht : t ∈ boxT h) => mem_boxT.1 ht)
      clear ra rb rc rd re rf rg ri rj K
      generalize cellT [[a, b, c], [d, e, f], [g, i, j]] = F at HE HND CP
      generalize indexR m = ix at CI h1 h5 hi0
      have hne : (ix == 0) = false := by rw [beq_eq_false_iff_ne]; omega
      have hdec : decide (500 < ix) = false := decide_eq_false (by omega)
      clear hi0 h1 h5
      unfold gridV at CL
      unfold encV at CP
      go_enter Tryz.func6, Tryz.ntmps6
      go_wp2_with fail
      refine (CI.out _ _ HV.out).mono ?_
      rintro e' w1 ⟨rfl, hb⟩
      have B1 := Lib.hid hb
      clear hb
      go_wp2_with fail
      refine (CG.out _ _ (HV.out.below B1.out)).mono ?_
      rintro e' w2 ⟨rfl, hb⟩
      have B2 := Lib.hid (B1.out.trans (hb.mono B1.out.size))
      clear hb
      have KG := Lib.hid (Bk.new w2 #[.int .i64 a, .int .i64 b, .int .i64 c, .int .i64 d, .int .i64 e, .int .i64 f, .int .i64 g, .int .i64 i, .int .i64 j] 45)
      have B3 := Lib.hid (B2.out.alloc B2.out.size (.cells #[.int .i64 a, .int .i64 b, .int .i64 c, .int .i64 d, .int .i64 e, .int .i64 f, .int .i64 g, .int .i64 i, .int .i64 j] 45))
      have hGb : w.heap.size ≤ w2.heap.size := B2.out.size
      obtain ⟨g0, g1, g2, g3, g4, g5, g6, g7, g8⟩ := G9.cells9 KG.out
      go_wp2_with fail
      refine (CH.out _).mono ?_
      rintro e' w3 ⟨y0, y1, y2, y3, y4, y5, y6, y7, y8, hy, rfl, hb⟩
      rw [HR.out] at hy
      simp only [H6.rows, List.cons.injEq, and_true] at hy
      obtain ⟨⟨rfl, rfl, rfl⟩, ⟨rfl, rfl, rfl⟩, rfl, rfl, rfl⟩ := hy
      have KG3 := Lib.hid (KG.out.below hb)
      have B4 := Lib.hid (B3.out.trans (hb.mono B3.out.size))
      clear hb g0 g1 g2 g3 g4 g5 g6 g7 g8 KG
      go_wp2_with fail
      refine (CL.out _).mono ?_
      rintro e' w4 ⟨pv, rfl, ho, hb⟩
      have KG4 := Lib.hid (KG3.out.below hb)
      have B5 := Lib.hid (B4.out.trans (hb.mono B4.out.size))
      obtain ⟨gp, pc, rfl⟩ := Go.Joins.ownsRow_form ho.1 h0
      have hgp : w3.heap.size ≤ gp := (ho.1.lt gp rfl).1
      have hg3 : w2.heap.size < w3.heap.size := KG3.out.lt
      obtain ⟨nb, hnb⟩ : ∃ nb, (boxT h).length = nb := ⟨_, rfl⟩
      obtain ⟨l, hl⟩ : ∃ l, boxT h = l := ⟨_, rfl⟩
      rw [hnb] at HF h0 ho ⊢
      rw [hl] at hnb HE HND HIN ho
      have O0 := Lib.hid (show Ow3 w3.heap.size w4.heap.size w4 (.slice (some ⟨gp, 0, none⟩) nb pc) (fillC F l 0) by rw [fillC_zero]; exact ho)
      have HNB := Lib.hid hnb
      clear ho hb hl hnb B4 KG3
      go_wp2_with fail
      go_loopw [23] (fun ci wr => ∃ k : Nat, k ≤ nb ∧ ci = .int .i64 k ∧ Ow3 w3.heap.size wr.heap.size wr (.slice (some ⟨gp, 0, none⟩) nb pc) (fillC F l k) ∧ Bk wr w2.heap.size #[.int .i64 a, .int .i64 b, .int .i64 c, .int .i64 d, .int .i64 e, .int .i64 f, .int .i64 g, .int .i64 i, .int .i64 j] 45 ∧ Below w.heap.size w wr) (fun ci _ => nb - (RowKit.intOf ci).toNat)
      case atStart => exact ⟨0, Nat.zero_le _, rfl, O0.out, KG4.out, B5.out⟩
      case round =>
        obtain ⟨k, hk, rfl, ho, hkg, hb⟩ := hrel
        have HO := Lib.hid ho
        have HB := Lib.hid hb
        have HG := Lib.hid hkg
        clear ho hb hkg
        by_cases hlt : k < nb
        · have i1 : (0 : Int) ≤ (k : Int) := by omega
          have i2 : (k : Int) < (nb : Int) := by omega
          have hkl : k < l.length := by rw [HNB.out]; exact hlt
          have hkf : k < (fillC F l k).length := by rw [fillC_len]; exact hkl
          obtain ⟨g', e1, -, -, -, hgs, -, hcs, hfz⟩ := OwE.at enc3_len HO.out k hkf (by omega) rfl
          obtain rfl : gp = g' := by simpa using e1
          have eg : (fillC F l k)[k] = l[k] := Option.some.inj ((List.getElem?_eq_getElem hkf).symm.trans (fillC_get F l k hkl))
          rw [eg] at hcs
          have q0 := hcs 0 (by omega)
          have q1 := hcs 1 (by omega)
          have q2 := hcs 2 (by omega)
          have FS := Lib.hid (fillC_step F l k hkl)
          have CQ := Lib.hid (fun W => CP.out W l[k] (HIN.out _ (List.getElem_mem hkl)))
          obtain ⟨x, hx⟩ : ∃ x, l[k] = x := ⟨_, rfl⟩
          rw [hx] at q0 q1 q2 FS CQ
          obtain ⟨x0, x1, x2⟩ := x
          obtain ⟨y, hy⟩ : ∃ y, F (x0, x1, x2) = y := ⟨_, rfl⟩
          simp only at CQ
          rw [hy] at FS CQ
          obtain ⟨y0, y1, y2⟩ := y
          simp only at CQ
          replace q0 : wr.cell? ⟨gp, k * 3, none⟩ = some (.int .i64 x0) := q0
          replace q1 : wr.cell? ⟨gp, k * 3 + 1, none⟩ = some (.int .i64 x1) := q1
          replace q2 : wr.cell? ⟨gp, k * 3 + 2, none⟩ = some (.int .i64 x2) := q2
          obtain ⟨g0, g1, g2, g3, g4, g5, g6, g7, g8⟩ := G9.cells9 HG.out
          have hgl : w2.heap.size < wr.heap.size := HG.out.lt
          clear hx hy hcs eg e1
          go_wp2_with fail
          refine (CQ.out _).mono ?_
          rintro e' w5 ⟨rfl, hb⟩
          have hb2 : Below wr.heap.size wr w5 := (below1 wr _).trans (hb.mono (by simp))
          have HO5 := Lib.hid ((HO.out.below hb2).mono (Nat.le_refl _) hb2.size)
          have HG5 := Lib.hid (HG.out.below hb2)
          have HB5 := Lib.hid (HB.out.trans (hb2.mono HB.out.size))
          obtain ⟨g2', e2, -, -, -, -, -, hc5, hf5⟩ := OwE.at enc3_len HO5.out k hkf (by omega) rfl
          obtain rfl : gp = g2' := by simpa using e2
          have r0 := hc5 0 (by omega)
          have r1 := hc5 1 (by omega)
          have r2 := hc5 2 (by omega)
          have t0 := hf5 (k * 3)
          have t1 := hf5 (k * 3 + 1)
          have t2 := hf5 (k * 3 + 2)
          simp only [enc3, Nat.add_zero, List.getElem?_cons_zero, List.getElem?_cons_succ] at r0 r1 r2
          have HO6 := Lib.hid (HO5.out.putT k hkf (y0, y1, y2))
          rw [FS.out] at HO6
          have HG6 := Lib.hid (((HG5.out.other (p := ⟨gp, k * 3, none⟩) (by show gp ≠ _; omega) (.int .i64 y0)).other (p := ⟨gp, k * 3 + 1, none⟩) (by show gp ≠ _; omega) (.int .i64 y1)).other (p := ⟨gp, k * 3 + 2, none⟩) (by show gp ≠ _; omega) (.int .i64 y2))
          have HB6 := Lib.hid (((HB5.out.setCell (p := ⟨gp, k * 3, none⟩) (by show w.heap.size ≤ gp; omega) (.int .i64 y0)).setCell (p := ⟨gp, k * 3 + 1, none⟩) (by show w.heap.size ≤ gp; omega) (.int .i64 y1)).setCell (p := ⟨gp, k * 3 + 2, none⟩) (by show w.heap.size ≤ gp; omega) (.int .i64 y2))
          clear hb hb2 g0 g1 g2 g3 g4 g5 g6 g7 g8 q0 q1 q2 hc5 hf5 e2 hfz
          have hnb5 : nb ≤ 500 := HF.out
          go_wp2
          refine ⟨⟨k + 1, by omega, by go_num, ?_, HG6.out, HB6.out⟩, by simp [RowKit.intOf]; omega⟩
          exact HO6.out.mono (Nat.le_refl _) (by simp [World.setCell])
        · obtain rfl : k = nb := by omega
          have ho := HO.out
          rw [← HNB.out, fillC_all, HNB.out] at ho
          have CS := Lib.hid (i_sort3 (l.map F) w3.heap.size wr.heap.size gp k pc wr (by simpa using HNB.out) (by have := HF.out; omega) ho)
          clear ho
          go_wp2_with fail
          refine CS.out.mono ?_
          rintro e' w5 ⟨rfl, D, d1, d2, d3, d4, d5, d6⟩
          have HS := Lib.hid (HE.out D (sorted_strict (d3 HND.out) d4) d1)
          have B6 := Lib.hid (HB.out.grown d6 HB.out.size (fun q e => by cases e; omega))
          have DR := Lib.hid d5.rd3
          have hdl : D.length ≤ 1048576 := by have := HF.out; omega
          have CW := Lib.hid (fun A W hA => CV.out D hdl A W hA)
          clear d1 d2 d3 d4 d5 d6 hdl
          go_wp2_with fail
          refine (CW.out _ _ DR.out).mono ?_
          rintro e' w6 ⟨⟨q, rfl, ho⟩, hb⟩
          have B7 := Lib.hid (B6.out.trans (hb.mono B6.out.size))
          have O7 := Lib.hid (ho.mono (lo' := w.heap.size) B6.out.size (Nat.le_refl _))
          clear hb ho
          go_wp2_with fail
          go_ret
          rw [← HS.out]
          exact ⟨⟨_, rfl, O7.out⟩, B7.out⟩
    · have HR := Lib.hid (cellsR_no (m := m) (fun h => h5 h.2))
      generalize indexR m = ix at CI h1 h5 hi0
      have hne : (ix == 0) = false := by rw [beq_eq_false_iff_ne]; omega
      have hgt : 500 < ix := by omega
      clear h1 h5 hi0
      go_enter Tryz.func6, Tryz.ntmps6
      go_wp2_with fail
      refine (CI.out _ _ HV.out).mono ?_
      rintro e' w1 ⟨rfl, hb⟩
      have B1 := Lib.hid hb
      clear hb
      go_wp2_with fail
      go_ret
      rw [HR.out]
      exact ⟨⟨_, rfl, OwR.nil⟩, B1.out⟩
  · have HR := Lib.hid (cellsR_no (m := m) (fun h => h1 h.1))
    have hz : indexR m = 0 := by omega
    rw [hz] at CI
    clear h1 hi0 hz
    go_enter Tryz.func6, Tryz.ntmps6
    go_wp2_with fail
    refine (CI.out _ _ HV.out).mono ?_
    rintro e' w1 ⟨rfl, hb⟩
    have B1 := Lib.hid hb
    clear hb
    go_wp2_with fail
    go_ret
    rw [HR.out]
    exact ⟨⟨_, rfl, OwR.nil⟩, B1.out⟩
end Go.Proofs.YtjijgagdaolkcaaGreat
