/- The program's ConeOfTurns. -/
import Derived.Test.YtoekgcafhcamjabMaw
import Derived.Test.YtoekgcafhcamjabMav
namespace Go.Proofs.Ytoekgcafhcamjab
open Go Go.RowKit Go.Lib

def tallR (v : List Int) : Bool := v.all fun x => inR x 2 30
theorem tall_take {v : List Int} {k : Nat} (h : k < v.length) (h1 : tallR (v.take k) = true) (h2 : inR v[k] 2 30 = true) : tallR (v.take (k + 1)) = true := by
  rw [List.take_succ_eq_append_getElem h]
  unfold tallR at *
  rw [List.all_append, h1, List.all_cons, h2]; rfl
theorem tall_not {v : List Int} {k : Nat} (h : k < v.length) (h2 : inR v[k] 2 30 = false) : tallR v = false := by
  unfold tallR
  rw [List.all_eq_false]
  exact ⟨v[k], List.getElem_mem h, by simp [h2]⟩

set_option maxRecDepth 100000 in
theorem i_noturn (x : Int) (w : World) : Calls Try.prog 48 #[.int .i64 x] w fun e w' => e = .returned (.bool (!inR x (2) 30)) ∧ w = w' := by
  by_cases h1 : x < 2
  · have h := Lib.hid (inR_f (x := x) (lo := 2) (hi := 30) (fun h => by omega))
    go_enter Try.func48, Try.ntmps48
    go_wp2
    go_ret
    exact ⟨ret_bool (by rw [h.out]; rfl), rfl⟩
  · by_cases h2 : 30 < x
    · have h := Lib.hid (inR_f (x := x) (lo := 2) (hi := 30) (fun h => by omega))
      go_enter Try.func48, Try.ntmps48
      go_wp2
      go_ret
      exact ⟨ret_bool (by rw [h.out]; rfl), rfl⟩
    · have h := Lib.hid (inR_mk (x := x) (lo := 2) (hi := 30) (by omega) (by omega))
      go_enter Try.func48, Try.ntmps48
      go_wp2
      go_ret
      exact ⟨ret_bool (by rw [h.out]; rfl), rfl⟩

/-- Where the first number lies that is no coordinate, or -1. -/
def IdxTn (v : List Int) (w : World) (e : Ending) (w' : World) : Prop :=
  ((tallR v = true ∧ e = .returned (.int .i64 (-1))) ∨ (tallR v = false ∧ ∃ k : Nat, e = .returned (.int .i64 k))) ∧ Below w.heap.size w w'

set_option maxRecDepth 100000 in
set_option maxHeartbeats 400000 in
theorem i_indextn (v : List Int) (a : Value) (w : World) (hv : Sl w a (intVals v)) :
    Calls Try.prog 58 #[a, .func (.func 48) #[] #[]] w (IdxTn v w) := by
  obtain ⟨a, c, rfl, hm, hopen⟩ := hv.shape
  rw [intVals_len] at hm hopen ⊢
  unfold maxLen at hm
  have HO := Lib.hid hopen
  clear hopen hv
  go_enter Try.func58, Try.ntmps58
  go_wp2
  go_loopw [5, 8] (fun _ i wr => ∃ k : Nat, k ≤ v.length ∧ i = .int .i64 k ∧ tallR (v.take k) = true ∧ Below w.heap.size w wr) (fun _ i _ => v.length - (RowKit.intOf i).toNat)
  case atStart => exact ⟨0, Nat.zero_le _, rfl, rfl, Below.refl _ _⟩
  case round =>
    obtain ⟨k, hk, rfl, ht, hbr⟩ := hrel
    have HB := Lib.hid hbr
    have HT := Lib.hid ht
    clear ht
    by_cases hlt : k < v.length
    · obtain ⟨b, off, rfl, hc, hlt2, hx⟩ := HO.out (by omega)
      have hcell := hx k _ (intVals_get v k hlt)
      rw [← hbr.cell (p := ⟨b, off + k, none⟩) hlt2] at hcell
      clear hx hbr
      by_cases hin : inR v[k] (2) 30 = true
      · have HI := Lib.hid hin
        clear hin
        go_wp2_with fail
        refine (i_noturn _ _).mono ?_
        rintro e w1 ⟨rfl, rfl⟩
        rw [HI.out]
        go_wp2_with fail
        exact ⟨⟨k + 1, by omega, by go_num, tall_take hlt HT.out HI.out, HB.out⟩, by simp [RowKit.intOf]; omega⟩
      · have HI := Lib.hid (Bool.not_eq_true _ ▸ hin)
        clear hin
        go_wp2_with fail
        refine (i_noturn _ _).mono ?_
        rintro e w1 ⟨rfl, rfl⟩
        rw [HI.out]
        go_wp2_with fail
        go_ret
        exact ⟨.inr ⟨tall_not hlt HI.out, k, rfl⟩, HB.out⟩
    · obtain rfl : k = v.length := by omega
      clear hbr
      go_wp2
      go_ret
      refine ⟨.inl ⟨?_, rfl⟩, HB.out⟩
      have h := HT.out
      rw [List.take_length] at h
      exact h

set_option maxRecDepth 100000 in
theorem i_containstn (v : List Int) (a : Value) (w : World) (hv : Sl w a (intVals v)) :
    Calls Try.prog 47 #[a, .func (.func 48) #[] #[]] w (Quiet w (.bool (!tallR v))) := by
  have HV := Lib.hid hv
  clear hv
  go_enter Try.func47, Try.ntmps47
  go_wp2_with fail
  refine (i_indextn v a _ HV.out).mono ?_
  rintro e w1 ⟨⟨hs, rfl⟩ | ⟨hs, k, rfl⟩, hb⟩
  · have HS := Lib.hid hs
    clear hs
    go_wp2_with fail
    go_ret
    exact ⟨ret_bool (by rw [HS.out]; rfl), hb⟩
  · have HS := Lib.hid hs
    clear hs
    have h0 : (0 : Int) ≤ (k : Int) := by omega
    go_wp2_with fail
    go_ret
    exact ⟨ret_bool (by rw [HS.out]; rfl), hb⟩

theorem own_pair {w : World} {g lo hi : Nat} {x y : Int} (h : Bk w g #[.int .i64 x, .int .i64 y] 3) (h1 : lo ≤ g) (h2 : g < hi) : OwnV 3 lo hi w (.slice (some ⟨g, 0, none⟩) 2 2) (intVals (rowOf (x, y))) :=
  .inr ⟨g, 2, #[.int .i64 x, .int .i64 y], rfl, h1, h2, h, by simp [intVals, rowOf], by unfold maxLen; omega, rfl, rfl⟩
theorem coneT_f1 {l : List Int} (h : okT l = false) : coneTR l = (([], []), false) := if_neg (fun k => by rw [h] at k; exact absurd k.1 (by decide))
theorem coneT_f2 {l : List Int} (h : coneR ([1, 0], rowOf (runC l).2) = false) : coneTR l = (([], []), false) := if_neg (fun k => by rw [h] at k; exact absurd k.2 (by decide))
theorem coneT_t {l : List Int} (h : okT l = true) (h2 : coneR ([1, 0], rowOf (runC l).2) = true) : coneTR l = (([1, 0], rowOf (runC l).2), true) := if_pos ⟨h, h2⟩
theorem okT_e (l : List Int) : okT l = (inR l.length 1 10 && tallR l) := rfl
theorem got_cone {w : World} {r r' : Cn × Bool} {e : Ending} {w' : World} (h : r' = r) (g : GotC w r e w') : GotC w r' e w' := by subst h; exact g
set_option maxRecDepth 100000 in
set_option maxHeartbeats 3200000 in
theorem i_conet (l : List Int) (v : Value) (w : World) (hv : Sl w v (intVals l)) :
    Calls Try.prog 28 #[v] w (GotC w (coneTR l)) := by
  have HV := Lib.hid hv
  obtain ⟨va, vc, rfl, hm, hopen⟩ := hv.shape
  rw [intVals_len] at hm HV hopen ⊢
  unfold maxLen at hm
  have HO := Lib.hid hopen
  have K0 := Lib.hid (Bk.new w #[.slice none 0 0, .slice none 0 0] 27)
  have B0 := Lib.hid (below1 w (.cells #[.slice none 0 0, .slice none 0 0] 27))
  obtain ⟨⟨c0, c1⟩, f0, f1⟩ := K0.out.two
  clear hv hopen
  by_cases h1 : l.length = 0
  · have E := Lib.hid (coneT_f1 (l := l) (by rw [okT_e, inR_f (by omega)]; rfl))
    have i1 : (l.length : Int) = 0 := by omega
    have i2 : ((l.length : Int) == 0) = true := by rw [beq_iff_eq]; exact i1
    clear h1
    go_enter Try.func28, Try.ntmps28
    go_wp2
    refine bodyPost_ret (v := .tuple #[.agg #[.slice none 0 0, .slice none 0 0], .bool false]) ?_ rfl (got_cone E.out ⟨⟨_, rfl, _, _, rfl, OwC.nil⟩, B0.out⟩)
    simp [results, Try.results28, go_sem, c0, c1]
  have i2 : ((l.length : Int) == 0) = false := by rw [beq_eq_false_iff_ne]; omega
  have i2' : ¬ (l.length : Int) = 0 := by omega
  by_cases h2 : 10 < l.length
  · have E := Lib.hid (coneT_f1 (l := l) (by rw [okT_e, inR_f (by omega)]; rfl))
    have i3 : (10 : Int) < (l.length : Int) := by omega
    clear h1 h2
    go_enter Try.func28, Try.ntmps28
    go_wp2
    refine bodyPost_ret (v := .tuple #[.agg #[.slice none 0 0, .slice none 0 0], .bool false]) ?_ rfl (got_cone E.out ⟨⟨_, rfl, _, _, rfl, OwC.nil⟩, B0.out⟩)
    simp [results, Try.results28, go_sem, c0, c1]
  have i3 : ¬ (10 : Int) < (l.length : Int) := by omega
  have LEN := Lib.hid (show 1 ≤ l.length ∧ l.length ≤ 10 by omega)
  clear h1 h2
  go_enter Try.func28, Try.ntmps28
  go_wp2_with fail
  refine (i_containstn l _ _ (HV.out.below B0.out)).mono ?_
  rintro e w1 ⟨rfl, hb⟩
  have K1 := Lib.hid (K0.out.below hb)
  have B1 := Lib.hid (B0.out.trans (hb.mono B0.out.size))
  have S1 := Lib.hid hb.size
  clear hb c0 c1 f0 f1
  obtain ⟨⟨c0, c1⟩, f0, f1⟩ := K1.out.two
  cases h3 : tallR l
  · have E := Lib.hid (coneT_f1 (l := l) (by rw [okT_e, h3]; simp))
    clear h3
    go_wp2
    refine bodyPost_ret (v := .tuple #[.agg #[.slice none 0 0, .slice none 0 0], .bool false]) ?_ rfl (got_cone E.out ⟨⟨_, rfl, _, _, rfl, OwC.nil⟩, (B1.out.setCell (by simp) _).setCell (by simp) _⟩)
    simp [results, Try.results28, go_sem, c0, c1]
  have OK := Lib.hid (show okT l = true by rw [okT_e, h3, inR_mk (by have := LEN.out; omega) (by have := LEN.out; omega)]; rfl)
  have TL := Lib.hid (okT_t OK.out).2.2
  clear h3
  obtain ⟨b4, h4⟩ : ∃ b, w1.heap.size = b := ⟨_, rfl⟩
  have K45 := Lib.hid (Bk.pair w1 #[.int .i64 1, .int .i64 0, .int .i64 0] #[.int .i64 0, .int .i64 1, .int .i64 0] 49 49)
  rw [h4] at K45
  have hb2 := below2 w1 (.cells #[.int .i64 1, .int .i64 0, .int .i64 0] 49) (.cells #[.int .i64 0, .int .i64 1, .int .i64 0] 49)
  have K2 := Lib.hid (K1.out.below hb2)
  have B2 := Lib.hid (B1.out.trans (hb2.mono B1.out.size))
  have N45 := Lib.hid (show w.heap.size < b4 by have := S1.out; simp at this; omega)
  clear hb2 c0 c1 f0 f1
  go_wp2_with fail
  go_loopw [26] (fun i wr => ∃ k : Nat, k ≤ l.length ∧ i = .int .i64 k ∧ Bk wr b4 #[.int .i64 (runC (l.take k)).1.1, .int .i64 (runC (l.take k)).1.2, .int .i64 0] 49 ∧ Bk wr (b4 + 1) #[.int .i64 (runC (l.take k)).2.1, .int .i64 (runC (l.take k)).2.2, .int .i64 0] 49 ∧ Bk wr w.heap.size #[.slice none 0 0, .slice none 0 0] 27 ∧ Below w.heap.size w wr) (fun i _ => l.length - (RowKit.intOf i).toNat)
  case atStart => exact ⟨0, Nat.zero_le _, rfl, by simpa [runC] using K45.out.1, by simpa [runC] using K45.out.2, K2.out, B2.out⟩
  case round =>
    obtain ⟨k, hk, rfl, q4, q5, q0, hbr⟩ := hrel
    have HB := Lib.hid hbr
    have Q0 := Lib.hid q0
    by_cases hlt : k < l.length
    · have i1 : (0 : Int) ≤ (k : Int) := by omega
      have i4 : (k : Int) < (l.length : Int) := by omega
      obtain ⟨vb, vo, rfl, hvc, hvl, hx⟩ := HO.out (by omega)
      have hcell := hx k _ (intVals_get l k hlt)
      rw [← hbr.cell (p := ⟨vb, vo + k, none⟩) hvl] at hcell
      have BT := run_bd TL.out k hk
      have PB := pB_le k (by have := LEN.out; omega)
      have TB := TL.out l[k] (List.getElem_mem hlt)
      have RT := Lib.hid (runC_take hlt)
      obtain ⟨b, hb⟩ : ∃ b, l[k] = b := ⟨_, rfl⟩
      rw [hb] at hcell TB RT
      obtain ⟨st, hst⟩ : ∃ st, runC (l.take k) = st := ⟨_, rfl⟩
      rw [hst] at q4 q5 BT RT
      obtain ⟨⟨a1, a2⟩, v1, v2⟩ := st
      unfold BdT at BT
      simp only at q4 q5 BT
      have m1 := mul30 (show 0 ≤ b ∧ b ≤ 30 by omega) BT.2.1
      have m2 := mul30 (show 0 ≤ b ∧ b ≤ 30 by omega) BT.2.2
      have C1 := Lib.hid (fun W => i_addtP 0 0 0 b v1 v2 0 W (by omega) (by omega) (by omega) (by omega) (by omega) (by omega))
      have C2 := Lib.hid (fun W => i_addtP (0 + b * v1) (0 + b * v2) (0 + b * 0) (-1) a1 a2 0 W (by omega) (by omega) (by omega) (by omega) (by omega) (by omega))
      have RS := Lib.hid (show runC (l.take (k + 1)) = ((v1, v2), (0 + b * v1 + -1 * a1, 0 + b * v2 + -1 * a2)) by rw [RT.out]; unfold stepC; simp only; rw [Int.zero_add, Int.zero_add, Int.neg_one_mul, Int.neg_one_mul]; rfl)
      have RZ := Lib.hid (show 0 + b * 0 + -1 * 0 = (0 : Int) by simp)
      rw [RZ.out] at C2
      generalize 0 + b * v1 + -1 * a1 = n1 at C2 RS
      generalize 0 + b * v2 + -1 * a2 = n2 at C2 RS
      generalize 0 + b * v1 = t1 at C1 C2
      generalize 0 + b * v2 = t2 at C1 C2
      generalize 0 + b * 0 = t3 at C1 C2
      have Q4 := Lib.hid q4
      have Q5 := Lib.hid q5
      clear q4 q5 q0 hbr hx hb hst BT PB TB m1 m2 RT RZ
      go_wp2_with fail
      have n45 := N45.out
      refine T_begin (z := fun k => 7 < k) (S := fun (w' : World) => Bk w' (b4 + 1) #[.int .i64 v1, .int .i64 v2, .int .i64 0] 49 ∧ Bk w' w.heap.size #[.slice none 0 0, .slice none 0 0] 27 ∧ Below w.heap.size w w') (by kernel_rfl) ?_
      show wpAnyT _ _ _ _ _ _ 9 _ _ _
      have hS0 := Lib.hid (show (fun (w' : World) => Bk w' (b4 + 1) #[.int .i64 v1, .int .i64 v2, .int .i64 0] 49 ∧ Bk w' w.heap.size #[.slice none 0 0, .slice none 0 0] 27 ∧ Below w.heap.size w w') (wr.drew) from ⟨Q5.out, Q0.out, HB.out.drew⟩)
      refine T_take (i := 0) (v := .agg #[.int .i64 v1, .int .i64 v2, .int .i64 0]) rfl (by kernel_rfl) (by kernel_rfl) (by kernel_rfl) (by kernel_rfl) (fun _ _ _ h => h) hS0.out (by kernel_rfl) (fun w' hS' => by obtain ⟨g0, g1, g2⟩ := bk3c hS'.1; go_simp) ?_
      refine T_take (i := 1) (v := .agg #[.int .i64 0, .int .i64 0, .int .i64 0]) rfl (by kernel_rfl) (by kernel_rfl) (by kernel_rfl) (by kernel_rfl) (fun _ _ _ h => h) hS0.out (by kernel_rfl) (fun w' hS' => by obtain ⟨g0, g1, g2⟩ := bk3c hS'.1; go_simp) ?_
      refine T_take (i := 2) (v := .int .i64 b) rfl (by kernel_rfl) (by kernel_rfl) (by kernel_rfl) (by kernel_rfl) (fun _ _ _ h => h) hS0.out (by kernel_rfl) (fun w' hS' => by obtain ⟨g0, g1, g2⟩ := bk3c hS'.1; go_simp) ?_
      refine T_take (i := 3) (v := .agg #[.int .i64 v1, .int .i64 v2, .int .i64 0]) rfl (by kernel_rfl) (by kernel_rfl) (by kernel_rfl) (by kernel_rfl) (fun _ _ _ h => h) hS0.out (by kernel_rfl) (fun w' hS' => by obtain ⟨g0, g1, g2⟩ := bk3c hS'.1; go_simp) ?_
      refine T_both (i := 4) (j := 5) rfl rfl (by kernel_rfl) (by kernel_rfl) (by kernel_rfl) ?_ ?_
      · intro K hK
        go_simp
        refine (C1.out _).mono ?_
        rintro e' wT1 ⟨rfl, hb1⟩
        have hS1 := Lib.hid (show (fun (w' : World) => Bk w' (b4 + 1) #[.int .i64 v1, .int .i64 v2, .int .i64 0] 49 ∧ Bk w' w.heap.size #[.slice none 0 0, .slice none 0 0] 27 ∧ Below w.heap.size w w') wT1 from ⟨hS0.out.1.below hb1, hS0.out.2.1.below hb1, hS0.out.2.2.trans (hb1.mono hS0.out.2.2.size)⟩)
        have P3 := Lib.hid ((show Bk wr.drew b4 #[.int .i64 a1, .int .i64 a2, .int .i64 0] 49 from Q4.out).below hb1)
        refine hK.out _ _ hS1.out ?_
        clear hK K
        obtain ⟨p0, p1, p2⟩ := bk3c P3.out
        refine T_step (i := 5) rfl (by kernel_rfl) rfl (by kernel_rfl) ?_
        intro K hK
        go_simp
        refine hK.out _ _ hS1.out ?_
        clear hK K p0 p1 p2
        refine T_step (i := 6) rfl (by kernel_rfl) rfl (by kernel_rfl) ?_
        intro K hK
        go_simp
        refine (C2.out _).mono ?_
        rintro e' wT2 ⟨rfl, hb2⟩
        have hS2 := Lib.hid (show (fun (w' : World) => Bk w' (b4 + 1) #[.int .i64 v1, .int .i64 v2, .int .i64 0] 49 ∧ Bk w' w.heap.size #[.slice none 0 0, .slice none 0 0] 27 ∧ Below w.heap.size w w') wT2 from ⟨hS1.out.1.below hb2, hS1.out.2.1.below hb2, hS1.out.2.2.trans (hb2.mono hS1.out.2.2.size)⟩)
        refine hK.out _ _ hS2.out ?_
        clear hK K
        have P4 := Lib.hid (P3.out.below hb2)
        obtain ⟨p0, p1, p2⟩ := bk3c P4.out
        have pf0 := P4.out.free 0
        have pf1 := P4.out.free 1
        have pf2 := P4.out.free 2
        refine T_step (i := 7) rfl (by kernel_rfl) rfl (by kernel_rfl) ?_
        intro K hK
        go_simp
        have P5 := Lib.hid (((P4.out.set 0 (.int .i64 v1) (by simp)).set 1 (.int .i64 v2) (by simp)).set 2 (.int .i64 0) (by simp))
        have O5 := Lib.hid (show (fun (w' : World) => Bk w' (b4 + 1) #[.int .i64 v1, .int .i64 v2, .int .i64 0] 49 ∧ Bk w' w.heap.size #[.slice none 0 0, .slice none 0 0] 27 ∧ Below w.heap.size w w') (((wT2.setCell ⟨b4, 0, none⟩ (.int .i64 v1)).setCell ⟨b4, 1, none⟩ (.int .i64 v2)).setCell ⟨b4, 2, none⟩ (.int .i64 0)) from ⟨((hS2.out.1.other (by simp) _).other (by simp) _).other (by simp) _, ((hS2.out.2.1.other (by simp; omega) _).other (by simp; omega) _).other (by simp; omega) _, ((hS2.out.2.2.setCell (by simp; omega) _).setCell (by simp; omega) _).setCell (by simp; omega) _⟩)
        refine hK.out _ _ O5.out ?_
        clear hK K p0 p1 p2 pf0 pf1 pf2
        obtain ⟨p0, p1, p2⟩ := bk3c O5.out.1
        have pf0 := O5.out.1.free 0
        have pf1 := O5.out.1.free 1
        have pf2 := O5.out.1.free 2
        refine T_last (i := 8) rfl (by kernel_rfl) (by kernel_rfl) rfl (by kernel_rfl) ?_
        go_simp
        go_wp2
        refine ⟨⟨k + 1, by omega, by go_num, ?_, ?_, ?_, ?_⟩, by simp [RowKit.intOf]; omega⟩
        · rw [RS.out]; exact ((P5.out.other (by simp) _).other (by simp) _).other (by simp) _
        · rw [RS.out]; exact ((O5.out.1.set 0 (.int .i64 n1) (by simp)).set 1 (.int .i64 n2) (by simp)).set 2 (.int .i64 0) (by simp)
        · exact ((O5.out.2.1.other (by simp; omega) _).other (by simp; omega) _).other (by simp; omega) _
        · exact ((O5.out.2.2.setCell (by simp; omega) _).setCell (by simp; omega) _).setCell (by simp; omega) _
      · intro K hK
        obtain ⟨p0, p1, p2⟩ := bk3c Q4.out
        go_simp
        refine hK.out _ _ hS0.out ?_
        clear hK K p0 p1 p2
        refine T_step (i := 4) rfl (by kernel_rfl) rfl (by kernel_rfl) ?_
        intro K hK
        go_simp
        refine (C1.out _).mono ?_
        rintro e' wT1 ⟨rfl, hb1⟩
        have hS1 := Lib.hid (show (fun (w' : World) => Bk w' (b4 + 1) #[.int .i64 v1, .int .i64 v2, .int .i64 0] 49 ∧ Bk w' w.heap.size #[.slice none 0 0, .slice none 0 0] 27 ∧ Below w.heap.size w w') wT1 from ⟨hS0.out.1.below hb1, hS0.out.2.1.below hb1, hS0.out.2.2.trans (hb1.mono hS0.out.2.2.size)⟩)
        have P3 := Lib.hid ((show Bk wr.drew b4 #[.int .i64 a1, .int .i64 a2, .int .i64 0] 49 from Q4.out).below hb1)
        refine hK.out _ _ hS1.out ?_
        clear hK K
        refine T_step (i := 6) rfl (by kernel_rfl) rfl (by kernel_rfl) ?_
        intro K hK
        go_simp
        refine (C2.out _).mono ?_
        rintro e' wT2 ⟨rfl, hb2⟩
        have hS2 := Lib.hid (show (fun (w' : World) => Bk w' (b4 + 1) #[.int .i64 v1, .int .i64 v2, .int .i64 0] 49 ∧ Bk w' w.heap.size #[.slice none 0 0, .slice none 0 0] 27 ∧ Below w.heap.size w w') wT2 from ⟨hS1.out.1.below hb2, hS1.out.2.1.below hb2, hS1.out.2.2.trans (hb2.mono hS1.out.2.2.size)⟩)
        refine hK.out _ _ hS2.out ?_
        clear hK K
        have P4 := Lib.hid (P3.out.below hb2)
        obtain ⟨p0, p1, p2⟩ := bk3c P4.out
        have pf0 := P4.out.free 0
        have pf1 := P4.out.free 1
        have pf2 := P4.out.free 2
        refine T_step (i := 7) rfl (by kernel_rfl) rfl (by kernel_rfl) ?_
        intro K hK
        go_simp
        have P5 := Lib.hid (((P4.out.set 0 (.int .i64 v1) (by simp)).set 1 (.int .i64 v2) (by simp)).set 2 (.int .i64 0) (by simp))
        have O5 := Lib.hid (show (fun (w' : World) => Bk w' (b4 + 1) #[.int .i64 v1, .int .i64 v2, .int .i64 0] 49 ∧ Bk w' w.heap.size #[.slice none 0 0, .slice none 0 0] 27 ∧ Below w.heap.size w w') (((wT2.setCell ⟨b4, 0, none⟩ (.int .i64 v1)).setCell ⟨b4, 1, none⟩ (.int .i64 v2)).setCell ⟨b4, 2, none⟩ (.int .i64 0)) from ⟨((hS2.out.1.other (by simp) _).other (by simp) _).other (by simp) _, ((hS2.out.2.1.other (by simp; omega) _).other (by simp; omega) _).other (by simp; omega) _, ((hS2.out.2.2.setCell (by simp; omega) _).setCell (by simp; omega) _).setCell (by simp; omega) _⟩)
        refine hK.out _ _ O5.out ?_
        clear hK K p0 p1 p2 pf0 pf1 pf2
        obtain ⟨p0, p1, p2⟩ := bk3c O5.out.1
        have pf0 := O5.out.1.free 0
        have pf1 := O5.out.1.free 1
        have pf2 := O5.out.1.free 2
        refine T_last (i := 8) rfl (by kernel_rfl) (by kernel_rfl) rfl (by kernel_rfl) ?_
        go_simp
        go_wp2
        refine ⟨⟨k + 1, by omega, by go_num, ?_, ?_, ?_, ?_⟩, by simp [RowKit.intOf]; omega⟩
        · rw [RS.out]; exact ((P5.out.other (by simp) _).other (by simp) _).other (by simp) _
        · rw [RS.out]; exact ((O5.out.1.set 0 (.int .i64 n1) (by simp)).set 1 (.int .i64 n2) (by simp)).set 2 (.int .i64 0) (by simp)
        · exact ((O5.out.2.1.other (by simp; omega) _).other (by simp; omega) _).other (by simp; omega) _
        · exact ((O5.out.2.2.setCell (by simp; omega) _).setCell (by simp; omega) _).setCell (by simp; omega) _
    · obtain rfl : k = l.length := by omega
      rw [List.take_length] at q4 q5
      clear q0 hbr
      have EF := Lib.hid (coneT_f2 (l := l))
      have ET := Lib.hid (coneT_t OK.out)
      obtain ⟨st, hst⟩ : ∃ st, runC l = st := ⟨_, rfl⟩
      rw [hst] at q4 q5 EF ET
      obtain ⟨⟨a1, a2⟩, v1, v2⟩ := st
      simp only at q4 q5
      have Q5 := Lib.hid q5
      obtain ⟨z0, z1, z2⟩ := bk3c q5
      have zl := q5.lt
      have K3 := Lib.hid (Bk.three wr #[.int .i64 1, .int .i64 0] #[.int .i64 v1, .int .i64 v2] #[.slice (some ⟨wr.heap.size, 0, none⟩) 2 2, .slice (some ⟨wr.heap.size + 1, 0, none⟩) 2 2] 3 3 27)
      have hb3 := below3 wr (.cells #[.int .i64 1, .int .i64 0] 3) (.cells #[.int .i64 v1, .int .i64 v2] 3) (.cells #[.slice (some ⟨wr.heap.size, 0, none⟩) 2 2, .slice (some ⟨wr.heap.size + 1, 0, none⟩) 2 2] 27)
      have B3 := Lib.hid (HB.out.trans (hb3.mono HB.out.size))
      have K03 := Lib.hid (Q0.out.below hb3)
      have SW := Lib.hid HB.out.size
      have SL := Lib.hid (show w.heap.size + 1 ≤ wr.heap.size from Q0.out.lt)
      obtain ⟨⟨y0, y1⟩, -⟩ := K3.out.2.2.two
      have HBS := Lib.hid hb3.size
      clear q4 q5 hb3 hst
      go_wp2_with fail
      obtain ⟨W3, hW3⟩ : ∃ W3, ((wr.alloc (.cells #[.int .i64 1, .int .i64 0] 3)).alloc (.cells #[.int .i64 v1, .int .i64 v2] 3)).alloc (.cells #[.slice (some ⟨wr.heap.size, 0, none⟩) 2 2, .slice (some ⟨wr.heap.size + 1, 0, none⟩) 2 2] 27) = W3 := ⟨_, rfl⟩
      rw [hW3] at K3 B3 K03 HBS ⊢
      have Z3 := Lib.hid (show W3.heap.size = wr.heap.size + 3 by rw [← hW3]; simp)
      clear hW3 y0 y1 z0 z1 z2 zl
      have OU := Lib.hid (own_pair (lo := w.heap.size + 1) (hi := W3.heap.size) K3.out.1 SL.out (by have := Z3.out; omega))
      have OT := Lib.hid (own_pair (lo := w.heap.size + 1) (hi := W3.heap.size) K3.out.2.1 (by have := SL.out; omega) (by have := Z3.out; omega))
      have OC := Lib.hid (show OwC (w.heap.size + 1) W3.heap.size W3 (.slice (some ⟨wr.heap.size, 0, none⟩) 2 2) (.slice (some ⟨wr.heap.size + 1, 0, none⟩) 2 2) ([1, 0], rowOf (v1, v2)) from ⟨OU.out, OT.out, fun b hb hb' => by cases hb; simp [Value.ownBlock] at hb'⟩)
      refine (i_cone ([1, 0], rowOf (v1, v2)) _ _ OC.out.cv).mono ?_
      rintro e w4 ⟨rfl, hb4⟩
      have KT := Lib.hid (K3.out.2.2.below hb4)
      have K04 := Lib.hid (K03.out.below hb4)
      have B4 := Lib.hid (B3.out.trans (hb4.mono B3.out.size))
      have OC4 := Lib.hid (OC.out.below hb4)
      have S4 := Lib.hid hb4.size
      obtain ⟨⟨c0, c1⟩, f0, f1⟩ := K04.out.two
      obtain ⟨⟨y0, y1⟩, -⟩ := KT.out.two
      clear hb4
      cases hc : coneR ([1, 0], rowOf (v1, v2))
      · have E := Lib.hid (EF.out hc)
        clear hc
        go_wp2
        refine bodyPost_ret (v := .tuple #[.agg #[.slice none 0 0, .slice none 0 0], .bool false]) ?_ rfl (got_cone E.out ⟨⟨_, rfl, _, _, rfl, OwC.nil⟩, (B4.out.setCell (by simp) _).setCell (by simp) _⟩)
        simp [results, Try.results28, go_sem, c0, c1]
      · have E := Lib.hid (ET.out hc)
        clear hc
        go_wp2
        refine bodyPost_ret (v := .tuple #[.agg #[.slice (some ⟨wr.heap.size, 0, none⟩) 2 2, .slice (some ⟨wr.heap.size + 1, 0, none⟩) 2 2], .bool true]) ?_ rfl (got_cone E.out ⟨⟨_, rfl, _, _, rfl, ?_⟩, (B4.out.setCell (by simp) _).setCell (by simp) _⟩)
        · simp [results, Try.results28, go_sem, c0, c1]
        · exact (OC4.out.kept (((Kept.refl w.heap.size (w.heap.size + 1) w4).setCell (by simp) (by simp) _).setCell (by simp) (by simp) _) (.inr (Nat.le_refl _))).mono (by omega) (by simpa [World.setCell] using S4.out)
end Go.Proofs.Ytoekgcafhcamjab
/- The model's ConeOfTurns. -/
namespace Go.Proofs.Ytoekgcafhcamjab
open Go Go.RowKit Go.Lib

theorem small_cn {p : P2} (h : small (rowOf p) 30 = true) : Cn30 p := ⟨small_get h 0 (by simp [rowOf]), small_get h 1 (by simp [rowOf])⟩
theorem cn_small {p : P2} (h : Cn30 p) : small (rowOf p) 30 = true := by
  unfold small rowOf
  simp only [List.all_cons, List.all_nil, Bool.and_true, inR_mk h.1.1 h.1.2, inR_mk h.2.1 h.2.2]
/-- A number that is no turn, a vector that is too great: no cone. -/
theorem coneT_bad {l : List Int} {k : Nat} (h : k < l.length) (h2 : inR l[k] 2 30 = false) : coneTR l = (([], []), false) := coneT_f1 (by rw [okT_e, tall_not h h2]; simp)
theorem coneT_big {l : List Int} {k : Nat} (h : k ≤ l.length) (h2 : ¬ Cn30 (runC (l.take k)).2) : coneTR l = (([], []), false) := by
  cases hok : okT l with
  | false => exact coneT_f1 hok
  | true =>
    refine coneT_f2 ?_
    cases hc : coneR ([1, 0], rowOf (runC l).2) with
    | false => rfl
    | true =>
      exfalso
      have h3 := run_late (fun x hx => ((okT_t hok).2.2 x hx).1) h h2
      exact h3 (coneR_t hc).2.2.2.2.1
theorem bd30 {p : P2} (h : Cn30 p) : Bd (rowOf p) 30 := fun k hk => by
  rcases (by simp [rowOf] at hk; omega : k = 0 ∨ k = 1) with rfl | rfl
  · exact h.1
  · exact h.2
theorem bd_wide {p : P2} {n m : Int} (h : Bd (rowOf p) n) (hm : n ≤ m) : Bd (rowOf p) m := fun k hk => by have := h k hk; omega
set_option maxRecDepth 100000 in
set_option maxHeartbeats 3200000 in
theorem s_conet (l : List Int) (v : Value) (w : World) (hv : Sl w v (intVals l)) :
    Calls Try.prog 27 #[v] w (GotC w (coneTR l)) := by
  obtain ⟨va, vc, rfl, hm, hopen⟩ := hv.shape
  rw [intVals_len] at hm hopen ⊢
  unfold maxLen at hm
  have HO := Lib.hid hopen
  have K0 := Lib.hid (Bk.new w #[.slice none 0 0, .slice none 0 0] 27)
  have B0 := Lib.hid (below1 w (.cells #[.slice none 0 0, .slice none 0 0] 27))
  obtain ⟨⟨c0, c1⟩, f0, f1⟩ := K0.out.two
  clear hv hopen
  by_cases h1 : inR l.length 1 10 = true
  case neg =>
    have H1 := Lib.hid (bool_f h1)
    have E := Lib.hid (coneT_f1 (l := l) (by rw [okT_e, bool_f h1]; rfl))
    clear h1
    go_enter Try.func27, Try.ntmps27
    go_wp2_with fail
    refine (s_in _ _ _ _).mono ?_
    rintro e w1 ⟨rfl, rfl⟩
    rw [H1.out]
    go_wp2
    refine bodyPost_ret (v := .tuple #[.agg #[.slice none 0 0, .slice none 0 0], .bool false]) ?_ rfl (got_cone E.out ⟨⟨_, rfl, _, _, rfl, OwC.nil⟩, B0.out⟩)
    simp [results, Try.results27, go_sem, c0, c1]
  have H1 := Lib.hid h1
  have LEN := Lib.hid (inR_t h1)
  clear h1
  have K2 := Lib.hid (Bk.pair (w.alloc (.cells #[.slice none 0 0, .slice none 0 0] 27)) #[.int .i64 1, .int .i64 0] #[.int .i64 0, .int .i64 1] 3 3)
  have hb2 := below2 (w.alloc (.cells #[.slice none 0 0, .slice none 0 0] 27)) (.cells #[.int .i64 1, .int .i64 0] 3) (.cells #[.int .i64 0, .int .i64 1] 3)
  have K3 := Lib.hid (K0.out.below hb2)
  have B2 := Lib.hid (B0.out.trans (hb2.mono B0.out.size))
  clear hb2 c0 c1 f0 f1
  go_enter Try.func27, Try.ntmps27
  go_wp2_with fail
  refine (s_in _ _ _ _).mono ?_
  rintro e w1 ⟨rfl, rfl⟩
  rw [H1.out]
  go_wp2_with fail
  go_loopw [4, 5, 6] (fun a b i wr => ∃ (k : Nat) (p q : P2), k ≤ l.length ∧ i = .int .i64 k ∧ runC (l.take k) = (p, q) ∧ tallR (l.take k) = true ∧ Cn30 p ∧ Cn30 q ∧ Sl wr a (intVals (rowOf p)) ∧ OwnV 3 (w.heap.size + 1) wr.heap.size wr b (intVals (rowOf q)) ∧ Bk wr w.heap.size #[.slice none 0 0, .slice none 0 0] 27 ∧ Below w.heap.size w wr) (fun _ _ i _ => l.length - (RowKit.intOf i).toNat)
  case atStart => exact ⟨0, (1, 0), (0, 1), Nat.zero_le _, rfl, rfl, rfl, by unfold Cn30; simp, by unfold Cn30; simp, by have h := (own_two (lo := 0) K2.out.1 (Nat.zero_le _) (Nat.lt_succ_self _)).sl; simpa using h, by have h := own_two (lo := w.heap.size + 1) K2.out.2 (by simp) (Nat.lt_succ_self _); simpa using h, K3.out, B2.out⟩
  case round =>
    obtain ⟨k, p, q, hk, rfl, hrun, htall, hcp, hcq, hp, hq, hk0, hbr⟩ := hrel
    have HB := Lib.hid hbr
    have KR := Lib.hid hk0
    have HP := Lib.hid hp
    have HQ := Lib.hid hq
    have RUN := Lib.hid hrun
    have TAL := Lib.hid htall
    have CP := Lib.hid hcp
    have CQ := Lib.hid hcq
    obtain ⟨pb, po, pc, rfl, _, _, _, _⟩ := row_cells hp
    obtain ⟨qb, qc, rfl, _, _⟩ := hq.form (by simp [intVals, rowOf])
    rw [show (intVals (rowOf q)).length = 2 from rfl] at HQ ⊢
    obtain ⟨⟨c0, c1⟩, f0, f1⟩ := KR.out.two
    clear hrun htall hcp hcq hp hq hk0
    by_cases hlt : k < l.length
    · have i1 : (0 : Int) ≤ (k : Int) := by omega
      have i4 : (k : Int) < (l.length : Int) := by omega
      obtain ⟨vb, vo, rfl, hvc, hvl, hx⟩ := HO.out (by omega)
      have hcell := hx k _ (intVals_get l k hlt)
      rw [← hbr.cell (p := ⟨vb, vo + k, none⟩) hvl] at hcell
      have RT := Lib.hid (runC_take hlt)
      have BAD := Lib.hid (coneT_bad hlt)
      have TT := Lib.hid (tall_take hlt TAL.out)
      have BIG := Lib.hid (coneT_big (l := l) (k := k + 1) hlt)
      obtain ⟨z, hz⟩ : ∃ z, l[k] = z := ⟨_, rfl⟩
      rw [hz] at hcell RT BAD TT
      clear hz hbr hx
      cases hin : inR z 2 30
      · have E := Lib.hid (BAD.out hin)
        have HI := Lib.hid hin
        clear hin
        go_wp2_with fail
        refine (s_in _ _ _ _).mono ?_
        rintro e w1 ⟨rfl, rfl⟩
        rw [HI.out]
        go_wp2
        refine bodyPost_ret (v := .tuple #[.agg #[.slice none 0 0, .slice none 0 0], .bool false]) ?_ rfl (got_cone E.out ⟨⟨_, rfl, _, _, rfl, OwC.nil⟩, (HB.out.setCell (by simp) _).setCell (by simp) _⟩)
        simp [results, Try.results27, go_sem, c0, c1]
      have HI := Lib.hid hin
      have TK := Lib.hid (TT.out hin)
      have zb := inR_t hin
      clear hin
      go_wp2_with fail
      refine (s_in _ _ _ _).mono ?_
      rintro e w1 ⟨rfl, rfl⟩
      rw [HI.out]
      go_wp2_with fail
      refine (s_scale (rowOf q) (by simp [rowOf]) 30 30 z (bd30 CQ.out) (by omega) (by omega) (by omega) _ _ HQ.out.sl).mono ?_
      rintro e w2 ⟨⟨y, rfl, hy⟩, hb2⟩
      have HY := Lib.hid (show OwnV _ _ _ _ _ (intVals (rowOf (q.1 * z, q.2 * z))) from hy)
      have HB2 := Lib.hid (HB.out.trans (hb2.mono HB.out.size))
      have HP2 := Lib.hid (HP.out.below hb2)
      have HQ2 := Lib.hid ((HQ.out.below hb2).mono (Nat.le_refl _) hb2.size)
      have KR2 := Lib.hid (KR.out.below hb2)
      have m1 := mul30 (b := z) (x := q.1) (n := 30) (by omega) CQ.out.1
      have m2 := mul30 (b := z) (x := q.2) (n := 30) (by omega) CQ.out.2
      rw [Int.mul_comm z] at m1 m2
      have D2 := Lib.hid (show Bd (rowOf (q.1 * z, q.2 * z)) 1000 from fun k hk => by
        rcases (by simp [rowOf] at hk; omega : k = 0 ∨ k = 1) with rfl | rfl
        · show -1000 ≤ q.1 * z ∧ q.1 * z ≤ 1000; omega
        · show -1000 ≤ q.2 * z ∧ q.2 * z ≤ 1000; omega)
      obtain ⟨ya, yc, rfl, _⟩ := hy.shape1
      clear hb2 hy m1 m2 c0 c1 f0 f1
      go_wp2_with fail
      refine (s_lessP (rowOf (q.1 * z, q.2 * z)) (rowOf p) rfl (by simp [rowOf]) 1000 (by omega) D2.out (bd_wide (bd30 CP.out) (by omega)) _ _ _ HY.out.sl HP2.out).mono ?_
      rintro e w3 ⟨⟨x, rfl, hx⟩, hb3⟩
      have RN := Lib.hid (show runC (l.take (k + 1)) = (q, (q.1 * z - p.1, q.2 * z - p.2)) by rw [RT.out, RUN.out]; unfold stepC; simp only; rw [Int.mul_comm z, Int.mul_comm z])
      obtain ⟨n, hn⟩ : ∃ n, ((q.1 * z - p.1, q.2 * z - p.2) : P2) = n := ⟨_, rfl⟩
      have hx : OwnV 3 w2.heap.size w3.heap.size w3 x (intVals (rowOf (q.1 * z - p.1, q.2 * z - p.2))) := hx
      rw [hn] at RN hx
      have HX := Lib.hid hx
      have HB3 := Lib.hid (HB2.out.trans (hb3.mono HB2.out.size))
      have HQ3 := Lib.hid ((HQ2.out.below hb3).mono (Nat.le_refl _) hb3.size)
      have KR3 := Lib.hid (KR2.out.below hb3)
      obtain ⟨xb, xc, rfl, _, _⟩ := hx.form (by simp [intVals, rowOf])
      rw [show (intVals (rowOf n)).length = 2 from rfl] at HX ⊢
      have HLO := Lib.hid (show w.heap.size + 1 ≤ w2.heap.size from KR2.out.lt)
      clear hb3 hx hn
      go_wp2_with fail
      refine (s_small (rowOf n) 30 (by omega) (by omega) _ _ HX.out.sl).mono ?_
      rintro e w4 ⟨rfl, hb4⟩
      have KR4 := Lib.hid (KR3.out.below hb4)
      have HB4 := Lib.hid (HB3.out.trans (hb4.mono HB3.out.size))
      have HX4 := Lib.hid ((HX.out.below hb4).mono HLO.out hb4.size)
      have HQ4 := Lib.hid ((HQ3.out.below hb4).sl)
      obtain ⟨⟨c0, c1⟩, f0, f1⟩ := KR4.out.two
      clear hb4
      cases hsm : small (rowOf n) 30
      · have E := Lib.hid (BIG.out (by rw [RN.out]; intro hc; rw [cn_small hc] at hsm; cases hsm))
        clear hsm
        go_wp2
        refine bodyPost_ret (v := .tuple #[.agg #[.slice none 0 0, .slice none 0 0], .bool false]) ?_ rfl (got_cone E.out ⟨⟨_, rfl, _, _, rfl, OwC.nil⟩, (HB4.out.setCell (by simp) _).setCell (by simp) _⟩)
        simp [results, Try.results27, go_sem, c0, c1]
      have CN := Lib.hid (small_cn hsm)
      clear hsm c0 c1 f0 f1
      go_wp2
      exact ⟨⟨k + 1, q, n, by omega, by go_num, RN.out, TK.out, CQ.out, CN.out, HQ4.out, HX4.out, KR4.out, HB4.out⟩, by simp [RowKit.intOf]; omega⟩
    · obtain rfl : k = l.length := by omega
      have OK := Lib.hid (show okT l = true by have h := TAL.out; rw [List.take_length] at h; rw [okT_e, H1.out, h]; rfl)
      have hr2 : (runC l).2 = q := by have h := RUN.out; rw [List.take_length] at h; rw [h]
      have EF := Lib.hid (coneT_f2 (l := l))
      have ET := Lib.hid (coneT_t OK.out)
      rw [hr2] at EF ET
      clear hr2 hbr
      have K4 := Lib.hid (Bk.pair wr #[.int .i64 1, .int .i64 0] #[.slice (some ⟨wr.heap.size, 0, none⟩) 2 2, .slice (some ⟨qb, 0, none⟩) 2 qc] 3 27)
      have hb3 := below2 wr (.cells #[.int .i64 1, .int .i64 0] 3) (.cells #[.slice (some ⟨wr.heap.size, 0, none⟩) 2 2, .slice (some ⟨qb, 0, none⟩) 2 qc] 27)
      have B3 := Lib.hid (HB.out.trans (hb3.mono HB.out.size))
      have K03 := Lib.hid (KR.out.below hb3)
      have HQ3 := Lib.hid (HQ.out.below hb3)
      have SL := Lib.hid (show w.heap.size + 1 ≤ wr.heap.size from KR.out.lt)
      have QL := Lib.hid (HQ.out.place (b := qb) rfl)
      obtain ⟨⟨y0, y1⟩, -⟩ := K4.out.2.two
      clear hb3 c0 c1 f0 f1
      go_wp2_with fail
      obtain ⟨W3, hW3⟩ : ∃ W3, (wr.alloc (.cells #[.int .i64 1, .int .i64 0] 3)).alloc (.cells #[.slice (some ⟨wr.heap.size, 0, none⟩) 2 2, .slice (some ⟨qb, 0, none⟩) 2 qc] 27) = W3 := ⟨_, rfl⟩
      rw [hW3] at K4 B3 K03 HQ3 ⊢
      have Z3 := Lib.hid (show W3.heap.size = wr.heap.size + 2 by rw [← hW3]; simp)
      clear hW3 y0 y1
      have OU := Lib.hid (own_two (lo := w.heap.size + 1) (hi := W3.heap.size) K4.out.1 SL.out (by have := Z3.out; omega))
      have OC := Lib.hid (show OwC (w.heap.size + 1) W3.heap.size W3 (.slice (some ⟨wr.heap.size, 0, none⟩) 2 2) (.slice (some ⟨qb, 0, none⟩) 2 qc) ([1, 0], rowOf q) from ⟨OU.out, HQ3.out.mono (Nat.le_refl _) (by have := Z3.out; omega), fun b hb hb' => by cases hb; have := QL.out.2.2; simp [Value.ownBlock] at hb'; omega⟩)
      refine (s_cone ([1, 0], rowOf q) _ _ OC.out.cv).mono ?_
      rintro e w4 ⟨rfl, hb4⟩
      have KT := Lib.hid (K4.out.2.below hb4)
      have K04 := Lib.hid (K03.out.below hb4)
      have B4 := Lib.hid (B3.out.trans (hb4.mono B3.out.size))
      have OC4 := Lib.hid (OC.out.below hb4)
      have S4 := Lib.hid hb4.size
      obtain ⟨⟨c0, c1⟩, f0, f1⟩ := K04.out.two
      obtain ⟨⟨y0, y1⟩, -⟩ := KT.out.two
      clear hb4
      cases hc : coneR ([1, 0], rowOf q)
      · have E := Lib.hid (EF.out hc)
        clear hc
        go_wp2
        refine bodyPost_ret (v := .tuple #[.agg #[.slice none 0 0, .slice none 0 0], .bool false]) ?_ rfl (got_cone E.out ⟨⟨_, rfl, _, _, rfl, OwC.nil⟩, (B4.out.setCell (by simp) _).setCell (by simp) _⟩)
        simp [results, Try.results27, go_sem, c0, c1]
      · have E := Lib.hid (ET.out hc)
        clear hc
        go_wp2
        refine bodyPost_ret (v := .tuple #[.agg #[.slice (some ⟨wr.heap.size, 0, none⟩) 2 2, .slice (some ⟨qb, 0, none⟩) 2 qc], .bool true]) ?_ rfl (got_cone E.out ⟨⟨_, rfl, _, _, rfl, ?_⟩, (B4.out.setCell (by simp) _).setCell (by simp) _⟩)
        · simp [results, Try.results27, go_sem, c0, c1]
        · exact (OC4.out.kept (((Kept.refl w.heap.size (w.heap.size + 1) w4).setCell (by simp) (by simp) _).setCell (by simp) (by simp) _) (.inr (Nat.le_refl _))).mono (by omega) (by simpa [World.setCell] using S4.out)
end Go.Proofs.Ytoekgcafhcamjab
/- The model's TurnsOf. -/
namespace Go.Proofs.Ytoekgcafhcamjab
open Go Go.RowKit Go.Lib

theorem turnsP_get : ∀ (L : List P2) (i : Nat) (h : i + 2 < L.length), (turnsP L)[i]? = some (crP (L[i]'(by omega)) (L[i + 2]'h))
  | x :: y :: z :: r, 0, _ => rfl
  | x :: y :: z :: r, i + 1, h => by
    rw [turnsP]
    have := turnsP_get (y :: z :: r) i (by simp at h ⊢; omega)
    simpa using this
  | [], _, h => by simp at h
  | [_], _, h => by simp at h
  | [_, _], _, h => by simp only [List.length_cons, List.length_nil] at h; omega
theorem chain_get {v : P2} : ∀ (L : List P2) (i : Nat) (h : i + 1 < L.length), Chain v L → crP (L[i]'(by omega)) (L[i + 1]'h) = 1
  | x :: y :: r, 0, _, hc => hc.1
  | x :: y :: r, i + 1, h, hc => by
    have := chain_get (y :: r) i (by simp at h ⊢; omega) hc.2.2.2.2
    simpa using this
  | [], _, h, _ => by simp at h
  | [_], _, h, _ => by simp at h
theorem turns_take {L : List P2} {i : Nat} (h : i + 2 < L.length) : (turnsP L).take (i + 1) = (turnsP L).take i ++ [crP (L[i]'(by omega)) (L[i + 2]'h)] := by
  have hl : i < (turnsP L).length := by rw [turnsP_len]; omega
  rw [List.take_succ_eq_append_getElem hl]
  have := turnsP_get L i h
  rw [List.getElem?_eq_getElem hl] at this
  rw [Option.some.inj this]
theorem wp_app_two {o : Oper} {a : Act} {w : World} {K : Act → World → Prop} {Q : Exit → Act → World → Prop} (s x : Operand)
    (ho : o.op = .call { callee := .builtin .append, args := #[s, x], argTypes := #[22, 22] })
    (base : Nat) (v : Value) (xs : List Int) (z : Int) (hs : a.eval s = v) (hown : w.ownsRow base 3 1 v xs.length (intVals xs))
    (H : Nat) (hx : a.eval x = .slice (some ⟨H, 0, none⟩) 1 1) (hnew : w.heap[H]? = some (.cells #[.int .i64 z] 3 (0, 0)))
    (hn : xs.length ≤ 1048576) (hbase : base ≤ w.heap.size)
    (k : ∀ g cap w', w'.ownsRow base 3 1 (.slice (some ⟨g, 0, none⟩) (xs.length + 1) cap) (xs.length + 1) (intVals (xs ++ [z])) → w.grownBy w' v.ownBlock → (v.ownBlock = some g ∨ w.heap.size ≤ g) → K (a.put o.dst (.slice (some ⟨g, 0, none⟩) (xs.length + 1) cap)) w') : o.wp Try.prog a w K Q := by
  obtain ⟨i0, hi, hz0, hz1, hz2⟩ := info_parts info_int'
  refine wp_append_lies w s x 22 ho base 3 i0 _ 1 8 Try.underlying22 hi hz0 hz1 hz2 rfl (by omega) v xs.length _ hs hown ⟨H, 0, none⟩ 1 1 [.int .i64 z] hx rfl (World.news_of_block (cs := #[.int .i64 z]) hnew) (by simp [Value.oneCell']) (by omega) (by unfold maxLen; omega) (by omega) hbase w.heap.size rfl ?_
  intro g cap w' h1 h2 h3 h4
  exact k g cap w' (by simpa [intVals] using h1) h2 (h3.elim .inl (fun h => .inr (by omega)))
theorem bit_of (b : Bool) (w : World) : Calls Try.prog 42 #[.bool b] w fun e w' => e = .returned (.int .i64 (if b = true then 1 else 0)) ∧ w = w' := by
  cases b with
  | true =>
    go_enter Try.func42, Try.ntmps42
    go_wp2
    go_ret
    exact ⟨rfl, rfl⟩
  | false =>
    go_enter Try.func42, Try.ntmps42
    go_wp2
    go_ret
    exact ⟨rfl, rfl⟩
/-- What the loop meets at three neighbors. -/
theorem three_at {v : P2} {L : List P2} (hc : Chain v L) (h30 : ∀ p ∈ L, Cn30 p) {j : Nat} (h1 : 1 ≤ j) (h2 : j + 1 < L.length) :
    ∃ (x y z : P2) (t : Int), L[j - 1]? = some x ∧ L[j]? = some y ∧ L[j + 1]? = some z ∧ Cn30 x ∧ Cn30 y ∧ Cn30 z ∧ crP x y = 1 ∧ x.1 + z.1 = t * y.1 ∧ x.2 + z.2 = t * y.2 ∧ (turnsP L).take j = (turnsP L).take (j - 1) ++ [t] ∧ -1800 ≤ t ∧ t ≤ 1800 := by
  have e1 := chain_get L (j - 1) (by omega) hc
  have e2 := chain_get L j (by omega) hc
  have hx := h30 (L[j - 1]'(by omega)) (List.getElem_mem _)
  have hz := h30 (L[j + 1]'(by omega)) (List.getElem_mem _)
  have e3 := turns_take (L := L) (i := j - 1) (by omega)
  obtain ⟨i, rfl⟩ : ∃ i, j = i + 1 := ⟨j - 1, by omega⟩
  simp only [Nat.add_sub_cancel] at *
  obtain ⟨s1, s2⟩ := turn_sum e1 e2
  have bd := cr_bd hx hz
  exact ⟨_, _, _, _, List.getElem?_eq_getElem (by omega), List.getElem?_eq_getElem (by omega), List.getElem?_eq_getElem (by omega), hx, h30 _ (List.getElem_mem _), hz, e1, s1, s2, e3, bd.1, bd.2⟩
set_option maxRecDepth 100000 in
set_option maxHeartbeats 3200000 in
theorem s_cturns (c : Cn) (v : Value) (w : World) (hv : Cv w v c) :
    Calls Try.prog 23 #[v] w (Made w (cturnsR c)) := by
  have HC := Lib.hid hv
  obtain ⟨u, t, rfl, hs, ht⟩ := hv
  have K := Lib.hid (Bk.new w #[u, t] 27)
  have B1 := Lib.hid (below2 w (.cells #[u, t] 27) (.cells #[] 3))
  have KE := Lib.hid (K.out.alloc (.cells #[] 3))
  obtain ⟨⟨l0, l1⟩, -⟩ := KE.out.two
  clear hs ht
  obtain ⟨L, hL, hT, hlen, h3⟩ : ∃ L : List P2, splitR c = L.map rowOf ∧ cturnsR c = turnsP L ∧ L.length ≤ 1801 ∧ ∃ V, Chain V L ∧ ∀ p ∈ L, Cn30 p := by
    cases hc : coneR c with
    | false => exact ⟨[], by unfold splitR; rw [hc]; rfl, by unfold cturnsR; rw [hc]; rfl, by simp, (0, 0), trivial, fun p hp => by simp at hp⟩
    | true =>
      have RR := (coneR_t hc).2.2.2
      exact ⟨raysL (ptOf c.1) (ptOf c.2), by unfold splitR; rw [hc]; rfl, by unfold cturnsR; rw [hc]; rfl, raysL_len RR, ptOf c.2, (raysL_chain RR).1, raysF_30 RR.2.1 _ _ RR⟩
  obtain ⟨V, hch, h30⟩ := h3
  have TH := Lib.hid (fun j h1 h2 => three_at hch h30 (j := j) h1 h2)
  have ET := Lib.hid hT
  have CS := Lib.hid (fun A W hA => s_split c A W hA)
  rw [hL] at CS
  clear hL hT hch h30
  go_enter Try.func23, Try.ntmps23
  go_wp2_with fail
  refine (CS.out _ _ (HC.out.below B1.out)).mono ?_
  rintro e w2 ⟨⟨lv, rfl, hlv⟩, hb⟩
  have B2 := Lib.hid (B1.out.trans (hb.mono B1.out.size))
  obtain ⟨la, lc, rfl, hlm, _⟩ := hlv.rw.shape
  have hlv2 := hlv.mono (lo' := w.heap.size + 2) (by simp) (Nat.le_refl _)
  rw [List.length_map] at hlm hlv2 ⊢
  unfold maxLen at hlm
  have OE := Lib.hid (show OwnV 3 (w.heap.size + 1) (w.heap.size + 2) w2 (.slice (some ⟨w.heap.size + 1, 0, none⟩) 0 0) (intVals []) by
    have h := OwnV.of_owns (owns_none (w := w.alloc (.cells #[u, t] 27)) (base := w.heap.size + 1) (e := 3) (by simp))
    have h2 := h.below hb
    simpa [intVals] using h2)
  have SZ := Lib.hid (show w.heap.size + 2 ≤ w2.heap.size by have := hb.size; simp at this; omega)
  clear hb hlv l0 l1
  have HLV := Lib.hid hlv2
  clear hlv2
  go_wp2_with fail
  go_loopw [3, 5] (fun o i wr => ∃ (j : Nat) (done : List Int) (ob oc : Nat), 1 ≤ j ∧ i = .int .i64 j ∧ (j = 1 ∨ j + 1 ≤ L.length) ∧ done = (turnsP L).take (j - 1) ∧ o = .slice (some ⟨ob, 0, none⟩) done.length oc ∧ OwnV 3 (w.heap.size + 1) wr.heap.size wr (.slice (some ⟨ob, 0, none⟩) done.length oc) (intVals done) ∧ (ob < w.heap.size + 2 ∨ w2.heap.size ≤ ob) ∧ Mid (w.heap.size + 2) w2.heap.size w2 wr ∧ w2.heap.size ≤ wr.heap.size ∧ Below w.heap.size w wr) (fun _ i _ => L.length + 1 - (RowKit.intOf i).toNat)
  case atStart => exact ⟨1, [], w.heap.size + 1, 0, Nat.le_refl _, rfl, .inl rfl, rfl, rfl, OE.out.mono (Nat.le_refl _) SZ.out, .inl (Nat.lt_succ_self _), Mid.refl _ _ _, Nat.le_refl _, B2.out⟩
  case round =>
    obtain ⟨j, done, ob, oc, hj1, rfl, hj2, hdone, rfl, ho, hob, hmid, hws, hbr⟩ := hrel
    have HO := Lib.hid ho
    have HB := Lib.hid hbr
    have HOB := Lib.hid hob
    have HMID := Lib.hid hmid
    have HWS := Lib.hid hws
    have hjL : j ≤ L.length + 1 := by omega
    have HD := Lib.hid hdone
    have hdl : done.length ≤ 1048576 := by rw [hdone, List.length_take, turnsP_len]; omega
    clear ho hbr hob hmid hdone hws
    by_cases hlt : j + 1 < L.length
    · obtain ⟨x, y, z, t, ex, ey, ez, cx, cy, cz, cxy, s1, s2, htk, tb1, tb2⟩ := TH.out j hj1 hlt
      obtain ⟨jm, hjm⟩ : ∃ jm, j = jm + 1 := ⟨j - 1, by omega⟩
      obtain ⟨jp, hjp⟩ : ∃ jp, jp = j + 1 := ⟨_, rfl⟩
      have RWr := (HLV.out.mid HMID.out).rw
      have mg : ∀ {i : Nat} {p : P2}, L[i]? = some p → ∃ (hi : i < (L.map rowOf).length), (L.map rowOf)[i] = rowOf p := fun {i p} h => ⟨by rw [List.length_map]; exact lt_of_get h, by rw [List.getElem_map]; have := List.getElem?_eq_getElem (lt_of_get h); rw [h] at this; exact congrArg rowOf (Option.some.inj this).symm⟩
      obtain ⟨hix, gx⟩ := mg ex
      obtain ⟨hiy, gy⟩ := mg ey
      obtain ⟨hiz, gz⟩ := mg ez
      obtain ⟨lb, lo, rx, e0, hlbr, hcx, hsx⟩ := RWr.row (j - 1) hix rfl
      subst e0
      obtain ⟨lb', lo', ry, e0, _, hcy, hsy⟩ := RWr.row j hiy rfl
      simp only [Option.some.injEq, Addr.mk.injEq, and_true] at e0
      obtain ⟨rfl, rfl⟩ := e0
      obtain ⟨lb', lo', rz, e0, _, hcz, hsz⟩ := RWr.row (j + 1) hiz rfl
      simp only [Option.some.injEq, Addr.mk.injEq, and_true] at e0
      obtain ⟨rfl, rfl⟩ := e0
      rw [gx] at hsx
      rw [gy] at hsy
      rw [gz] at hsz
      obtain ⟨xb, xo, xc, rfl, _, _, _, _⟩ := row_cells hsx
      obtain ⟨yb, yo, yc, rfl, _, hly, hy0, hy1⟩ := row_cells hsy
      obtain ⟨zb, zo, zc, rfl, _, _, _, _⟩ := row_cells hsz
      have NEY : (w.heap.size + 2 ≤ lb ∧ lb < w2.heap.size) ∧ (w.heap.size + 2 ≤ yb ∧ yb < w2.heap.size) := by
        obtain ⟨b, u', e1, p1, p2, _, hcu, _, hou, _, _⟩ := (HLV.out.mid HMID.out).at j hiy rfl
        simp only [Option.some.injEq, Addr.mk.injEq, and_true] at e1
        obtain ⟨rfl, rfl⟩ := e1
        rw [Nat.zero_add, hcu] at hcy
        obtain rfl := Option.some.inj hcy
        have := hou.place (b := yb) rfl
        exact ⟨⟨p1, p2⟩, this.1, this.2.1⟩
      have NE1 := Lib.hid (show lb ≠ ob by have := HOB.out; omega)
      have NE2 := Lib.hid (show yb ≠ ob by have := HOB.out; omega)
      clear NEY
      have CA := Lib.hid (fun W (hb : Below wr.heap.size wr W) => s_add (rowOf x) (rowOf z) rfl (by simp [rowOf]) 30 (by omega) (bd30 cx) (bd30 cz) (.slice (some ⟨xb, xo, none⟩) 2 xc) (.slice (some ⟨zb, zo, none⟩) 2 zc) W (hsx.below hb) (hsz.below hb))
      rw [show j - 1 = jm by omega] at hcx
      rw [← hjp] at hcz
      have j1 : IntKind.i64.wrap ((j : Int) - 1) = (jm : Int) := by rw [IntWalk.i64_in _ (by omega)]; omega
      have j2 : IntKind.i64.wrap ((j : Int) + 1) = (jp : Int) := by rw [IntWalk.i64_in _ (by omega)]; omega
      have j3 : (jp : Int) < (L.length : Int) := by omega
      have j4 : (0 : Int) ≤ (jm : Int) := by omega
      have j5 : (jm : Int) < (L.length : Int) := by omega
      have j6 : (0 : Int) ≤ (jp : Int) := by omega
      have j7 : (0 : Int) ≤ (j : Int) := by omega
      have j8 : (j : Int) < (L.length : Int) := by omega
      have TK := Lib.hid htk
      have FY := Lib.hid (And.intro cy (And.intro s1 (And.intro s2 cxy)))
      have JJ := Lib.hid (And.intro hjm hjp)
      have LT := Lib.hid hlt
      clear hix hiy hiz gx gy gz hsx hsz hsy mg RWr ex ey ez cx cy cz cxy s1 s2 htk hjm hjp hlt hj2
      go_wp2_with fail
      refine T_begin (z := fun k => 10 < k) (S := fun (w' : World) => w'.cell? ⟨lb, lo + jm, none⟩ = some (.slice (some ⟨xb, xo, none⟩) 2 xc) ∧ w'.cell? ⟨lb, lo + jp, none⟩ = some (.slice (some ⟨zb, zo, none⟩) 2 zc) ∧ Below wr.heap.size wr w') (by kernel_rfl) ?_
      show wpAnyT _ _ _ _ _ _ 12 _ _ _
      have hS0 := Lib.hid (show (fun (w' : World) => w'.cell? ⟨lb, lo + jm, none⟩ = some (.slice (some ⟨xb, xo, none⟩) 2 xc) ∧ w'.cell? ⟨lb, lo + jp, none⟩ = some (.slice (some ⟨zb, zo, none⟩) 2 zc) ∧ Below wr.heap.size wr w') (wr.drew) from ⟨hcx, hcz, (Below.refl _ _).drew⟩)
      refine T_take (i := 0) (v := .slice (some ⟨lb, lo, none⟩) L.length lc) rfl (by kernel_rfl) (by kernel_rfl) (by kernel_rfl) (by kernel_rfl) (fun _ _ _ h => h) hS0.out (by kernel_rfl) (fun w' hS' => by obtain ⟨h0, h1, -⟩ := hS'; go_simp) ?_
      refine T_take (i := 1) (v := .int .i64 j) rfl (by kernel_rfl) (by kernel_rfl) (by kernel_rfl) (by kernel_rfl) (fun _ _ _ h => h) hS0.out (by kernel_rfl) (fun w' hS' => by obtain ⟨h0, h1, -⟩ := hS'; go_simp) ?_
      refine T_take (i := 2) (v := .int .i64 jm) rfl (by kernel_rfl) (by kernel_rfl) (by kernel_rfl) (by kernel_rfl) (fun _ _ _ h => h) hS0.out (by kernel_rfl) (fun w' hS' => by obtain ⟨h0, h1, -⟩ := hS'; go_simp) ?_
      refine T_take (i := 3) (v := .pointer (some ⟨lb, lo + jm, none⟩)) rfl (by kernel_rfl) (by kernel_rfl) (by kernel_rfl) (by kernel_rfl) (fun _ _ _ h => h) hS0.out (by kernel_rfl) (fun w' hS' => by obtain ⟨h0, h1, -⟩ := hS'; go_simp) ?_
      refine T_take (i := 4) (v := .slice (some ⟨xb, xo, none⟩) 2 xc) rfl (by kernel_rfl) (by kernel_rfl) (by kernel_rfl) (by kernel_rfl) (fun _ _ _ h => h) hS0.out (by kernel_rfl) (fun w' hS' => by obtain ⟨h0, h1, -⟩ := hS'; go_simp) ?_
      refine T_take (i := 5) (v := .slice (some ⟨lb, lo, none⟩) L.length lc) rfl (by kernel_rfl) (by kernel_rfl) (by kernel_rfl) (by kernel_rfl) (fun _ _ _ h => h) hS0.out (by kernel_rfl) (fun w' hS' => by obtain ⟨h0, h1, -⟩ := hS'; go_simp) ?_
      refine T_take (i := 6) (v := .int .i64 j) rfl (by kernel_rfl) (by kernel_rfl) (by kernel_rfl) (by kernel_rfl) (fun _ _ _ h => h) hS0.out (by kernel_rfl) (fun w' hS' => by obtain ⟨h0, h1, -⟩ := hS'; go_simp) ?_
      refine T_take (i := 7) (v := .int .i64 jp) rfl (by kernel_rfl) (by kernel_rfl) (by kernel_rfl) (by kernel_rfl) (fun _ _ _ h => h) hS0.out (by kernel_rfl) (fun w' hS' => by obtain ⟨h0, h1, -⟩ := hS'; go_simp) ?_
      refine T_take (i := 8) (v := .pointer (some ⟨lb, lo + jp, none⟩)) rfl (by kernel_rfl) (by kernel_rfl) (by kernel_rfl) (by kernel_rfl) (fun _ _ _ h => h) hS0.out (by kernel_rfl) (fun w' hS' => by obtain ⟨h0, h1, -⟩ := hS'; go_simp) ?_
      refine T_take (i := 9) (v := .slice (some ⟨zb, zo, none⟩) 2 zc) rfl (by kernel_rfl) (by kernel_rfl) (by kernel_rfl) (by kernel_rfl) (fun _ _ _ h => h) hS0.out (by kernel_rfl) (fun w' hS' => by obtain ⟨h0, h1, -⟩ := hS'; go_simp) ?_
      refine T_step (i := 10) rfl (by kernel_rfl) rfl (by kernel_rfl) ?_
      intro K hK
      go_simp
      refine (CA.out _ hS0.out.2.2).mono ?_
      rintro e' wT1 ⟨⟨sv, rfl, hs⟩, hb1⟩
      obtain ⟨sb, sc, rfl, _, _⟩ := hs.form (by simp [intVals, addL, rowOf])
      have HSM := Lib.hid (show OwnV 3 _ _ _ (.slice (some ⟨sb, 0, none⟩) 2 sc) (intVals (rowOf (x.1 + z.1, x.2 + z.2))) from hs)
      rw [show (intVals (addL (rowOf x) (rowOf z))).length = 2 from rfl]
      clear hs
      have hS1 := Lib.hid (show (fun (w' : World) => w'.cell? ⟨lb, lo + jm, none⟩ = some (.slice (some ⟨xb, xo, none⟩) 2 xc) ∧ w'.cell? ⟨lb, lo + jp, none⟩ = some (.slice (some ⟨zb, zo, none⟩) 2 zc) ∧ Below wr.heap.size wr w') wT1 from ⟨(hb1.cell (p := ⟨lb, lo + jm, none⟩) (Nat.lt_of_lt_of_le hlbr hS0.out.2.2.size)).trans hS0.out.1, (hb1.cell (p := ⟨lb, lo + jp, none⟩) (Nat.lt_of_lt_of_le hlbr hS0.out.2.2.size)).trans hS0.out.2.1, hS0.out.2.2.trans (hb1.mono hS0.out.2.2.size)⟩)
      refine hK.out _ _ hS1.out ?_
      clear hK K
      refine T_last (i := 11) rfl (by kernel_rfl) (by kernel_rfl) rfl (by kernel_rfl) ?_
      go_simp
      obtain ⟨w5, hw5⟩ : ∃ w5, w5 = wT1 := ⟨_, rfl⟩
      subst hw5
      have hbw : Below wr.heap.size wr w5 := hS1.out.2.2
      have HBW := Lib.hid hbw
      have HO5 := Lib.hid (HO.out.below hbw)
      have gcy := (hbw.cell (p := ⟨lb, lo + j, none⟩) hlbr).trans hcy
      obtain ⟨_, _, _, e9, _, _, gs0, gs1⟩ := row_cells HSM.out.sl
      simp only [Value.slice.injEq, Option.some.injEq, Addr.mk.injEq, and_true] at e9
      obtain ⟨⟨rfl, rfl⟩, -, rfl⟩ := e9
      have GSL := Lib.hid (HSM.out.place (b := sb) rfl).2.2
      have NE3 := Lib.hid (show sb ≠ ob by have h1 := (HSM.out.place (b := sb) rfl).1; have h2 := (HO.out.place (b := ob) rfl).2.1; have h3 : wr.drew.heap.size = wr.heap.size := rfl; omega)
      clear hS0 hS1 hcx hcz hcy
      by_cases hy : y.1 = 0
      · have gy0 := (hbw.cell (p := ⟨yb, yo, none⟩) hly).trans hy0
        rw [hy] at gy0
        go_wp2_with fail
        refine (bit_of _ _).mono ?_
        rintro e w6 ⟨rfl, rfl⟩
        obtain ⟨d, hd⟩ : ∃ d, y.2 = d := ⟨_, rfl⟩
        obtain ⟨s, hs⟩ : ∃ s, x.2 + z.2 = s := ⟨_, rfl⟩
        have hq2 : s.tdiv d = t := by rw [← hs, FY.out.2.2.1, hd]; exact Int.mul_tdiv_cancel t (by rw [← hd]; intro h; have h2 := FY.out.2.2.2; unfold crP at h2; rw [hy, h] at h2; simp at h2)
        have hq0 : ¬ d = 0 := (by rw [← hd]; intro h; have h2 := FY.out.2.2.2; unfold crP at h2; rw [hy, h] at h2; simp at h2)
        have hq1 : (d == 0) = false := by rw [beq_eq_false_iff_ne]; exact hq0
        have hq3 : IntKind.i64.wrap t = t := IntWalk.i64_in _ (by omega)
        have gyi := (hbw.cell (p := ⟨yb, yo + 1, none⟩) hly).trans hy1
        rw [hd] at gyi
        have gsi := gs1
        rw [hs] at gsi
        have gl1 : lb < w5.heap.size := Nat.lt_of_lt_of_le hlbr hbw.size
        have gl2 : yb < w5.heap.size := Nat.lt_of_lt_of_le hly hbw.size
        have gl3 := GSL.out
        clear hy0 hy1 gs0 gs1
        go_wp2_with fail
        refine T_begin (z := fun k => 14 < k) (S := fun (w' : World) => w'.heap[lb]? = w5.heap[lb]? ∧ w'.heap[yb]? = w5.heap[yb]? ∧ w'.heap[sb]? = w5.heap[sb]?) (by kernel_rfl) ?_
        show wpAnyT _ _ _ _ _ _ 16 _ _ _
        have hS0 := Lib.hid (show (fun (w' : World) => w'.heap[lb]? = w5.heap[lb]? ∧ w'.heap[yb]? = w5.heap[yb]? ∧ w'.heap[sb]? = w5.heap[sb]?) (w5.drew) from ⟨rfl, rfl, rfl⟩)
        refine T_take (i := 0) (v := .slice (some ⟨ob, 0, none⟩) done.length oc) rfl (by kernel_rfl) (by kernel_rfl) (by kernel_rfl) (by kernel_rfl) (fun _ _ _ h => h) hS0.out (by kernel_rfl) (fun w' hS' => by have h0 := (World.cell?_of_block (w := w5) (a := ⟨lb, lo + j, none⟩) hS'.1).trans gcy; have h1 := (World.cell?_of_block (w := w5) (a := ⟨yb, yo + 1, none⟩) hS'.2.1).trans gyi; have h2 := (World.cell?_of_block (w := w5) (a := ⟨sb, 1, none⟩) hS'.2.2).trans gsi; go_simp) ?_
        refine T_take (i := 1) (v := .slice (some ⟨sb, 0, none⟩) 2 sc) rfl (by kernel_rfl) (by kernel_rfl) (by kernel_rfl) (by kernel_rfl) (fun _ _ _ h => h) hS0.out (by kernel_rfl) (fun w' hS' => by have h0 := (World.cell?_of_block (w := w5) (a := ⟨lb, lo + j, none⟩) hS'.1).trans gcy; have h1 := (World.cell?_of_block (w := w5) (a := ⟨yb, yo + 1, none⟩) hS'.2.1).trans gyi; have h2 := (World.cell?_of_block (w := w5) (a := ⟨sb, 1, none⟩) hS'.2.2).trans gsi; go_simp) ?_
        refine T_take (i := 2) (v := .int .i64 1) rfl (by kernel_rfl) (by kernel_rfl) (by kernel_rfl) (by kernel_rfl) (fun _ _ _ h => h) hS0.out (by kernel_rfl) (fun w' hS' => by have h0 := (World.cell?_of_block (w := w5) (a := ⟨lb, lo + j, none⟩) hS'.1).trans gcy; have h1 := (World.cell?_of_block (w := w5) (a := ⟨yb, yo + 1, none⟩) hS'.2.1).trans gyi; have h2 := (World.cell?_of_block (w := w5) (a := ⟨sb, 1, none⟩) hS'.2.2).trans gsi; go_simp) ?_
        refine T_take (i := 3) (v := .pointer (some ⟨sb, 1, none⟩)) rfl (by kernel_rfl) (by kernel_rfl) (by kernel_rfl) (by kernel_rfl) (fun _ _ _ h => h) hS0.out (by kernel_rfl) (fun w' hS' => by have h0 := (World.cell?_of_block (w := w5) (a := ⟨lb, lo + j, none⟩) hS'.1).trans gcy; have h1 := (World.cell?_of_block (w := w5) (a := ⟨yb, yo + 1, none⟩) hS'.2.1).trans gyi; have h2 := (World.cell?_of_block (w := w5) (a := ⟨sb, 1, none⟩) hS'.2.2).trans gsi; go_simp) ?_
        refine T_take (i := 4) (v := .int .i64 s) rfl (by kernel_rfl) (by kernel_rfl) (by kernel_rfl) (by kernel_rfl) (fun _ _ _ h => h) hS0.out (by kernel_rfl) (fun w' hS' => by have h0 := (World.cell?_of_block (w := w5) (a := ⟨lb, lo + j, none⟩) hS'.1).trans gcy; have h1 := (World.cell?_of_block (w := w5) (a := ⟨yb, yo + 1, none⟩) hS'.2.1).trans gyi; have h2 := (World.cell?_of_block (w := w5) (a := ⟨sb, 1, none⟩) hS'.2.2).trans gsi; go_simp) ?_
        refine T_take (i := 5) (v := .slice (some ⟨lb, lo, none⟩) L.length lc) rfl (by kernel_rfl) (by kernel_rfl) (by kernel_rfl) (by kernel_rfl) (fun _ _ _ h => h) hS0.out (by kernel_rfl) (fun w' hS' => by have h0 := (World.cell?_of_block (w := w5) (a := ⟨lb, lo + j, none⟩) hS'.1).trans gcy; have h1 := (World.cell?_of_block (w := w5) (a := ⟨yb, yo + 1, none⟩) hS'.2.1).trans gyi; have h2 := (World.cell?_of_block (w := w5) (a := ⟨sb, 1, none⟩) hS'.2.2).trans gsi; go_simp) ?_
        refine T_take (i := 6) (v := .int .i64 j) rfl (by kernel_rfl) (by kernel_rfl) (by kernel_rfl) (by kernel_rfl) (fun _ _ _ h => h) hS0.out (by kernel_rfl) (fun w' hS' => by have h0 := (World.cell?_of_block (w := w5) (a := ⟨lb, lo + j, none⟩) hS'.1).trans gcy; have h1 := (World.cell?_of_block (w := w5) (a := ⟨yb, yo + 1, none⟩) hS'.2.1).trans gyi; have h2 := (World.cell?_of_block (w := w5) (a := ⟨sb, 1, none⟩) hS'.2.2).trans gsi; go_simp) ?_
        refine T_take (i := 7) (v := .pointer (some ⟨lb, lo + j, none⟩)) rfl (by kernel_rfl) (by kernel_rfl) (by kernel_rfl) (by kernel_rfl) (fun _ _ _ h => h) hS0.out (by kernel_rfl) (fun w' hS' => by have h0 := (World.cell?_of_block (w := w5) (a := ⟨lb, lo + j, none⟩) hS'.1).trans gcy; have h1 := (World.cell?_of_block (w := w5) (a := ⟨yb, yo + 1, none⟩) hS'.2.1).trans gyi; have h2 := (World.cell?_of_block (w := w5) (a := ⟨sb, 1, none⟩) hS'.2.2).trans gsi; go_simp) ?_
        refine T_take (i := 8) (v := .slice (some ⟨yb, yo, none⟩) 2 yc) rfl (by kernel_rfl) (by kernel_rfl) (by kernel_rfl) (by kernel_rfl) (fun _ _ _ h => h) hS0.out (by kernel_rfl) (fun w' hS' => by have h0 := (World.cell?_of_block (w := w5) (a := ⟨lb, lo + j, none⟩) hS'.1).trans gcy; have h1 := (World.cell?_of_block (w := w5) (a := ⟨yb, yo + 1, none⟩) hS'.2.1).trans gyi; have h2 := (World.cell?_of_block (w := w5) (a := ⟨sb, 1, none⟩) hS'.2.2).trans gsi; go_simp) ?_
        refine T_take (i := 9) (v := .int .i64 1) rfl (by kernel_rfl) (by kernel_rfl) (by kernel_rfl) (by kernel_rfl) (fun _ _ _ h => h) hS0.out (by kernel_rfl) (fun w' hS' => by have h0 := (World.cell?_of_block (w := w5) (a := ⟨lb, lo + j, none⟩) hS'.1).trans gcy; have h1 := (World.cell?_of_block (w := w5) (a := ⟨yb, yo + 1, none⟩) hS'.2.1).trans gyi; have h2 := (World.cell?_of_block (w := w5) (a := ⟨sb, 1, none⟩) hS'.2.2).trans gsi; go_simp) ?_
        refine T_take (i := 10) (v := .pointer (some ⟨yb, yo + 1, none⟩)) rfl (by kernel_rfl) (by kernel_rfl) (by kernel_rfl) (by kernel_rfl) (fun _ _ _ h => h) hS0.out (by kernel_rfl) (fun w' hS' => by have h0 := (World.cell?_of_block (w := w5) (a := ⟨lb, lo + j, none⟩) hS'.1).trans gcy; have h1 := (World.cell?_of_block (w := w5) (a := ⟨yb, yo + 1, none⟩) hS'.2.1).trans gyi; have h2 := (World.cell?_of_block (w := w5) (a := ⟨sb, 1, none⟩) hS'.2.2).trans gsi; go_simp) ?_
        refine T_take (i := 11) (v := .int .i64 d) rfl (by kernel_rfl) (by kernel_rfl) (by kernel_rfl) (by kernel_rfl) (fun _ _ _ h => h) hS0.out (by kernel_rfl) (fun w' hS' => by have h0 := (World.cell?_of_block (w := w5) (a := ⟨lb, lo + j, none⟩) hS'.1).trans gcy; have h1 := (World.cell?_of_block (w := w5) (a := ⟨yb, yo + 1, none⟩) hS'.2.1).trans gyi; have h2 := (World.cell?_of_block (w := w5) (a := ⟨sb, 1, none⟩) hS'.2.2).trans gsi; go_simp) ?_
        refine T_take (i := 12) (v := .int .i64 t) rfl (by kernel_rfl) (by kernel_rfl) (by kernel_rfl) (by kernel_rfl) (fun _ _ _ h => h) hS0.out (by kernel_rfl) (fun w' hS' => by have h0 := (World.cell?_of_block (w := w5) (a := ⟨lb, lo + j, none⟩) hS'.1).trans gcy; have h1 := (World.cell?_of_block (w := w5) (a := ⟨yb, yo + 1, none⟩) hS'.2.1).trans gyi; have h2 := (World.cell?_of_block (w := w5) (a := ⟨sb, 1, none⟩) hS'.2.2).trans gsi; go_simp) ?_
        refine T_step (i := 13) rfl (by kernel_rfl) rfl (by kernel_rfl) ?_
        intro K hK
        go_simp
        have hbx := below1 w5.drew (.cells #[.int .i64 t] 3)
        have hbd : Below w5.heap.size w5 (w5.drew.alloc (.cells #[.int .i64 t] 3)) := ((Below.refl w5.heap.size w5).drew).trans hbx
        have hS1 := Lib.hid (show (fun (w' : World) => w'.heap[lb]? = w5.heap[lb]? ∧ w'.heap[yb]? = w5.heap[yb]? ∧ w'.heap[sb]? = w5.heap[sb]?) _ from ⟨hbd.block lb gl1, hbd.block yb gl2, hbd.block sb gl3⟩)
        have HO2 := Lib.hid (HO5.out.below hbd)
        have hA : wr.heap.size ≤ w5.heap.size := hbw.size
        have hB : (w5.drew.alloc (.cells #[.int .i64 t] 3)).heap.size = w5.heap.size + 1 := World.size_alloc _ _
        have hbase : w.heap.size + 1 ≤ (w5.drew.alloc (.cells #[.int .i64 t] 3)).heap.size := by rw [hB]; have h1 := SZ.out; have h2 := HWS.out; omega
        have AB := Lib.hid (And.intro hA hB)
        clear hA hB
        refine hK.out _ _ hS1.out ?_
        clear hK K
        refine T_step (i := 14) rfl (by kernel_rfl) rfl (by kernel_rfl) ?_
        intro K hK
        refine wp_app_two _ _ (by rfl) (w.heap.size + 1) _ done t (by rfl) (own_len HO2.out.owns) w5.heap.size (by rfl) (heap_alloc_new w5.drew _) hdl hbase ?_
        intro g8 c8 w8 ho8 hg8 hat8
        have hC : w5.heap.size + 1 ≤ w8.heap.size := Nat.le_trans (Nat.le_of_eq AB.out.2.symm) hg8.size
        have hle5 : w5.heap.size ≤ (w5.drew.alloc (.cells #[.int .i64 t] 3)).heap.size := Nat.le_of_lt (Nat.lt_of_lt_of_eq (Nat.lt_succ_self _) AB.out.2.symm)
        have hS2 := Lib.hid (show (fun (w' : World) => w'.heap[lb]? = w5.heap[lb]? ∧ w'.heap[yb]? = w5.heap[yb]? ∧ w'.heap[sb]? = w5.heap[sb]?) w8 from ⟨(hg8.block lb (Nat.lt_of_lt_of_le gl1 hle5) (fun e => NE1.out (Option.some.inj e))).trans (hbd.block lb gl1), (hg8.block yb (Nat.lt_of_lt_of_le gl2 hle5) (fun e => NE2.out (Option.some.inj e))).trans (hbd.block yb gl2), (hg8.block sb (Nat.lt_of_lt_of_le gl3 hle5) (fun e => NE3.out (Option.some.inj e))).trans (hbd.block sb gl3)⟩)
        have HO8 := Lib.hid (OwnV.of_owns ho8)
        refine hK.out _ _ hS2.out ?_
        clear hK K ho8
        refine T_last (i := 15) rfl (by kernel_rfl) (by kernel_rfl) rfl (by kernel_rfl) ?_
        go_simp
        have B8 := HBW.out.trans ((hbd.mono HBW.out.size))
        have OB8 := Lib.hid (show g8 < w.heap.size + 2 ∨ w2.heap.size ≤ g8 by
          rcases hat8 with e | e
          · have : ob = g8 := Option.some.inj e
            have := HOB.out; omega
          · have h1 := HWS.out; have h2 := AB.out.1; have h3 : (w5.drew.alloc (.cells #[.int .i64 t] 3)).heap.size ≤ g8 := e; rw [AB.out.2] at h3; omega)
        have MID8 := Lib.hid ((HMID.out.trans (Mid.of_below B8 HWS.out)).trans (Mid.grown hg8 (by have h1 := HWS.out; have h2 := AB.out.1; exact Nat.le_trans (Nat.le_trans h1 h2) hle5) (fun g hg => by have h1 : ob = g := Option.some.inj hg; have h2 := HOB.out; omega)))
        have WS8 := Lib.hid (show w2.heap.size ≤ w8.heap.size by have h1 := HWS.out; have h2 := AB.out.1; omega)
        have HB8 := Lib.hid ((HB.out.trans (B8.mono HB.out.size)).grown hg8 (Nat.le_trans HB.out.size B8.size) (fun q hq => by have e : ob = q := Option.some.inj hq; have h1 := (HO.out.place (b := ob) rfl).1; omega))
        clear hS0 hS1 hS2 hbx hbd B8 hbase hC hle5 hg8 hat8
        go_wp2
        have jj := JJ.out.2
        refine ⟨⟨jp, done ++ [t], g8, c8, by omega, rfl, .inr (by have := LT.out; omega), ?_, by simp, by simpa using HO8.out, OB8.out, MID8.out, WS8.out, HB8.out⟩, by have := LT.out; simp [RowKit.intOf]; omega⟩
        rw [jj, Nat.add_sub_cancel, TK.out, ← HD.out]
      · have gy0 := (hbw.cell (p := ⟨yb, yo, none⟩) hly).trans hy0
        have hyb : (y.1 == 0) = false := by rw [beq_eq_false_iff_ne]; exact hy
        go_wp2_with fail
        refine (bit_of _ _).mono ?_
        rintro e w6 ⟨rfl, rfl⟩
        obtain ⟨d, hd⟩ : ∃ d, y.1 = d := ⟨_, rfl⟩
        obtain ⟨s, hs⟩ : ∃ s, x.1 + z.1 = s := ⟨_, rfl⟩
        have hq2 : s.tdiv d = t := by rw [← hs, FY.out.2.1, hd]; exact Int.mul_tdiv_cancel t (by rw [← hd]; exact hy)
        have hq0 : ¬ d = 0 := (by rw [← hd]; exact hy)
        have hq1 : (d == 0) = false := by rw [beq_eq_false_iff_ne]; exact hq0
        have hq3 : IntKind.i64.wrap t = t := IntWalk.i64_in _ (by omega)
        have gyi := (hbw.cell (p := ⟨yb, yo, none⟩) hly).trans hy0
        rw [hd] at gyi
        have gsi := gs0
        rw [hs] at gsi
        have gl1 : lb < w5.heap.size := Nat.lt_of_lt_of_le hlbr hbw.size
        have gl2 : yb < w5.heap.size := Nat.lt_of_lt_of_le hly hbw.size
        have gl3 := GSL.out
        clear hy0 hy1 gs0 gs1
        go_wp2_with fail
        refine T_begin (z := fun k => 14 < k) (S := fun (w' : World) => w'.heap[lb]? = w5.heap[lb]? ∧ w'.heap[yb]? = w5.heap[yb]? ∧ w'.heap[sb]? = w5.heap[sb]?) (by kernel_rfl) ?_
        show wpAnyT _ _ _ _ _ _ 16 _ _ _
        have hS0 := Lib.hid (show (fun (w' : World) => w'.heap[lb]? = w5.heap[lb]? ∧ w'.heap[yb]? = w5.heap[yb]? ∧ w'.heap[sb]? = w5.heap[sb]?) (w5.drew) from ⟨rfl, rfl, rfl⟩)
        refine T_take (i := 0) (v := .slice (some ⟨ob, 0, none⟩) done.length oc) rfl (by kernel_rfl) (by kernel_rfl) (by kernel_rfl) (by kernel_rfl) (fun _ _ _ h => h) hS0.out (by kernel_rfl) (fun w' hS' => by have h0 := (World.cell?_of_block (w := w5) (a := ⟨lb, lo + j, none⟩) hS'.1).trans gcy; have h1 := (World.cell?_of_block (w := w5) (a := ⟨yb, yo, none⟩) hS'.2.1).trans gyi; have h2 := (World.cell?_of_block (w := w5) (a := ⟨sb, 0, none⟩) hS'.2.2).trans gsi; go_simp) ?_
        refine T_take (i := 1) (v := .slice (some ⟨sb, 0, none⟩) 2 sc) rfl (by kernel_rfl) (by kernel_rfl) (by kernel_rfl) (by kernel_rfl) (fun _ _ _ h => h) hS0.out (by kernel_rfl) (fun w' hS' => by have h0 := (World.cell?_of_block (w := w5) (a := ⟨lb, lo + j, none⟩) hS'.1).trans gcy; have h1 := (World.cell?_of_block (w := w5) (a := ⟨yb, yo, none⟩) hS'.2.1).trans gyi; have h2 := (World.cell?_of_block (w := w5) (a := ⟨sb, 0, none⟩) hS'.2.2).trans gsi; go_simp) ?_
        refine T_take (i := 2) (v := .int .i64 0) rfl (by kernel_rfl) (by kernel_rfl) (by kernel_rfl) (by kernel_rfl) (fun _ _ _ h => h) hS0.out (by kernel_rfl) (fun w' hS' => by have h0 := (World.cell?_of_block (w := w5) (a := ⟨lb, lo + j, none⟩) hS'.1).trans gcy; have h1 := (World.cell?_of_block (w := w5) (a := ⟨yb, yo, none⟩) hS'.2.1).trans gyi; have h2 := (World.cell?_of_block (w := w5) (a := ⟨sb, 0, none⟩) hS'.2.2).trans gsi; go_simp) ?_
        refine T_take (i := 3) (v := .pointer (some ⟨sb, 0, none⟩)) rfl (by kernel_rfl) (by kernel_rfl) (by kernel_rfl) (by kernel_rfl) (fun _ _ _ h => h) hS0.out (by kernel_rfl) (fun w' hS' => by have h0 := (World.cell?_of_block (w := w5) (a := ⟨lb, lo + j, none⟩) hS'.1).trans gcy; have h1 := (World.cell?_of_block (w := w5) (a := ⟨yb, yo, none⟩) hS'.2.1).trans gyi; have h2 := (World.cell?_of_block (w := w5) (a := ⟨sb, 0, none⟩) hS'.2.2).trans gsi; go_simp) ?_
        refine T_take (i := 4) (v := .int .i64 s) rfl (by kernel_rfl) (by kernel_rfl) (by kernel_rfl) (by kernel_rfl) (fun _ _ _ h => h) hS0.out (by kernel_rfl) (fun w' hS' => by have h0 := (World.cell?_of_block (w := w5) (a := ⟨lb, lo + j, none⟩) hS'.1).trans gcy; have h1 := (World.cell?_of_block (w := w5) (a := ⟨yb, yo, none⟩) hS'.2.1).trans gyi; have h2 := (World.cell?_of_block (w := w5) (a := ⟨sb, 0, none⟩) hS'.2.2).trans gsi; go_simp) ?_
        refine T_take (i := 5) (v := .slice (some ⟨lb, lo, none⟩) L.length lc) rfl (by kernel_rfl) (by kernel_rfl) (by kernel_rfl) (by kernel_rfl) (fun _ _ _ h => h) hS0.out (by kernel_rfl) (fun w' hS' => by have h0 := (World.cell?_of_block (w := w5) (a := ⟨lb, lo + j, none⟩) hS'.1).trans gcy; have h1 := (World.cell?_of_block (w := w5) (a := ⟨yb, yo, none⟩) hS'.2.1).trans gyi; have h2 := (World.cell?_of_block (w := w5) (a := ⟨sb, 0, none⟩) hS'.2.2).trans gsi; go_simp) ?_
        refine T_take (i := 6) (v := .int .i64 j) rfl (by kernel_rfl) (by kernel_rfl) (by kernel_rfl) (by kernel_rfl) (fun _ _ _ h => h) hS0.out (by kernel_rfl) (fun w' hS' => by have h0 := (World.cell?_of_block (w := w5) (a := ⟨lb, lo + j, none⟩) hS'.1).trans gcy; have h1 := (World.cell?_of_block (w := w5) (a := ⟨yb, yo, none⟩) hS'.2.1).trans gyi; have h2 := (World.cell?_of_block (w := w5) (a := ⟨sb, 0, none⟩) hS'.2.2).trans gsi; go_simp) ?_
        refine T_take (i := 7) (v := .pointer (some ⟨lb, lo + j, none⟩)) rfl (by kernel_rfl) (by kernel_rfl) (by kernel_rfl) (by kernel_rfl) (fun _ _ _ h => h) hS0.out (by kernel_rfl) (fun w' hS' => by have h0 := (World.cell?_of_block (w := w5) (a := ⟨lb, lo + j, none⟩) hS'.1).trans gcy; have h1 := (World.cell?_of_block (w := w5) (a := ⟨yb, yo, none⟩) hS'.2.1).trans gyi; have h2 := (World.cell?_of_block (w := w5) (a := ⟨sb, 0, none⟩) hS'.2.2).trans gsi; go_simp) ?_
        refine T_take (i := 8) (v := .slice (some ⟨yb, yo, none⟩) 2 yc) rfl (by kernel_rfl) (by kernel_rfl) (by kernel_rfl) (by kernel_rfl) (fun _ _ _ h => h) hS0.out (by kernel_rfl) (fun w' hS' => by have h0 := (World.cell?_of_block (w := w5) (a := ⟨lb, lo + j, none⟩) hS'.1).trans gcy; have h1 := (World.cell?_of_block (w := w5) (a := ⟨yb, yo, none⟩) hS'.2.1).trans gyi; have h2 := (World.cell?_of_block (w := w5) (a := ⟨sb, 0, none⟩) hS'.2.2).trans gsi; go_simp) ?_
        refine T_take (i := 9) (v := .int .i64 0) rfl (by kernel_rfl) (by kernel_rfl) (by kernel_rfl) (by kernel_rfl) (fun _ _ _ h => h) hS0.out (by kernel_rfl) (fun w' hS' => by have h0 := (World.cell?_of_block (w := w5) (a := ⟨lb, lo + j, none⟩) hS'.1).trans gcy; have h1 := (World.cell?_of_block (w := w5) (a := ⟨yb, yo, none⟩) hS'.2.1).trans gyi; have h2 := (World.cell?_of_block (w := w5) (a := ⟨sb, 0, none⟩) hS'.2.2).trans gsi; go_simp) ?_
        refine T_take (i := 10) (v := .pointer (some ⟨yb, yo, none⟩)) rfl (by kernel_rfl) (by kernel_rfl) (by kernel_rfl) (by kernel_rfl) (fun _ _ _ h => h) hS0.out (by kernel_rfl) (fun w' hS' => by have h0 := (World.cell?_of_block (w := w5) (a := ⟨lb, lo + j, none⟩) hS'.1).trans gcy; have h1 := (World.cell?_of_block (w := w5) (a := ⟨yb, yo, none⟩) hS'.2.1).trans gyi; have h2 := (World.cell?_of_block (w := w5) (a := ⟨sb, 0, none⟩) hS'.2.2).trans gsi; go_simp) ?_
        refine T_take (i := 11) (v := .int .i64 d) rfl (by kernel_rfl) (by kernel_rfl) (by kernel_rfl) (by kernel_rfl) (fun _ _ _ h => h) hS0.out (by kernel_rfl) (fun w' hS' => by have h0 := (World.cell?_of_block (w := w5) (a := ⟨lb, lo + j, none⟩) hS'.1).trans gcy; have h1 := (World.cell?_of_block (w := w5) (a := ⟨yb, yo, none⟩) hS'.2.1).trans gyi; have h2 := (World.cell?_of_block (w := w5) (a := ⟨sb, 0, none⟩) hS'.2.2).trans gsi; go_simp) ?_
        refine T_take (i := 12) (v := .int .i64 t) rfl (by kernel_rfl) (by kernel_rfl) (by kernel_rfl) (by kernel_rfl) (fun _ _ _ h => h) hS0.out (by kernel_rfl) (fun w' hS' => by have h0 := (World.cell?_of_block (w := w5) (a := ⟨lb, lo + j, none⟩) hS'.1).trans gcy; have h1 := (World.cell?_of_block (w := w5) (a := ⟨yb, yo, none⟩) hS'.2.1).trans gyi; have h2 := (World.cell?_of_block (w := w5) (a := ⟨sb, 0, none⟩) hS'.2.2).trans gsi; go_simp) ?_
        refine T_step (i := 13) rfl (by kernel_rfl) rfl (by kernel_rfl) ?_
        intro K hK
        go_simp
        have hbx := below1 w5.drew (.cells #[.int .i64 t] 3)
        have hbd : Below w5.heap.size w5 (w5.drew.alloc (.cells #[.int .i64 t] 3)) := ((Below.refl w5.heap.size w5).drew).trans hbx
        have hS1 := Lib.hid (show (fun (w' : World) => w'.heap[lb]? = w5.heap[lb]? ∧ w'.heap[yb]? = w5.heap[yb]? ∧ w'.heap[sb]? = w5.heap[sb]?) _ from ⟨hbd.block lb gl1, hbd.block yb gl2, hbd.block sb gl3⟩)
        have HO2 := Lib.hid (HO5.out.below hbd)
        have hA : wr.heap.size ≤ w5.heap.size := hbw.size
        have hB : (w5.drew.alloc (.cells #[.int .i64 t] 3)).heap.size = w5.heap.size + 1 := World.size_alloc _ _
        have hbase : w.heap.size + 1 ≤ (w5.drew.alloc (.cells #[.int .i64 t] 3)).heap.size := by rw [hB]; have h1 := SZ.out; have h2 := HWS.out; omega
        have AB := Lib.hid (And.intro hA hB)
        clear hA hB
        refine hK.out _ _ hS1.out ?_
        clear hK K
        refine T_step (i := 14) rfl (by kernel_rfl) rfl (by kernel_rfl) ?_
        intro K hK
        refine wp_app_two _ _ (by rfl) (w.heap.size + 1) _ done t (by rfl) (own_len HO2.out.owns) w5.heap.size (by rfl) (heap_alloc_new w5.drew _) hdl hbase ?_
        intro g8 c8 w8 ho8 hg8 hat8
        have hC : w5.heap.size + 1 ≤ w8.heap.size := Nat.le_trans (Nat.le_of_eq AB.out.2.symm) hg8.size
        have hle5 : w5.heap.size ≤ (w5.drew.alloc (.cells #[.int .i64 t] 3)).heap.size := Nat.le_of_lt (Nat.lt_of_lt_of_eq (Nat.lt_succ_self _) AB.out.2.symm)
        have hS2 := Lib.hid (show (fun (w' : World) => w'.heap[lb]? = w5.heap[lb]? ∧ w'.heap[yb]? = w5.heap[yb]? ∧ w'.heap[sb]? = w5.heap[sb]?) w8 from ⟨(hg8.block lb (Nat.lt_of_lt_of_le gl1 hle5) (fun e => NE1.out (Option.some.inj e))).trans (hbd.block lb gl1), (hg8.block yb (Nat.lt_of_lt_of_le gl2 hle5) (fun e => NE2.out (Option.some.inj e))).trans (hbd.block yb gl2), (hg8.block sb (Nat.lt_of_lt_of_le gl3 hle5) (fun e => NE3.out (Option.some.inj e))).trans (hbd.block sb gl3)⟩)
        have HO8 := Lib.hid (OwnV.of_owns ho8)
        refine hK.out _ _ hS2.out ?_
        clear hK K ho8
        refine T_last (i := 15) rfl (by kernel_rfl) (by kernel_rfl) rfl (by kernel_rfl) ?_
        go_simp
        have B8 := HBW.out.trans ((hbd.mono HBW.out.size))
        have OB8 := Lib.hid (show g8 < w.heap.size + 2 ∨ w2.heap.size ≤ g8 by
          rcases hat8 with e | e
          · have : ob = g8 := Option.some.inj e
            have := HOB.out; omega
          · have h1 := HWS.out; have h2 := AB.out.1; have h3 : (w5.drew.alloc (.cells #[.int .i64 t] 3)).heap.size ≤ g8 := e; rw [AB.out.2] at h3; omega)
        have MID8 := Lib.hid ((HMID.out.trans (Mid.of_below B8 HWS.out)).trans (Mid.grown hg8 (by have h1 := HWS.out; have h2 := AB.out.1; exact Nat.le_trans (Nat.le_trans h1 h2) hle5) (fun g hg => by have h1 : ob = g := Option.some.inj hg; have h2 := HOB.out; omega)))
        have WS8 := Lib.hid (show w2.heap.size ≤ w8.heap.size by have h1 := HWS.out; have h2 := AB.out.1; omega)
        have HB8 := Lib.hid ((HB.out.trans (B8.mono HB.out.size)).grown hg8 (Nat.le_trans HB.out.size B8.size) (fun q hq => by have e : ob = q := Option.some.inj hq; have h1 := (HO.out.place (b := ob) rfl).1; omega))
        clear hS0 hS1 hS2 hbx hbd B8 hbase hC hle5 hg8 hat8
        go_wp2
        have jj := JJ.out.2
        refine ⟨⟨jp, done ++ [t], g8, c8, by omega, rfl, .inr (by have := LT.out; omega), ?_, by simp, by simpa using HO8.out, OB8.out, MID8.out, WS8.out, HB8.out⟩, by have := LT.out; simp [RowKit.intOf]; omega⟩
        rw [jj, Nat.add_sub_cancel, TK.out, ← HD.out]
    · have hfin : (turnsP L).take (j - 1) = turnsP L := List.take_of_length_le (by rw [turnsP_len]; omega)
      go_wp2
      go_ret
      refine made_ints ?_ ⟨⟨_, rfl, HO.out.mono (by omega) (Nat.le_refl _)⟩, HB.out⟩
      rw [ET.out, HD.out, hfin]
end Go.Proofs.Ytoekgcafhcamjab
