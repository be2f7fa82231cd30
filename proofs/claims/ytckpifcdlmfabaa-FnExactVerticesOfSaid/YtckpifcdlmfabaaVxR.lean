/- The program's reduced: a rational point out of numbers and their divisor. -/
import Derived.Test.YtckpifcdlmfabaaMac
import Derived.Test.YtckpifcdlmfabaaVecJ
import Derived.Test.YtckpifcdlmfabaaMao
namespace Go.Proofs.Ytckpifcdlmfabaa
open Go Go.RowKit Go.Lib

/-- append(out, x) at an operation. -/
theorem wp_app_int1 {o : Oper} {a : Act} {w : World} {K : Act → World → Prop} {Q : Exit → Act → World → Prop} (s x : Operand)
    (ho : o.op = .call { callee := .builtin .append, args := #[s, x], argTypes := #[46, 46] })
    (base : Nat) (v : Value) (xs : List Int) (z : Int) (hs : a.eval s = v) (hown : w.ownsRow base 3 1 v xs.length (intVals xs))
    (H : Nat) (hx : a.eval x = .slice (some ⟨H, 0, none⟩) 1 1) (hnew : w.heap[H]? = some (.cells #[.int .i64 z] 3 (0, 0)))
    (hn : xs.length ≤ 1099511627776) (hbase : base ≤ w.heap.size)
    (k : ∀ g cap w', w'.ownsRow base 3 1 (.slice (some ⟨g, 0, none⟩) (xs.length + 1) cap) (xs.length + 1) (intVals (xs ++ [z])) → w.grownBy w' v.ownBlock → K (a.put o.dst (.slice (some ⟨g, 0, none⟩) (xs.length + 1) cap)) w') : o.wp Try.prog a w K Q := by
  obtain ⟨i0, hi, hz0, hz1, hz2⟩ := info_parts info_int'
  refine wp_append_lies w s x 46 ho base 3 i0 _ 1 8 Try.underlying46 hi hz0 hz1 hz2 rfl (by omega) v xs.length _ hs hown ⟨H, 0, none⟩ 1 1 [.int .i64 z] hx rfl (World.news_of_block (cs := #[.int .i64 z]) hnew) (by simp [Value.oneCell']) (by omega) (by unfold maxLen; omega) (by omega) hbase w.heap.size rfl ?_
  intro g cap w' h1 h2 h3 h4
  exact k g cap w' (by simpa [intVals] using h1) h2

theorem gcdI_le {a b B : Int} (ha : -B ≤ a ∧ a ≤ B) (hb : -B ≤ b ∧ b ≤ B) : 0 ≤ gcdI a b ∧ gcdI a b ≤ B := by
  refine ⟨gcdI_nonneg a b, ?_⟩
  by_cases h : a = 0
  · subst h
    unfold gcdI
    rw [Int.gcd_zero_left]; omega
  · have h1 := Int.le_of_dvd (show 0 < (a.natAbs : Int) by omega) (Int.dvd_natAbs.2 (gcdI_ldvd a b))
    omega
theorem gcdI_ne {a b : Int} (h : a ≠ 0) : gcdI a b ≠ 0 := by
  intro h0
  have := gcdI_ldvd a b
  rw [h0] at this
  exact h (Int.zero_dvd.1 this)
theorem fold_take {l : List Int} {d : Int} {k : Nat} (h : k < l.length) : (l.take (k + 1)).foldl gcdI d = gcdI ((l.take k).foldl gcdI d) l[k] := by
  rw [List.take_succ_eq_append_getElem h, List.foldl_append]; rfl
theorem tdiv_bdB {x g : Int} (B : Int) (hx : -B ≤ x ∧ x ≤ B) (hg : g ≠ 0) : -B ≤ x.tdiv g ∧ x.tdiv g ≤ B := by
  have h1 : (x.tdiv g).natAbs ≤ x.natAbs := by rw [Int.natAbs_tdiv]; exact Nat.div_le_self _ _
  omega

/-- What the second loop of reduced keeps. -/
def RedI (w : World) (B : Nat) (d : Int) (V : Value) (xs : List Int) (wr : World) : Prop :=
  Bk wr w.heap.size #[.slice none 0 0, .int .i64 0] 63 ∧ Bk wr B #[V, .int .i64 d] 63 ∧ OwnV 3 (B + 1) wr.heap.size wr V (intVals xs) ∧ Below w.heap.size w wr ∧ w.heap.size < B

set_option maxRecDepth 100000 in
set_option maxHeartbeats 3200000 in
theorem i_reduced (num : List Int) (den : Int) (h0 : num ≠ []) (hd : den ≠ 0) (hl : num.length ≤ 1048576) (hn : Bd num 1000000000) (hdb : -1000000000 ≤ den ∧ den ≤ 1000000000) (a : Value) (w : World) (ha : Sl w a (intVals num)) :
    Calls Try.prog 100 #[a, .int .i64 den] w (MadeHv w (redQ num den)) := by
  obtain ⟨ad, c, rfl, hm, hopen⟩ := ha.shape
  rw [intVals_len] at hm hopen ⊢
  unfold maxLen at hm
  have HO := Lib.hid hopen
  have HA := Lib.hid ha
  have HN := Lib.hid hn
  have K0 := Lib.hid (Bk.new w #[.slice none 0 0, .int .i64 0] 63)
  have B0 := Lib.hid (below1 w (.cells #[.slice none 0 0, .int .i64 0] 63))
  clear hopen ha hn
  go_enter Try.func100, Try.ntmps100
  go_wp2
  go_loopw [5, 14] (fun g i wr => ∃ (k : Nat) (z : Int), k ≤ num.length ∧ i = .int .i64 k ∧ g = .int .i64 z ∧ (num.take k).foldl gcdI den = z ∧ z ≠ 0 ∧ (-1000000000 ≤ z ∧ z ≤ 1000000000) ∧ Below (w.alloc (.cells #[.slice none 0 0, .int .i64 0] 63)).heap.size (w.alloc (.cells #[.slice none 0 0, .int .i64 0] 63)) wr) (fun _ i _ => num.length - (RowKit.intOf i).toNat)
  case atStart => exact ⟨0, den, Nat.zero_le _, rfl, rfl, rfl, hd, hdb, Below.refl _ _⟩
  case round =>
    obtain ⟨k, z, hk, rfl, rfl, hz, hz0, hzb, hbr⟩ := hrel
    have HB := Lib.hid hbr
    have HZ := Lib.hid hz
    have HBW := Lib.hid (B0.out.trans (hbr.mono B0.out.size))
    clear hz
    by_cases hlt : k < num.length
    · obtain ⟨b, off, rfl, hc, hlt2, hx⟩ := HO.out (by omega)
      have hcell := hx k _ (intVals_get num k hlt)
      rw [← HBW.out.cell (p := ⟨b, off + k, none⟩) hlt2] at hcell
      have hb1 := HN.out k hlt
      have FT := Lib.hid (fold_take (d := den) hlt)
      clear hx hbr
      go_wp2_with fail
      refine (i_gcd z num[k] (by omega) (by omega) (by omega) (by omega) _).mono ?_
      rintro e w1 ⟨rfl, hb2⟩
      have HB1 := Lib.hid (HB.out.trans (hb2.mono HB.out.size))
      clear hb2
      go_wp2_with fail
      have hle := gcdI_le hzb hb1
      exact ⟨⟨k + 1, gcdI z num[k], by omega, by go_num, rfl, by rw [FT.out, HZ.out], gcdI_ne hz0, by omega, HB1.out⟩, by simp [RowKit.intOf]; omega⟩
    · obtain rfl : k = num.length := by omega
      have hfz : num.foldl gcdI den = z := by have := HZ.out; rwa [List.take_length] at this
      have RP := Lib.hid (red_prog h0 hfz)
      obtain ⟨g, hg⟩ : ∃ g : Int, (if den < 0 then -z else z) = g := ⟨_, rfl⟩
      have hg0 : g ≠ 0 := by rw [← hg]; split <;> omega
      have hgw : IntKind.i64.wrap (-z) = -z := IntWalk.i64_in _ (by omega)
      rw [hg] at RP
      have hdq := tdiv_bdB 1000000000 hdb hg0
      have hge : (g == 0) = false := by rw [beq_eq_false_iff_ne]; exact hg0
      have KW := Lib.hid (K0.out.below HB.out)
      clear hbr hfz
      clear HB HZ
      by_cases hneg : den < 0
      · rw [if_pos hneg] at hg
        have hnz : ¬ -z = 0 := by omega
        go_wp2
        rename World => w5
        have N5 := Lib.hid (below1 w5 (.cells #[.slice none 0 0, .int .i64 (den.tdiv g)] 63))
        have HI := Lib.hid (show RedI w w5.heap.size (den.tdiv g) (.slice none 0 0) [] (w5.alloc (.cells #[.slice none 0 0, .int .i64 (den.tdiv g)] 63)) from ⟨KW.out.alloc _, Bk.new _ _ _, OwnV.nil, HBW.out.trans (N5.out.mono HBW.out.size), KW.out.lt⟩)
        have hwz : w.heap.size < w5.heap.size := KW.out.lt
        clear N5
        go_loopw [32] (fun i wr => ∃ (k : Nat) (V : Value), k ≤ num.length ∧ i = .int .i64 k ∧ RedI w w5.heap.size (den.tdiv g) V ((num.take k).map (fun x => x.tdiv g)) wr) (fun i _ => num.length - (RowKit.intOf i).toNat)
        case atStart => exact ⟨0, _, Nat.zero_le _, rfl, HI.out⟩
        case round =>
          obtain ⟨k, V, hk, rfl, hci⟩ := hrel
          rename World => w6
          have HC := Lib.hid hci
          clear hci
          obtain ⟨⟨l0, l1⟩, lf0, lf1⟩ := HC.out.2.1.two
          have hBl := HC.out.2.1.lt
          by_cases hlt : k < num.length
          · obtain ⟨b, off, rfl, hc, hlt2, hx⟩ := HO.out (by omega)
            have hcell := hx k _ (intVals_get num k hlt)
            rw [← HC.out.2.2.2.1.cell (p := ⟨b, off + k, none⟩) hlt2] at hcell
            have hq := tdiv_bdB 1000000000 (HN.out k hlt) hg0
            have hlm : ((num.take k).map (fun x => x.tdiv g)).length = k := by rw [List.length_map, List.length_take]; omega
            have MS := Lib.hid (show (num.take (k + 1)).map (fun x => x.tdiv g) = (num.take k).map (fun x => x.tdiv g) ++ [num[k].tdiv g] by rw [List.take_succ_eq_append_getElem hlt, List.map_append]; rfl)
            obtain ⟨xs, hxs⟩ : ∃ xs, (num.take k).map (fun x => x.tdiv g) = xs := ⟨_, rfl⟩
            rw [hxs] at MS hlm HC
            clear hxs hx
            generalize num[k] = y at *
            have hyw : IntKind.i64.wrap (y.tdiv g) = y.tdiv g := IntWalk.i64_in _ (by omega)
            have HY := Lib.hid hq
            clear hq
            go_wp2
            refine T_begin (z := fun k => 6 < k) (S := fun (w' : World) => w'.cell? ⟨w5.heap.size, 0, none⟩ = some V) (by kernel_rfl) ?_
            show wpAnyT _ _ _ _ _ _ 9 _ _ _
            have hS0 := Lib.hid (show (fun (w' : World) => w'.cell? ⟨w5.heap.size, 0, none⟩ = some V) _ from l0)
            refine T_take (i := 0) (v := .pointer (some ⟨w5.heap.size, 0, none⟩)) rfl (by kernel_rfl) (by kernel_rfl) (by kernel_rfl) (by kernel_rfl) (fun _ _ _ h => h) hS0.out (by kernel_rfl) (fun w' hS' => by (try dsimp only at hS'); go_simp) ?_
            refine T_take (i := 1) (v := V) rfl (by kernel_rfl) (by kernel_rfl) (by kernel_rfl) (by kernel_rfl) (fun _ _ _ h => h) hS0.out (by kernel_rfl) (fun w' hS' => by (try dsimp only at hS'); go_simp) ?_
            refine T_take (i := 2) (v := .int .i64 y) rfl (by kernel_rfl) (by kernel_rfl) (by kernel_rfl) (by kernel_rfl) (fun _ _ _ h => h) hS0.out (by kernel_rfl) (fun w' hS' => by (try dsimp only at hS'); go_simp) ?_
            refine T_take (i := 3) (v := .int .i64 g) rfl (by kernel_rfl) (by kernel_rfl) (by kernel_rfl) (by kernel_rfl) (fun _ _ _ h => h) hS0.out (by kernel_rfl) (fun w' hS' => by (try dsimp only at hS'); go_simp) ?_
            refine T_take (i := 4) (v := .int .i64 (y.tdiv g)) rfl (by kernel_rfl) (by kernel_rfl) (by kernel_rfl) (by kernel_rfl) (fun _ _ _ h => h) hS0.out (by kernel_rfl) (fun w' hS' => by (try dsimp only at hS'); go_simp) ?_
            refine T_step (i := 5) rfl (by kernel_rfl) rfl (by kernel_rfl) ?_
            intro K hK
            go_simp
            refine hK.out _ _ ((HC.out.2.1.alloc _).two.1.1) ?_
            clear hK K
            refine T_step (i := 6) rfl (by kernel_rfl) rfl (by kernel_rfl) ?_
            intro K hK
            have hb6 := (below1 w6 (.cells #[.int .i64 (y.tdiv g)] 3)).drew
            have ho6 := HC.out.2.2.1.owns
            rw [intVals_len] at ho6
            refine wp_app_int1 _ _ (by rfl) (w5.heap.size + 1) V xs (y.tdiv g) rfl (owns_below ho6 hb6) w6.heap.size rfl (heap_alloc_new w6 _) (by omega) (Nat.le_trans hBl hb6.size) ?_
            intro g7 cap w7 ho7 hg7
            have hV : ∀ q, V.ownBlock = some q → w5.heap.size + 1 ≤ q := fun q hq => (HC.out.2.2.1.place hq).1
            have K4 := Lib.hid ((HC.out.1.below hb6).grown hg7 (fun e => by have := hV _ e.symm; omega))
            have K8 := Lib.hid ((HC.out.2.1.below hb6).grown hg7 (fun e => by have := hV _ e.symm; omega))
            have B7 := Lib.hid ((HC.out.2.2.2.1.trans (hb6.mono HC.out.2.2.2.1.size)).grown hg7 (Nat.le_trans HC.out.2.2.2.1.size hb6.size) (fun q hq => by have := hV q hq; omega))
            have O7 := Lib.hid ho7
            clear ho7 hg7 hb6 ho6
            refine hK.out _ _ (K8.out.two.1.1) ?_
            clear hK K hS0
            obtain ⟨⟨m0, m1⟩, mf0, mf1⟩ := K8.out.two
            refine T_anytake (i := 7) (v := .pointer (some ⟨w5.heap.size, 0, none⟩)) rfl (by kernel_rfl) (by kernel_rfl) (by kernel_rfl) (by kernel_rfl) (fun _ _ _ h => h) (by kernel_rfl) (fun w' => by go_simp) ?_
            refine T_last (i := 8) rfl (by kernel_rfl) (by kernel_rfl) rfl rfl ?_
            go_simp
            go_wp2
            have hkp := (Kept.refl w5.heap.size (w5.heap.size + 1) w7).setCell (p := ⟨w5.heap.size, 0, none⟩) (Nat.le_refl _) (Nat.lt_succ_self _) (.slice (some ⟨g7, 0, none⟩) (xs.length + 1) cap)
            have ho := O7.out
            rw [hlm] at ho hkp
            have hlm2 : k + 1 = (xs ++ [y.tdiv g]).length := by simp [hlm]
            refine ⟨⟨k + 1, .slice (some ⟨g7, 0, none⟩) (k + 1) cap, by omega, by go_num, ?_⟩, by simp [RowKit.intOf]; omega⟩
            rw [MS.out]
            refine ⟨K4.out.other (by show w5.heap.size ≠ _; omega) _, K8.out.set0 _, ?_, B7.out.setCell (p := ⟨w5.heap.size, 0, none⟩) (Nat.le_of_lt hwz) _, hwz⟩
            rw [hlm2] at ho hkp
            rw [hlm2]
            exact ((OwnV.of_owns ho).kept hkp (.inr (Nat.le_refl _))).mono (Nat.le_refl _) (by simp [World.setCell])
          · obtain rfl : k = num.length := by omega
            have HF := Lib.hid (show RedI w w5.heap.size (den.tdiv g) V (num.map (fun x => x.tdiv g)) w6 by have h := HC.out; rw [List.take_length] at h; exact h)
            obtain ⟨va, vc, rfl, _⟩ := HF.out.2.2.1.shape1
            obtain ⟨⟨r0, r1⟩, rf0, rf1⟩ := HF.out.1.two
            clear HC
            go_wp2
            have hkp := ((Kept.refl w.heap.size (w.heap.size + 1) w6).setCell (p := ⟨w.heap.size, 0, none⟩) (Nat.le_refl _) (Nat.lt_succ_self _) (.slice va (intVals (num.map (fun x => x.tdiv g))).length vc)).setCell (p := ⟨w.heap.size, 1, none⟩) (Nat.le_refl _) (Nat.lt_succ_self _) (.int .i64 (den.tdiv g))
            refine bodyPost_ret (v := .agg #[.slice va (intVals (num.map (fun x => x.tdiv g))).length vc, .int .i64 (den.tdiv g)]) (by simp [results, Try.results100, go_sem, r0, r1]) rfl ⟨⟨_, rfl, ?_⟩, (HF.out.2.2.2.1.setCell (p := ⟨w.heap.size, 0, none⟩) (Nat.le_refl _) _).setCell (p := ⟨w.heap.size, 1, none⟩) (Nat.le_refl _) _⟩
            rw [RP.out]
            exact ⟨_, rfl, (HF.out.2.2.1.kept hkp (.inr (by omega))).mono (by omega) (by simp [World.setCell])⟩
      · rw [if_neg hneg] at hg
        go_wp2
        rename World => w5
        have N5 := Lib.hid (below1 w5 (.cells #[.slice none 0 0, .int .i64 (den.tdiv g)] 63))
        have HI := Lib.hid (show RedI w w5.heap.size (den.tdiv g) (.slice none 0 0) [] (w5.alloc (.cells #[.slice none 0 0, .int .i64 (den.tdiv g)] 63)) from ⟨KW.out.alloc _, Bk.new _ _ _, OwnV.nil, HBW.out.trans (N5.out.mono HBW.out.size), KW.out.lt⟩)
        have hwz : w.heap.size < w5.heap.size := KW.out.lt
        clear N5
        go_loopw [32] (fun i wr => ∃ (k : Nat) (V : Value), k ≤ num.length ∧ i = .int .i64 k ∧ RedI w w5.heap.size (den.tdiv g) V ((num.take k).map (fun x => x.tdiv g)) wr) (fun i _ => num.length - (RowKit.intOf i).toNat)
        case atStart => exact ⟨0, _, Nat.zero_le _, rfl, HI.out⟩
        case round =>
          obtain ⟨k, V, hk, rfl, hci⟩ := hrel
          rename World => w6
          have HC := Lib.hid hci
          clear hci
          obtain ⟨⟨l0, l1⟩, lf0, lf1⟩ := HC.out.2.1.two
          have hBl := HC.out.2.1.lt
          by_cases hlt : k < num.length
          · obtain ⟨b, off, rfl, hc, hlt2, hx⟩ := HO.out (by omega)
            have hcell := hx k _ (intVals_get num k hlt)
            rw [← HC.out.2.2.2.1.cell (p := ⟨b, off + k, none⟩) hlt2] at hcell
            have hq := tdiv_bdB 1000000000 (HN.out k hlt) hg0
            have hlm : ((num.take k).map (fun x => x.tdiv g)).length = k := by rw [List.length_map, List.length_take]; omega
            have MS := Lib.hid (show (num.take (k + 1)).map (fun x => x.tdiv g) = (num.take k).map (fun x => x.tdiv g) ++ [num[k].tdiv g] by rw [List.take_succ_eq_append_getElem hlt, List.map_append]; rfl)
            obtain ⟨xs, hxs⟩ : ∃ xs, (num.take k).map (fun x => x.tdiv g) = xs := ⟨_, rfl⟩
            rw [hxs] at MS hlm HC
            clear hxs hx
            generalize num[k] = y at *
            have hyw : IntKind.i64.wrap (y.tdiv g) = y.tdiv g := IntWalk.i64_in _ (by omega)
            have HY := Lib.hid hq
            clear hq
            go_wp2
            refine T_begin (z := fun k => 6 < k) (S := fun (w' : World) => w'.cell? ⟨w5.heap.size, 0, none⟩ = some V) (by kernel_rfl) ?_
            show wpAnyT _ _ _ _ _ _ 9 _ _ _
            have hS0 := Lib.hid (show (fun (w' : World) => w'.cell? ⟨w5.heap.size, 0, none⟩ = some V) _ from l0)
            refine T_take (i := 0) (v := .pointer (some ⟨w5.heap.size, 0, none⟩)) rfl (by kernel_rfl) (by kernel_rfl) (by kernel_rfl) (by kernel_rfl) (fun _ _ _ h => h) hS0.out (by kernel_rfl) (fun w' hS' => by (try dsimp only at hS'); go_simp) ?_
            refine T_take (i := 1) (v := V) rfl (by kernel_rfl) (by kernel_rfl) (by kernel_rfl) (by kernel_rfl) (fun _ _ _ h => h) hS0.out (by kernel_rfl) (fun w' hS' => by (try dsimp only at hS'); go_simp) ?_
            refine T_take (i := 2) (v := .int .i64 y) rfl (by kernel_rfl) (by kernel_rfl) (by kernel_rfl) (by kernel_rfl) (fun _ _ _ h => h) hS0.out (by kernel_rfl) (fun w' hS' => by (try dsimp only at hS'); go_simp) ?_
            refine T_take (i := 3) (v := .int .i64 g) rfl (by kernel_rfl) (by kernel_rfl) (by kernel_rfl) (by kernel_rfl) (fun _ _ _ h => h) hS0.out (by kernel_rfl) (fun w' hS' => by (try dsimp only at hS'); go_simp) ?_
            refine T_take (i := 4) (v := .int .i64 (y.tdiv g)) rfl (by kernel_rfl) (by kernel_rfl) (by kernel_rfl) (by kernel_rfl) (fun _ _ _ h => h) hS0.out (by kernel_rfl) (fun w' hS' => by (try dsimp only at hS'); go_simp) ?_
            refine T_step (i := 5) rfl (by kernel_rfl) rfl (by kernel_rfl) ?_
            intro K hK
            go_simp
            refine hK.out _ _ ((HC.out.2.1.alloc _).two.1.1) ?_
            clear hK K
            refine T_step (i := 6) rfl (by kernel_rfl) rfl (by kernel_rfl) ?_
            intro K hK
            have hb6 := (below1 w6 (.cells #[.int .i64 (y.tdiv g)] 3)).drew
            have ho6 := HC.out.2.2.1.owns
            rw [intVals_len] at ho6
            refine wp_app_int1 _ _ (by rfl) (w5.heap.size + 1) V xs (y.tdiv g) rfl (owns_below ho6 hb6) w6.heap.size rfl (heap_alloc_new w6 _) (by omega) (Nat.le_trans hBl hb6.size) ?_
            intro g7 cap w7 ho7 hg7
            have hV : ∀ q, V.ownBlock = some q → w5.heap.size + 1 ≤ q := fun q hq => (HC.out.2.2.1.place hq).1
            have K4 := Lib.hid ((HC.out.1.below hb6).grown hg7 (fun e => by have := hV _ e.symm; omega))
            have K8 := Lib.hid ((HC.out.2.1.below hb6).grown hg7 (fun e => by have := hV _ e.symm; omega))
            have B7 := Lib.hid ((HC.out.2.2.2.1.trans (hb6.mono HC.out.2.2.2.1.size)).grown hg7 (Nat.le_trans HC.out.2.2.2.1.size hb6.size) (fun q hq => by have := hV q hq; omega))
            have O7 := Lib.hid ho7
            clear ho7 hg7 hb6 ho6
            refine hK.out _ _ (K8.out.two.1.1) ?_
            clear hK K hS0
            obtain ⟨⟨m0, m1⟩, mf0, mf1⟩ := K8.out.two
            refine T_anytake (i := 7) (v := .pointer (some ⟨w5.heap.size, 0, none⟩)) rfl (by kernel_rfl) (by kernel_rfl) (by kernel_rfl) (by kernel_rfl) (fun _ _ _ h => h) (by kernel_rfl) (fun w' => by go_simp) ?_
            refine T_last (i := 8) rfl (by kernel_rfl) (by kernel_rfl) rfl rfl ?_
            go_simp
            go_wp2
            have hkp := (Kept.refl w5.heap.size (w5.heap.size + 1) w7).setCell (p := ⟨w5.heap.size, 0, none⟩) (Nat.le_refl _) (Nat.lt_succ_self _) (.slice (some ⟨g7, 0, none⟩) (xs.length + 1) cap)
            have ho := O7.out
            rw [hlm] at ho hkp
            have hlm2 : k + 1 = (xs ++ [y.tdiv g]).length := by simp [hlm]
            refine ⟨⟨k + 1, .slice (some ⟨g7, 0, none⟩) (k + 1) cap, by omega, by go_num, ?_⟩, by simp [RowKit.intOf]; omega⟩
            rw [MS.out]
            refine ⟨K4.out.other (by show w5.heap.size ≠ _; omega) _, K8.out.set0 _, ?_, B7.out.setCell (p := ⟨w5.heap.size, 0, none⟩) (Nat.le_of_lt hwz) _, hwz⟩
            rw [hlm2] at ho hkp
            rw [hlm2]
            exact ((OwnV.of_owns ho).kept hkp (.inr (Nat.le_refl _))).mono (Nat.le_refl _) (by simp [World.setCell])
          · obtain rfl : k = num.length := by omega
            have HF := Lib.hid (show RedI w w5.heap.size (den.tdiv g) V (num.map (fun x => x.tdiv g)) w6 by have h := HC.out; rw [List.take_length] at h; exact h)
            obtain ⟨va, vc, rfl, _⟩ := HF.out.2.2.1.shape1
            obtain ⟨⟨r0, r1⟩, rf0, rf1⟩ := HF.out.1.two
            clear HC
            go_wp2
            have hkp := ((Kept.refl w.heap.size (w.heap.size + 1) w6).setCell (p := ⟨w.heap.size, 0, none⟩) (Nat.le_refl _) (Nat.lt_succ_self _) (.slice va (intVals (num.map (fun x => x.tdiv g))).length vc)).setCell (p := ⟨w.heap.size, 1, none⟩) (Nat.le_refl _) (Nat.lt_succ_self _) (.int .i64 (den.tdiv g))
            refine bodyPost_ret (v := .agg #[.slice va (intVals (num.map (fun x => x.tdiv g))).length vc, .int .i64 (den.tdiv g)]) (by simp [results, Try.results100, go_sem, r0, r1]) rfl ⟨⟨_, rfl, ?_⟩, (HF.out.2.2.2.1.setCell (p := ⟨w.heap.size, 0, none⟩) (Nat.le_refl _) _).setCell (p := ⟨w.heap.size, 1, none⟩) (Nat.le_refl _) _⟩
            rw [RP.out]
            exact ⟨_, rfl, (HF.out.2.2.1.kept hkp (.inr (by omega))).mono (by omega) (by simp [World.setCell])⟩
end Go.Proofs.Ytckpifcdlmfabaa
