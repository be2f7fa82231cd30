/- The program's text of a region. -/
import Derived.Test.YtmogncpkdkdodaaDoorRgTS
import Derived.Test.YtmogncpkdkdodaaDoorMeet
import Derived.Test.YtmogncpkdkdodaaDoorHfB
import Derived.Deep.RegionHeld3
namespace Go.Proofs.YtmogncpkdkdodaaDoor
open Go.RowKit Go.Lib

/-- append(out, s) at an operation. -/
theorem wp_app_str {o : Oper} {a : Act} {w : World} {K : Act → World → Prop} {Q : Exit → Act → World → Prop} (s x : Operand)
    (ho : o.op = .call { callee := .builtin .append, args := #[s, x], argTypes := #[107, 107] })
    (base : Nat) (v : Value) (n : Nat) (xs : List ByteArray) (z : ByteArray) (hs : a.eval s = v) (hown : w.ownsRow base 9 1 v n (strVals xs))
    (H : Nat) (hx : a.eval x = .slice (some ⟨H, 0, none⟩) 1 1) (hnew : w.heap[H]? = some (.cells #[.string z] 9 (0, 0)))
    (hn : n ≤ 1099511627776) (hbase : base ≤ w.heap.size)
    (h : ∀ v' w', w'.ownsRow base 9 1 v' (n + 1) (strVals (xs ++ [z])) → Below base w w' → w.grownBy w' v.ownBlock → K (a.put o.dst v') w') : o.wp Tryd.prog a w K Q := by
  obtain ⟨i0, hi, hz0, hz1, hz2⟩ := info_parts info_str
  refine wp_append_lies w s x 107 ho base 9 i0 _ 1 16 Tryd.underlying107 hi hz0 hz1 hz2 rfl (by omega) v n _ hs hown ⟨H, 0, none⟩ 1 1 [.string z] hx rfl (World.news_of_block (cs := #[.string z]) hnew) (by simp [Value.oneCell']) (by omega) (by unfold maxLen; omega) (by omega) hbase w.heap.size rfl ?_
  intro g cap w' h1 h2 h3 h4
  refine h _ w' (by simpa [strVals] using h1) ((Below.refl base w).grown h2 hbase ?_) h2
  intro k hk
  exact (hown.lt k hk).1
theorem halfOk_tv {n : Int} {h : Hf} (k : halfOk n h = true) : textV h.1 = textL h.1 := by
  have h1 := halfOk_t k
  refine if_pos ?_
  rw [isV_mk (by omega) (by omega)]
  exact small_mk fun i hi => ⟨by have := (h1.2.2.2.1 i hi).1; omega, by have := (h1.2.2.2.1 i hi).2; omega⟩
theorem str_half {h : Hf} {t1 t2 : ByteArray} (h1 : (⟨(textL h.1).toArray⟩ : ByteArray) = t1) (h2 : (⟨(itoa h.2).toArray⟩ : ByteArray) = t2) : t1 ++ ⟨#[60]⟩ ++ t2 = halfB h := by
  rw [← h1, ← h2]
  refine ByteArray.ext (Array.toList_inj.1 ?_)
  simp [halfB]

set_option maxRecDepth 100000 in
set_option maxHeartbeats 3200000 in
theorem i_regtext (r : Rgn) (v : Value) (w : World) (hx : HasPow w) (hv : Rg w v r) :
    Calls Tryd.prog 37 #[v] w (Quiet w (.string ⟨(regT r.1 r.2).toArray⟩)) := by
  have HR := Lib.hid hv
  have HXP := Lib.hid hx
  obtain ⟨n, hs'⟩ := r
  obtain ⟨u, rfl, hss⟩ := hv
  simp only at hss ⊢
  have HV := Lib.hid hss
  obtain ⟨p, c, rfl, hm⟩ := hss.shape
  unfold maxLen at hm
  have K := Lib.hid (Bk.new w #[.int .i64 n, .slice p hs'.length c] 51)
  have B0 := Lib.hid (below1 w (.cells #[.int .i64 n, .slice p hs'.length c] 51))
  clear hss hx
  by_cases c1 : regOk n hs' = true
  case neg =>
    have C1 := Lib.hid (bool_f c1)
    have E := Lib.hid (show regT n hs' = [] from if_neg c1)
    clear c1
    go_enter Tryd.func37, Tryd.ntmps37
    go_wp2_with fail
    refine (i_isreg (n, hs') _ _ (HR.out.below B0.out)).mono ?_
    rintro e w1 ⟨rfl, hb⟩
    rw [show regOk (n, hs').1 (n, hs').2 = false from C1.out]
    have B1 := Lib.hid (B0.out.trans (hb.mono B0.out.size))
    clear hb
    go_wp2_with fail
    go_ret
    exact ⟨ret_str E.out.symm, B1.out⟩
  have C1 := Lib.hid c1
  have E := Lib.hid (show regT n hs' = regTx n hs' from if_pos c1)
  obtain ⟨r1, r2, r3, r4⟩ := regOk_t c1
  have HH := Lib.hid (fun (k : Nat) (hk : k < hs'.length) => And.intro (halfOk_tx (r4 k hk)) (halfOk_tv (r4 k hk)))
  have HSZ := Lib.hid (regB_sizes n hs' (fun h hh => by obtain ⟨i, hi, rfl⟩ := List.mem_iff_getElem.1 hh; exact halfOk_tx (r4 i hi)) (by omega) (by omega))
  clear c1 r4
  go_enter Tryd.func37, Tryd.ntmps37
  go_wp2_with fail
  refine (i_isreg (n, hs') _ _ (HR.out.below B0.out)).mono ?_
  rintro e w1 ⟨rfl, hb⟩
  rw [show regOk (n, hs').1 (n, hs').2 = true from C1.out]
  have B1 := Lib.hid (B0.out.trans (hb.mono B0.out.size))
  have K1 := Lib.hid (K.out.below hb)
  clear hb
  obtain ⟨⟨l0, l1⟩, -⟩ := K1.out.two
  go_wp2_with fail
  refine (ifi n (by omega) (by omega) _ (HXP.out.below B1.out)).mono ?_
  rintro e w2 ⟨rfl, hb⟩
  have B2 := Lib.hid (B1.out.trans (hb.mono B1.out.size))
  have K2 := Lib.hid (K1.out.below hb)
  clear hb l0 l1
  have hb3 := below1 w2 (.cells #[.string ⟨(itoa n).toArray⟩] 9)
  have K3 := Lib.hid (K2.out.below hb3)
  have B3 := Lib.hid (B2.out.trans (hb3.mono B2.out.size))
  have HO := Lib.hid (show (w2.alloc (.cells #[.string ⟨(itoa n).toArray⟩] 9)).ownsRow w2.heap.size 9 1 (.slice (some ⟨w2.heap.size, 0, none⟩) 1 1) (0 + 1) (strVals (regB n (hs'.take 0))) from ⟨by simp [strVals, regB], .inr ⟨w2.heap.size, 1, _, rfl, Nat.le_refl _, heap_alloc_new w2 _, Nat.le_refl _, by unfold maxLen; omega, by simp, by simp [strVals, regB, numeral]⟩⟩)
  obtain ⟨⟨l0, l1⟩, -⟩ := K3.out.two
  clear hb3
  go_wp2
  clear l0 l1
  go_loopw [3, 16] (fun o i wr => ∃ (k : Nat) (pv : Value), k ≤ hs'.length ∧ i = .int .i64 k ∧ pv = o ∧ wr.ownsRow w2.heap.size 9 1 pv (k + 1) (strVals (regB n (hs'.take k))) ∧ Below w.heap.size w wr ∧ w2.heap.size ≤ wr.heap.size) (fun _ i _ => hs'.length - (RowKit.intOf i).toNat)
  case atStart => exact ⟨0, _, Nat.zero_le _, rfl, rfl, HO.out, B3.out, by simp⟩
  case round =>
    obtain ⟨k, pv, hk, rfl, rfl, how, hbr, hsz⟩ := hrel
    have HW := Lib.hid how
    have HB := Lib.hid hbr
    by_cases hlt : k < hs'.length
    · obtain ⟨b, off, y, rfl, _, hb2, hcell, hcell1, hsx⟩ := HV.out.half k hlt rfl
      rw [← hbr.cell (p := ⟨b, off + k * 2, none⟩) hb2] at hcell
      rw [← hbr.cell (p := ⟨b, off + k * 2 + 1, none⟩) hb2] at hcell1
      have HX := Lib.hid hsx
      obtain ⟨xa, xc, rfl, _, _⟩ := hsx.shape
      rw [intVals_len] at hcell HX
      have i1 : (0 : Int) ≤ (k : Int) := by omega
      have i2 : (k : Int) < (hs'.length : Int) := by omega
      have HK := Lib.hid (HH.out k hlt)
      have HRB := Lib.hid (regB_take (n := n) hlt)
      obtain ⟨t1, ht1⟩ : ∃ q : ByteArray, (⟨(textL hs'[k].1).toArray⟩ : ByteArray) = q := ⟨_, rfl⟩
      obtain ⟨t2, ht2⟩ : ∃ q : ByteArray, (⟨(itoa hs'[k].2).toArray⟩ : ByteArray) = q := ⟨_, rfl⟩
      have hz1 : t1.size ≤ 66 := by have h := textL_len _ HK.out.1.2.1; have h3 := HK.out.1.1; rw [← ht1]; show (textL hs'[k].1).toArray.size ≤ 66; simp only [List.size_toArray]; omega
      have hz2 : t2.size ≤ 21 := by rw [← ht2]; exact numeral_size _ HK.out.1.2.2.1 HK.out.1.2.2.2
      have HT1 := Lib.hid ht1
      have HT2 := Lib.hid ht2
      have HST := Lib.hid (str_half ht1 ht2)
      have HNB := Lib.hid (below1 wr (.cells #[.slice xa hs'[k].1.length xc, .int .i64 hs'[k].2] 105))
      have KH := Lib.hid (Bk.new wr #[.slice xa hs'[k].1.length xc, .int .i64 hs'[k].2] 105)
      clear hsx hb2 ht1 ht2 how hbr
      go_wp2
      refine wgen ?_
      intro W hW
      have KW := Lib.hid (show Bk W wr.heap.size #[.slice xa hs'[k].1.length xc, .int .i64 hs'[k].2] 105 ∧ Below wr.heap.size wr W by rw [hW]; exact ⟨KH.out, HNB.out⟩)
      clear hW KH HNB hcell hcell1
      obtain ⟨⟨m0, m1⟩, -⟩ := KW.out.1.two
      refine T_begin (z := fun k => 10 < k) (S := fun (w' : World) => w'.cell? ⟨wr.heap.size, 0, none⟩ = some (.slice xa hs'[k].1.length xc) ∧ w'.cell? ⟨wr.heap.size, 1, none⟩ = some (.int .i64 hs'[k].2)) (by kernel_rfl) ?_
      show wpAnyT _ _ _ _ _ _ 12 _ _ _
      have hS0 := Lib.hid (show (fun (w' : World) => w'.cell? ⟨wr.heap.size, 0, none⟩ = some (.slice xa hs'[k].1.length xc) ∧ w'.cell? ⟨wr.heap.size, 1, none⟩ = some (.int .i64 hs'[k].2)) _ from ⟨m0, m1⟩)
      refine T_take (i := 0) (v := pv) rfl (by kernel_rfl) (by kernel_rfl) (by kernel_rfl) (by kernel_rfl) (fun _ _ _ h => h) hS0.out rfl (fun w' hS' => by (try dsimp only at hS'); go_simp) ?_
      refine T_take (i := 1) (v := .pointer (some ⟨wr.heap.size, 0, none⟩)) rfl (by kernel_rfl) (by kernel_rfl) (by kernel_rfl) (by kernel_rfl) (fun _ _ _ h => h) hS0.out rfl (fun w' hS' => by (try dsimp only at hS'); go_simp) ?_
      refine T_take (i := 2) (v := .slice xa hs'[k].1.length xc) rfl (by kernel_rfl) (by kernel_rfl) (by kernel_rfl) (by kernel_rfl) (fun _ _ _ h => h) hS0.out rfl (fun w' hS' => by (try dsimp only at hS'); go_simp) ?_
      refine T_take (i := 5) (v := .pointer (some ⟨wr.heap.size, 1, none⟩)) rfl (by kernel_rfl) (by kernel_rfl) (by kernel_rfl) (by kernel_rfl) (fun _ _ _ h => h) hS0.out rfl (fun w' hS' => by (try dsimp only at hS'); go_simp) ?_
      refine T_take (i := 6) (v := .int .i64 hs'[k].2) rfl (by kernel_rfl) (by kernel_rfl) (by kernel_rfl) (by kernel_rfl) (fun _ _ _ h => h) hS0.out rfl (fun w' hS' => by (try dsimp only at hS'); go_simp) ?_
      refine T_step (i := 3) rfl (by kernel_rfl) rfl rfl ?_
      intro K hK
      go_simp
      refine (i_text hs'[k].1 _ _ (HXP.out.below (HB.out.trans (KW.out.2.mono HB.out.size)).drew) (HX.out.below (HB.out.trans (KW.out.2.mono HB.out.size)).drew)).mono ?_
      rintro e w3 ⟨rfl, hb1⟩
      rw [HK.out.2, HT1.out]
      have hb1 : Below W.heap.size W w3 := (Below.refl _ _).drew.trans hb1
      have s1 := show (fun (w' : World) => w'.cell? ⟨wr.heap.size, 0, none⟩ = some (.slice xa hs'[k].1.length xc) ∧ w'.cell? ⟨wr.heap.size, 1, none⟩ = some (.int .i64 hs'[k].2)) w3 from (KW.out.1.below hb1).two.1
      have HB3 := Lib.hid (KW.out.2.trans (hb1.mono KW.out.2.size))
      have K3 := Lib.hid (KW.out.1.below hb1)
      clear hb1 hS0
      refine hK.out _ _ s1 ?_
      clear hK K
      have hS1 := Lib.hid s1
      clear s1
      refine T_take (i := 4) (v := .string (t1 ++ ⟨#[60]⟩)) rfl (by kernel_rfl) (by kernel_rfl) (by kernel_rfl) (by kernel_rfl) (fun _ _ _ h => h) hS1.out rfl (fun w' hS' => by go_simp; omega) ?_
      refine T_step (i := 7) rfl (by kernel_rfl) rfl rfl ?_
      intro K hK
      go_simp
      refine (ifi hs'[k].2 HK.out.1.2.2.1 HK.out.1.2.2.2 _ (HXP.out.below (HB.out.trans (HB3.out.mono HB.out.size)))).mono ?_
      rintro e w4 ⟨rfl, hb1⟩
      rw [HT2.out]
      have s2 := show (fun (w' : World) => w'.cell? ⟨wr.heap.size, 0, none⟩ = some (.slice xa hs'[k].1.length xc) ∧ w'.cell? ⟨wr.heap.size, 1, none⟩ = some (.int .i64 hs'[k].2)) w4 from (K3.out.below hb1).two.1
      have HB4 := Lib.hid (HB3.out.trans (hb1.mono HB3.out.size))
      have K4 := Lib.hid (K3.out.below hb1)
      clear hb1 hS1
      refine hK.out _ _ s2 ?_
      clear hK K
      have hS2 := Lib.hid s2
      clear s2
      refine T_take (i := 8) (v := .string (t1 ++ ⟨#[60]⟩ ++ t2)) rfl (by kernel_rfl) (by kernel_rfl) (by kernel_rfl) (by kernel_rfl) (fun _ _ _ h => h) hS2.out rfl (fun w' hS' => by go_simp; omega) ?_
      refine T_step (i := 9) rfl (by kernel_rfl) rfl rfl ?_
      intro K hK
      go_simp
      have hb5 := below1 w4 (.cells #[.string (t1 ++ ⟨#[60]⟩ ++ t2)] 9)
      have s3 := show (fun (w' : World) => w'.cell? ⟨wr.heap.size, 0, none⟩ = some (.slice xa hs'[k].1.length xc) ∧ w'.cell? ⟨wr.heap.size, 1, none⟩ = some (.int .i64 hs'[k].2)) (w4.alloc (.cells #[.string (t1 ++ ⟨#[60]⟩ ++ t2)] 9)) from (K4.out.below hb5).two.1
      have HB5 := Lib.hid (HB4.out.trans (hb5.mono HB4.out.size))
      have K5 := Lib.hid (K4.out.below hb5)
      have HN := Lib.hid (heap_alloc_new w4 (.cells #[.string (t1 ++ ⟨#[60]⟩ ++ t2)] 9))
      clear hb5 hS2
      refine hK.out _ _ s3 ?_
      clear hK K s3
      refine T_step (i := 10) rfl (by kernel_rfl) rfl rfl ?_
      intro K hK
      refine wp_app_str _ _ (by rfl) w2.heap.size _ (k + 1) (regB n (hs'.take k)) _ (by rfl) (owns_below HW.out HB5.out) w4.heap.size (by rfl) HN.out (by omega) (Nat.le_trans hsz HB5.out.size) ?_
      intro v' w6 hown hb6 hg6
      rw [HST.out] at hown
      rw [← HRB.out] at hown
      have HO6 := Lib.hid hown
      have HB6 := Lib.hid (show Below w2.heap.size wr w6 from (HB5.out.mono hsz).trans hb6)
      have s6 := show (fun (w' : World) => w'.cell? ⟨wr.heap.size, 0, none⟩ = some (.slice xa hs'[k].1.length xc) ∧ w'.cell? ⟨wr.heap.size, 1, none⟩ = some (.int .i64 hs'[k].2)) w6 from (K5.out.grown hg6 (fun e => by have h := (HW.out.lt _ e.symm).2; omega)).two.1
      clear hown hb6 hg6
      refine hK.out _ _ s6 ?_
      clear hK K s6
      refine T_last (i := 11) rfl (by kernel_rfl) (by kernel_rfl) rfl rfl ?_
      go_simp
      go_wp2
      exact ⟨⟨k + 1, _, by omega, by go_num, rfl, HO6.out, HB.out.trans (HB6.out.mono B2.out.size), Nat.le_trans hsz HB6.out.size⟩, by simp [RowKit.intOf]; omega⟩
    · obtain rfl : k = hs'.length := by omega
      have hw := HW.out
      rw [List.take_length] at hw
      have HW2 := Lib.hid (Sl.of_owns hw)
      have HJ := Lib.hid (show jn [59] (regB n hs') = regT n hs' by rw [regB_join, E.out])
      have HLN := Lib.hid (regB_len n hs')
      clear hw how hbr
      go_wp2_with fail
      refine (ijoin (regB n hs') ⟨#[59]⟩ _ _ HW2.out (by rw [HLN.out]; omega) (by show 1 ≤ 1048576; omega) (by have := HSZ.out; omega)).mono ?_
      rintro e w7 ⟨rfl, hb1⟩
      have HB1 := Lib.hid (HB.out.trans (hb1.mono HB.out.size))
      clear hb1
      go_wp2_with fail
      go_ret
      exact ⟨ret_str HJ.out, HB1.out⟩
end Go.Proofs.YtmogncpkdkdodaaDoor
