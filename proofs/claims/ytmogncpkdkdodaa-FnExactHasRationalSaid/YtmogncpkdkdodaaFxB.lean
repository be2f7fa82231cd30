/- The program's region out of halves of fixed length. -/
import Derived.Test.YtmogncpkdkdodaaFxA
namespace Go.Proofs.Ytmogncpkdkdodaa
open Go.RowKit Go.Lib

/-- A region with these halves, if they are one. -/
def regR (n : Int) (hs : List Hf) : Rgn × Bool := if regOk n hs = true then ((n, hs), true) else ((0, []), false)
theorem got_mk2 {w : World} {r r' : Rgn × Bool} {e : Ending} {w' : World} (h : r' = r) (g : GotG w r e w') : GotG w r' e w' := by subst h; exact g
/-- The numbers in a box of four cells, the first n of the first three. -/
theorem sl_fx {w : World} {B : Nat} {h : Hf} {T : TypeId} (n : Nat) (h1 : h.1.length = n) (h0 : 1 ≤ n) (h3 : n ≤ 3) (hb : Bk w B #[.int .i64 (h.1.getD 0 0), .int .i64 (h.1.getD 1 0), .int .i64 (h.1.getD 2 0), .int .i64 h.2] T) : Sl w (.slice (some ⟨B, 0, none⟩) n 3) (intVals h.1) := by
  subst h1
  obtain ⟨v, z⟩ := h
  simp only at h0 h3 hb ⊢
  refine .inr ⟨fun e => by rw [← intVals_len, e] at h0; simp at h0, B, 0, 3, by rw [intVals_len], by rw [intVals_len]; exact h3, by rw [intVals_len]; unfold maxLen; omega, hb.lt, fun i x hx => ?_⟩
  have hi := lt_of_get hx
  rw [intVals_len] at hi
  rw [intVals_get v i hi] at hx
  obtain rfl := Option.some.inj hx
  rw [Nat.zero_add]
  rcases (by omega : i = 0 ∨ i = 1 ∨ i = 2) with rfl | rfl | rfl
  · exact hb.cell 0 (by simp [List.getElem?_eq_getElem hi])
  · exact hb.cell 1 (by simp [List.getElem?_eq_getElem hi])
  · exact hb.cell 2 (by simp [List.getElem?_eq_getElem hi])
/-- What regionOf's loop keeps: the answer's box, the region's box, its halves. -/
def OfI (w : World) (n : Int) (hs : List Hf) (u : Value) (wr : World) : Prop :=
  Bk wr w.heap.size #[.int .i64 0, .slice none 0 0] 26 ∧ Bk wr (w.heap.size + 1) #[.int .i64 n, u] 26 ∧ OwH 48 3 (w.heap.size + 2) wr.heap.size wr u hs ∧ Below w.heap.size w wr ∧ w.heap.size + 2 ≤ wr.heap.size
set_option maxRecDepth 100000 in
set_option maxHeartbeats 3200000 in
theorem i_regof (n : Nat) (hs' : List Hf) (lo hi : Nat) (v : Value) (w : World) (hv : OwF 91 lo hi w v hs') (h1 : 1 ≤ n) (h3 : n ≤ 3) (hp : ∀ (k : Nat) (hk : k < hs'.length), hs'[k].1.length = n) (hl : hs'.length ≤ 1048576) :
    Calls Try.prog 65 #[.int .i64 n, v] w (GotG w (regR n hs')) := by
  have HV := Lib.hid hv
  have HP := Lib.hid hp
  obtain ⟨a, c, rfl, hm⟩ := hv.shape
  unfold maxLen at hm
  have K := Lib.hid (Bk.pair w #[.int .i64 0, .slice none 0 0] #[.int .i64 n, .slice none 0 0] 26 26)
  have B0 := Lib.hid (below2 w (.cells #[.int .i64 0, .slice none 0 0] 26) (.cells #[.int .i64 n, .slice none 0 0] 26))
  clear hv hp
  go_enter Try.func65, Try.ntmps65
  go_wp2
  go_loopw [13] (fun i wr => ∃ (k : Nat) (u : Value), k ≤ hs'.length ∧ i = .int .i64 k ∧ OfI w n (hs'.take k) u wr) (fun i _ => hs'.length - (RowKit.intOf i).toNat)
  case atStart => exact ⟨0, _, Nat.zero_le _, rfl, K.out.1, K.out.2, OwH.nil, B0.out, by simp⟩
  case round =>
    obtain ⟨k, u, hk, rfl, hci⟩ := hrel
    have HC := Lib.hid hci
    clear hci
    obtain ⟨⟨-, m1⟩, -, mf1⟩ := HC.out.2.1.two
    by_cases hlt : k < hs'.length
    · obtain ⟨b, rfl, p1, p2, p3, p4, ⟨d0, d1, d2, d3⟩, hfr⟩ := (HV.out.below HC.out.2.2.2.1).at k hlt rfl
      have HPk := Lib.hid (HP.out k hlt)
      have ht : (hs'.take k).length = k := by rw [List.length_take]; omega
      obtain ⟨ua, uc, rfl, hum⟩ := HC.out.2.2.1.hs.shape
      rw [ht] at m1 HC
      have HT := Lib.hid ht
      have i1 : (0 : Int) ≤ (k : Int) := by omega
      have i2 : (k : Int) < (hs'.length : Int) := by omega
      obtain ⟨x0, hx0⟩ : ∃ q : Int, hs'[k].1.getD 0 0 = q := ⟨_, rfl⟩
      obtain ⟨x1, hx1⟩ : ∃ q : Int, hs'[k].1.getD 1 0 = q := ⟨_, rfl⟩
      obtain ⟨x2, hx2⟩ : ∃ q : Int, hs'[k].1.getD 2 0 = q := ⟨_, rfl⟩
      obtain ⟨bk, hbk⟩ : ∃ q : Int, hs'[k].2 = q := ⟨_, rfl⟩
      rw [hx0] at d0
      rw [hx1] at d1
      rw [hx2] at d2
      rw [hbk] at d3
      have KH := Lib.hid (show Bk (wr.alloc (.cells #[.int .i64 x0, .int .i64 x1, .int .i64 x2, .int .i64 bk] 91)) wr.heap.size #[.int .i64 (hs'[k].1.getD 0 0), .int .i64 (hs'[k].1.getD 1 0), .int .i64 (hs'[k].1.getD 2 0), .int .i64 hs'[k].2] 91 by rw [hx0, hx1, hx2, hbk]; exact Bk.new _ _ _)
      have HBK := Lib.hid hbk
      have HNB := Lib.hid (below1 wr (.cells #[.int .i64 x0, .int .i64 x1, .int .i64 x2, .int .i64 bk] 91))
      clear ht hum hfr p1 p2 p3 hx0 hx1 hx2 hbk m1 mf1
      have n1 : (0 : Int) ≤ (n : Int) := by omega
      have n2 : (n : Int) ≤ (3 : Int) := by omega
      go_wp2
      refine wgen ?_
      intro W hW
      have KW := Lib.hid (show Bk W wr.heap.size #[.int .i64 (hs'[k].1.getD 0 0), .int .i64 (hs'[k].1.getD 1 0), .int .i64 (hs'[k].1.getD 2 0), .int .i64 hs'[k].2] 91 ∧ Below wr.heap.size wr W by rw [hW]; exact ⟨KH.out, HNB.out⟩)
      clear hW KH HNB d0 d1 d2 d3
      have d3 : W.cell? ⟨wr.heap.size, 3, none⟩ = some (.int .i64 hs'[k].2) := KW.out.1.cell 3 rfl
      obtain ⟨⟨-, m1⟩, -⟩ := (HC.out.2.1.below KW.out.2).two
      have HX := Lib.hid (sl_fx n HPk.out h1 h3 KW.out.1)
      refine T_begin (z := fun k => 10 < k) (S := fun (w' : World) => w'.cell? ⟨w.heap.size + 1, 1, none⟩ = some (.slice ua k uc) ∧ w'.cell? ⟨wr.heap.size, 3, none⟩ = some (.int .i64 hs'[k].2)) (by kernel_rfl) ?_
      show wpAnyT _ _ _ _ _ _ 13 _ _ _
      have hS0 := Lib.hid (show (fun (w' : World) => w'.cell? ⟨w.heap.size + 1, 1, none⟩ = some (.slice ua k uc) ∧ w'.cell? ⟨wr.heap.size, 3, none⟩ = some (.int .i64 hs'[k].2)) _ from ⟨m1, d3⟩)
      refine T_take (i := 0) (v := .pointer (some ⟨w.heap.size + 1, 1, none⟩)) rfl (by kernel_rfl) (by kernel_rfl) (by kernel_rfl) (by kernel_rfl) (fun _ _ _ h => h) hS0.out rfl (fun w' hS' => by (try dsimp only at hS'); go_simp) ?_
      refine T_take (i := 1) (v := .slice ua k uc) rfl (by kernel_rfl) (by kernel_rfl) (by kernel_rfl) (by kernel_rfl) (fun _ _ _ h => h) hS0.out rfl (fun w' hS' => by (try dsimp only at hS'); go_simp) ?_
      refine T_take (i := 2) (v := .pointer (some ⟨wr.heap.size, 0, none⟩)) rfl (by kernel_rfl) (by kernel_rfl) (by kernel_rfl) (by kernel_rfl) (fun _ _ _ h => h) hS0.out rfl (fun w' hS' => by (try dsimp only at hS'); go_simp) ?_
      refine T_take (i := 3) (v := .int .i64 n) rfl (by kernel_rfl) (by kernel_rfl) (by kernel_rfl) (by kernel_rfl) (fun _ _ _ h => h) hS0.out rfl (fun w' hS' => by (try dsimp only at hS'); go_simp) ?_
      refine T_take (i := 4) (v := .slice (some ⟨wr.heap.size, 0, none⟩) n 3) rfl (by kernel_rfl) (by kernel_rfl) (by kernel_rfl) (by kernel_rfl) (fun _ _ _ h => h) hS0.out rfl (fun w' hS' => by (try dsimp only at hS'); go_simp) ?_
      refine T_take (i := 6) (v := .pointer (some ⟨wr.heap.size, 3, none⟩)) rfl (by kernel_rfl) (by kernel_rfl) (by kernel_rfl) (by kernel_rfl) (fun _ _ _ h => h) hS0.out rfl (fun w' hS' => by (try dsimp only at hS'); go_simp) ?_
      refine T_take (i := 7) (v := .int .i64 hs'[k].2) rfl (by kernel_rfl) (by kernel_rfl) (by kernel_rfl) (by kernel_rfl) (fun _ _ _ h => h) hS0.out rfl (fun w' hS' => by (try dsimp only at hS'); go_simp) ?_
      refine T_step (i := 5) rfl (by kernel_rfl) rfl rfl ?_
      intro K hK
      go_simp
      refine (i_clone hs'[k].1 (some ⟨wr.heap.size, 0, none⟩) n 3 _ (by have := HPk.out; omega) (by have := HPk.out; omega) (HX.out.below (Below.refl _ _).drew)).mono ?_
      rintro e w1 ⟨⟨z, rfl, ho⟩, hb⟩
      have hb : Below W.heap.size W w1 := (Below.refl _ _).drew.trans hb
      obtain ⟨ra, rc, rfl, _⟩ := ho.shape1
      rw [intVals_len] at ho ⊢
      have HO := Lib.hid (show OwnV 3 W.heap.size w1.heap.size w1 _ _ from ho)
      have HB := Lib.hid (KW.out.2.trans (hb.mono KW.out.2.size))
      have HW1 := Lib.hid hb.size
      have s1 := show (fun (w' : World) => w'.cell? ⟨w.heap.size + 1, 1, none⟩ = some (.slice ua k uc) ∧ w'.cell? ⟨wr.heap.size, 3, none⟩ = some (.int .i64 hs'[k].2)) w1 from ⟨(hb.cell (p := ⟨w.heap.size + 1, 1, none⟩) (by have h1 := HC.out.2.2.2.2; have h2 := KW.out.2.size; show w.heap.size + 1 < W.heap.size; omega)).trans m1, (hb.cell (p := ⟨wr.heap.size, 3, none⟩) (by have := KW.out.1.lt; exact this)).trans d3⟩
      clear ho hb m1 d3 hS0 HX
      refine hK.out _ _ s1 ?_
      clear hK K
      have hS1 := Lib.hid s1
      refine T_take (i := 8) (v := .agg #[.slice ra hs'[k].1.length rc, .int .i64 hs'[k].2]) rfl (by kernel_rfl) (by kernel_rfl) (by kernel_rfl) (by kernel_rfl) (fun _ _ _ h => h) hS1.out rfl (fun w' hS' => by (try dsimp only at hS'); go_simp) ?_
      refine T_step (i := 9) rfl (by kernel_rfl) rfl rfl ?_
      intro K hK
      go_simp
      have hb2 := below1 w1 (.cells #[.slice ra hs'[k].1.length rc, .int .i64 hs'[k].2] 48)
      have s2 := show (fun (w' : World) => w'.cell? ⟨w.heap.size + 1, 1, none⟩ = some (.slice ua k uc) ∧ w'.cell? ⟨wr.heap.size, 3, none⟩ = some (.int .i64 hs'[k].2)) (w1.alloc (.cells #[.slice ra hs'[k].1.length rc, .int .i64 hs'[k].2] 48)) from ⟨(hb2.cell (p := ⟨w.heap.size + 1, 1, none⟩) (by have h1 := HC.out.2.2.2.2; have h2 := HB.out.size; show w.heap.size + 1 < w1.heap.size; omega)).trans s1.1, (hb2.cell (p := ⟨wr.heap.size, 3, none⟩) (by have h1 := KW.out.1.lt; have h2 := HW1.out; show wr.heap.size < w1.heap.size; omega)).trans s1.2⟩
      clear s1 hS1
      have HB3 := Lib.hid (show Below wr.heap.size wr (w1.alloc (.cells #[.slice ra hs'[k].1.length rc, .int .i64 hs'[k].2] 48)) from HB.out.trans (hb2.mono HB.out.size))
      have HO2 := Lib.hid (HO.out.below hb2)
      have HN := Lib.hid (heap_alloc_new w1 (.cells #[.slice ra hs'[k].1.length rc, .int .i64 hs'[k].2] 48))
      have HR := Lib.hid (HC.out.2.2.1.below HB3.out)
      have HZ := Lib.hid hb2.size
      have HW2 := Lib.hid (show W.heap.size ≤ (w1.alloc (.cells #[.slice ra hs'[k].1.length rc, .int .i64 hs'[k].2] 48)).heap.size from Nat.le_trans HW1.out hb2.size)
      clear hb2 HO
      refine hK.out _ _ s2 ?_
      clear hK K
      refine T_step (i := 10) rfl (by kernel_rfl) rfl rfl ?_
      intro K hK
      refine wp_app_half _ _ (by rfl) (w.heap.size + 2) wr.heap.size _ _ (hs'.take k) hs'[k] (by rfl) HR.out (HO2.out.mono KW.out.2.size HZ.out) w1.heap.size (by rfl) HN.out (by have := HT.out; omega) HC.out.2.2.2.2 HB3.out.size ?_
      intro g cap w2 ho hk2
      rw [HT.out, ← List.take_succ_eq_append_getElem hlt] at ho
      rw [HT.out]
      have hs2 : w.heap.size + 2 ≤ (w1.alloc (.cells #[.slice ra hs'[k].1.length rc, .int .i64 hs'[k].2] 48)).heap.size := Nat.le_trans HC.out.2.2.2.2 HB3.out.size
      have hs3 : wr.heap.size < (w1.alloc (.cells #[.slice ra hs'[k].1.length rc, .int .i64 hs'[k].2] 48)).heap.size := Nat.lt_of_lt_of_le KW.out.1.lt HW2.out
      have s3 := show (fun (w' : World) => w'.cell? ⟨w.heap.size + 1, 1, none⟩ = some (.slice ua k uc) ∧ w'.cell? ⟨wr.heap.size, 3, none⟩ = some (.int .i64 hs'[k].2)) w2 from ⟨(hk2.cellAt (p := ⟨w.heap.size + 1, 1, none⟩) (by show w.heap.size + 1 < _; omega) (.inl (by show w.heap.size + 1 < _; omega))).trans s2.1, (hk2.cellAt (p := ⟨wr.heap.size, 3, none⟩) (by show wr.heap.size < _; omega) (.inr (Nat.le_refl _))).trans s2.2⟩
      have P1 := Lib.hid ((HC.out.1.below HB3.out).kept hk2 (.inl (by omega)))
      have P2 := Lib.hid ((HC.out.2.1.below HB3.out).kept hk2 (.inl (by omega)))
      have P4 := Lib.hid (HC.out.2.2.2.1.trans ((HB3.out.mono HC.out.2.2.2.1.size).trans (hk2.below (by omega) (by omega))))
      have P5 := Lib.hid ho
      have P6 := Lib.hid (Nat.le_trans hs2 hk2.size)
      clear ho hk2 hs2 hs3 s2 HR HO2 HN HZ
      refine hK.out _ _ s3 ?_
      clear hK K s3
      refine T_anytake (i := 11) (v := .pointer (some ⟨w.heap.size + 1, 1, none⟩)) rfl (by kernel_rfl) (by kernel_rfl) (by kernel_rfl) rfl (fun _ _ _ h => h) rfl (fun w' => by go_simp) ?_
      obtain ⟨⟨-, q0⟩, -, q1⟩ := P2.out.two
      refine T_last (i := 12) rfl (by kernel_rfl) (by kernel_rfl) rfl rfl ?_
      go_simp
      go_wp2
      exact ⟨⟨k + 1, _, by omega, by go_num, P1.out.other (by simp) _, P2.out.set1 _, (P5.out.kept ((Kept.refl (w.heap.size + 1) (w.heap.size + 2) w2).setCell (p := ⟨w.heap.size + 1, 1, none⟩) (Nat.le_refl _) (Nat.lt_succ_self _) _) (.inr (Nat.le_refl _))).mono (Nat.le_refl _) (by simp [World.setCell]), P4.out.setCell (by simp) _, by simpa [World.setCell] using P6.out⟩, by simp [RowKit.intOf]; omega⟩
    · obtain rfl : k = hs'.length := by omega
      have ha := HC.out.2.2.1
      rw [List.take_length] at ha
      obtain ⟨ua, uc, rfl, hum⟩ := ha.hs.shape
      have HA := Lib.hid ha
      obtain ⟨⟨l0, l1⟩, -⟩ := HC.out.2.1.two
      clear ha hum m1 mf1
      by_cases cr : regOk n hs' = true
      · have CR := Lib.hid cr
        have HE := Lib.hid (show regR n hs' = (((n : Int), hs'), true) from if_pos cr)
        clear cr
        go_wp2_with fail
        refine (i_isreg ((n : Int), hs') _ _ ⟨_, rfl, HA.out.hs⟩).mono ?_
        rintro e w5 ⟨rfl, hb⟩
        rw [show regOk ((n : Int), hs').1 ((n : Int), hs').2 = true from CR.out]
        have K5 := Lib.hid (And.intro (HC.out.1.below hb) (HC.out.2.1.below hb))
        have HO5 := Lib.hid (HA.out.below hb)
        have B5 := Lib.hid (HC.out.2.2.2.1.trans (hb.mono HC.out.2.2.2.1.size))
        have HZ5 := Lib.hid hb.size
        clear hb l0 l1
        obtain ⟨⟨p0, p1⟩, pf0, pf1⟩ := K5.out.1.two
        obtain ⟨⟨l0, l1⟩, -⟩ := K5.out.2.two
        go_wp2
        refine bodyPost_ret (v := .tuple #[.agg #[.int .i64 n, .slice ua hs'.length uc], .bool true]) ?_ rfl (got_mk2 HE.out ⟨⟨_, rfl, _, rfl, ?_⟩, (B5.out.setCell (by simp) _).setCell (by simp) _⟩)
        · simp [results, Try.results65, go_sem, p0, p1]
        · exact (HO5.out.kept (((Kept.refl w.heap.size (w.heap.size + 1) w5).setCell (by simp) (by simp) _).setCell (by simp) (by simp) _) (.inr (by omega))).mono (by omega) (by have := HZ5.out; simp [World.setCell]; omega)
      · have CR := Lib.hid (bool_f cr)
        have HE := Lib.hid (show regR n hs' = ((0, []), false) from if_neg cr)
        clear cr
        go_wp2_with fail
        refine (i_isreg ((n : Int), hs') _ _ ⟨_, rfl, HA.out.hs⟩).mono ?_
        rintro e w5 ⟨rfl, hb⟩
        rw [show regOk ((n : Int), hs').1 ((n : Int), hs').2 = false from CR.out]
        have K5 := Lib.hid (HC.out.1.below hb)
        have B5 := Lib.hid (HC.out.2.2.2.1.trans (hb.mono HC.out.2.2.2.1.size))
        clear hb l0 l1
        obtain ⟨⟨p0, p1⟩, pf0, pf1⟩ := K5.out.two
        go_wp2
        refine bodyPost_ret (v := .tuple #[.agg #[.int .i64 0, .slice none 0 0], .bool false]) ?_ rfl (got_mk2 HE.out ⟨⟨_, rfl, OwG.zero⟩, (B5.out.setCell (by simp) _).setCell (by simp) _⟩)
        simp [results, Try.results65, go_sem, p0, p1]
end Go.Proofs.Ytmogncpkdkdodaa
