/- The model's text of a region. -/
import Derived.Test.YtmogncpkdkdodaaDoorRgT
import Derived.Test.YtmogncpkdkdodaaDoorOrd
import Derived.Test.YtmogncpkdkdodaaDoorSplitNum
namespace Go.Proofs.YtmogncpkdkdodaaDoor
open Go.RowKit Go.Lib

theorem keepF3' {w W : World} {p q r : Addr} {x y z : Value} (h1 : W.cell? p = some x) (h2 : W.cell? q = some y) (h4 : W.cell? r = some z) (h3 : Below w.heap.size w W) : W.drew.cell? p = some x ∧ W.drew.cell? q = some y ∧ W.drew.cell? r = some z ∧ Below w.heap.size w W.drew := ⟨h1, h2, h4, h3.drew⟩
theorem keepE3' {w W w1 : World} {p q r : Addr} {x y z : Value} (hp : p.block < w.heap.size) (hq : q.block < w.heap.size) (hr : r.block < w.heap.size) (h1 : W.cell? p = some x) (h2 : W.cell? q = some y) (h4 : W.cell? r = some z) (h3 : Below w.heap.size w W) (hb : Below W.heap.size W w1) :
    w1.cell? p = some x ∧ w1.cell? q = some y ∧ w1.cell? r = some z ∧ Below w.heap.size w w1 :=
  ⟨(hb.cell (Nat.lt_of_lt_of_le hp h3.size)).trans h1, (hb.cell (Nat.lt_of_lt_of_le hq h3.size)).trans h2, (hb.cell (Nat.lt_of_lt_of_le hr h3.size)).trans h4, h3.trans (hb.mono h3.size)⟩
theorem str_step {s : ByteArray} {l t m : List UInt8} (hs : s.data.toList = l) : (s ++ ⟨#[59]⟩ ++ ⟨t.toArray⟩ ++ ⟨#[60]⟩ ++ ⟨m.toArray⟩ : ByteArray) = ⟨(l ++ 59 :: (t ++ 60 :: m)).toArray⟩ := by
  refine ByteArray.ext (Array.toList_inj.1 ?_)
  simp [hs]

set_option maxRecDepth 100000 in
set_option maxHeartbeats 1600000 in
theorem s_regtext (r : Rgn) (v : Value) (w : World) (hv : Rg w v r) :
    Calls Tryd.prog 35 #[v] w (Quiet w (.string ⟨(regT r.1 r.2).toArray⟩)) := by
  have HR := Lib.hid hv
  obtain ⟨n, hs'⟩ := r
  obtain ⟨u, rfl, hss⟩ := hv
  simp only at hss ⊢
  have HV := Lib.hid hss
  obtain ⟨p, c, rfl, hm⟩ := hss.shape
  unfold maxLen at hm
  have K := Lib.hid (Bk.new w #[.int .i64 n, .slice p hs'.length c] 51)
  have B0 := Lib.hid (below1 w (.cells #[.int .i64 n, .slice p hs'.length c] 51))
  clear hss
  by_cases c1 : regOk n hs' = true
  case neg =>
    have C1 := Lib.hid (bool_f c1)
    have E := Lib.hid (show regT n hs' = [] from if_neg c1)
    clear c1
    go_enter Tryd.func35, Tryd.ntmps35
    go_wp2_with fail
    refine (s_isreg (n, hs') _ _ (HR.out.below B0.out)).mono ?_
    rintro e w1 ⟨rfl, hb⟩
    rw [show regOk (n, hs').1 (n, hs').2 = false from C1.out]
    have B1 := Lib.hid (B0.out.trans (hb.mono B0.out.size))
    clear hb
    go_wp2_with fail
    go_ret
    exact ⟨ret_str E.out.symm, B1.out⟩
  have C1 := Lib.hid c1
  have E := Lib.hid (show regT n hs' = regTx n hs' from if_pos c1)
  obtain ⟨r1, r2, r3, r4⟩ := regOk_t c1
  have HH := Lib.hid (fun (k : Nat) (hk : k < hs'.length) => halfOk_tx (r4 k hk))
  have HL := Lib.hid (fun (k : Nat) => show (regTx n (hs'.take k)).length ≤ 21 + 100 * 8 by
    have h := regTx_len n (hs'.take k) (fun h hh => by obtain ⟨i, hi, rfl⟩ := List.mem_iff_getElem.1 (List.mem_of_mem_take hh); exact halfOk_tx (r4 i hi)) (by omega) (by omega)
    have h2 : (hs'.take k).length ≤ 8 := by rw [List.length_take]; omega
    omega)
  clear c1 r4
  go_enter Tryd.func35, Tryd.ntmps35
  go_wp2_with fail
  refine (s_isreg (n, hs') _ _ (HR.out.below B0.out)).mono ?_
  rintro e w1 ⟨rfl, hb⟩
  rw [show regOk (n, hs').1 (n, hs').2 = true from C1.out]
  have B1 := Lib.hid (B0.out.trans (hb.mono B0.out.size))
  have K1 := Lib.hid (K.out.below hb)
  clear hb
  obtain ⟨⟨l0, l1⟩, -⟩ := K1.out.two
  go_wp2_with fail
  refine (fi_any n (by omega) (by omega) _).mono ?_
  rintro e w2 ⟨rfl, hb⟩
  have B2 := Lib.hid (B1.out.trans (hb.mono B1.out.size))
  have K2 := Lib.hid (K1.out.below hb)
  have Z2 := Lib.hid K2.out.lt
  clear hb l0 l1
  go_wp2
  go_loopw [3, 4] (fun o i wr => ∃ (k : Nat) (s : ByteArray), k ≤ hs'.length ∧ i = .int .i64 k ∧ o = .string s ∧ s.data.toList = regTx n (hs'.take k) ∧ Below w2.heap.size w2 wr) (fun _ i _ => hs'.length - (RowKit.intOf i).toNat)
  case atStart => exact ⟨0, _, Nat.zero_le _, rfl, rfl, by simp [regTx, regL], Below.refl _ _⟩
  case round =>
    obtain ⟨k, s, hk, rfl, rfl, ht, hbr⟩ := hrel
    have HT := Lib.hid ht
    have HA := Lib.hid (B2.out.trans (hbr.mono B2.out.size))
    have hsz : s.size ≤ 821 := by have h := HL.out k; rw [← ht, list_len] at h; omega
    obtain ⟨⟨-, l1⟩, -⟩ := (K2.out.below hbr).two
    clear ht
    by_cases hlt : k < hs'.length
    · obtain ⟨b, off, y, rfl, _, hb2, hcell, hcell1, hsx⟩ := HV.out.half k hlt rfl
      rw [← HA.out.cell (p := ⟨b, off + k * 2, none⟩) hb2] at hcell
      rw [← HA.out.cell (p := ⟨b, off + k * 2 + 1, none⟩) hb2] at hcell1
      have HX := Lib.hid hsx
      have i1 : (0 : Int) ≤ (k : Int) := by omega
      have i2 : (k : Int) < (hs'.length : Int) := by omega
      have hb3 : b < w2.heap.size := Nat.lt_of_lt_of_le hb2 B2.out.size
      have hb4 := Z2.out
      have HK := Lib.hid (HH.out k hlt)
      have HTT := Lib.hid (regTx_take (n := n) hlt)
      obtain ⟨t1, ht1⟩ : ∃ q : ByteArray, (⟨(textL hs'[k].1).toArray⟩ : ByteArray) = q := ⟨_, rfl⟩
      obtain ⟨t2, ht2⟩ : ∃ q : ByteArray, (⟨(itoa hs'[k].2).toArray⟩ : ByteArray) = q := ⟨_, rfl⟩
      have hz1 : t1.size ≤ 66 := by have h := textL_len _ HK.out.2.1; have h3 := HK.out.1; rw [← ht1]; show (textL hs'[k].1).toArray.size ≤ 66; simp only [List.size_toArray]; omega
      have hz2 : t2.size ≤ 21 := by rw [← ht2]; exact numeral_size _ HK.out.2.2.1 HK.out.2.2.2
      have HT1 := Lib.hid ht1
      have HT2 := Lib.hid ht2
      clear hsx ht1 ht2
      go_wp2_with fail
      refine T_begin (z := fun k => 18 < k) (S := fun (w' : World) => w'.cell? ⟨w.heap.size, 1, none⟩ = some (.slice (some ⟨b, off, none⟩) hs'.length c) ∧ w'.cell? ⟨b, off + k * 2, none⟩ = some y ∧ w'.cell? ⟨b, off + k * 2 + 1, none⟩ = some (.int .i64 hs'[k].2)) (by kernel_rfl) ?_
      show wpAnyT _ _ _ _ _ _ 20 _ _ _
      have hS0 := Lib.hid (show (fun (w' : World) => w'.cell? ⟨w.heap.size, 1, none⟩ = some (.slice (some ⟨b, off, none⟩) hs'.length c) ∧ w'.cell? ⟨b, off + k * 2, none⟩ = some y ∧ w'.cell? ⟨b, off + k * 2 + 1, none⟩ = some (.int .i64 hs'[k].2)) _ from ⟨l1, hcell, hcell1⟩)
      refine T_take (i := 0) (v := .string s) rfl (by kernel_rfl) (by kernel_rfl) (by kernel_rfl) (by kernel_rfl) (fun _ _ _ h => h) hS0.out rfl (fun w' hS' => by (try dsimp only at hS'); go_simp) ?_
      refine T_take (i := 2) (v := .pointer (some ⟨w.heap.size, 1, none⟩)) rfl (by kernel_rfl) (by kernel_rfl) (by kernel_rfl) (by kernel_rfl) (fun _ _ _ h => h) hS0.out rfl (fun w' hS' => by (try dsimp only at hS'); go_simp) ?_
      refine T_take (i := 3) (v := .slice (some ⟨b, off, none⟩) hs'.length c) rfl (by kernel_rfl) (by kernel_rfl) (by kernel_rfl) (by kernel_rfl) (fun _ _ _ h => h) hS0.out rfl (fun w' hS' => by (try dsimp only at hS'); go_simp) ?_
      refine T_take (i := 4) (v := .int .i64 k) rfl (by kernel_rfl) (by kernel_rfl) (by kernel_rfl) (by kernel_rfl) (fun _ _ _ h => h) hS0.out rfl (fun w' hS' => by (try dsimp only at hS'); go_simp) ?_
      refine T_take (i := 5) (v := .pointer (some ⟨b, off + k * 2, none⟩)) rfl (by kernel_rfl) (by kernel_rfl) (by kernel_rfl) (by kernel_rfl) (fun _ _ _ h => h) hS0.out rfl (fun w' hS' => by (try dsimp only at hS'); go_simp) ?_
      refine T_take (i := 6) (v := .pointer (some ⟨b, off + k * 2, none⟩)) rfl (by kernel_rfl) (by kernel_rfl) (by kernel_rfl) (by kernel_rfl) (fun _ _ _ h => h) hS0.out rfl (fun w' hS' => by (try dsimp only at hS'); go_simp) ?_
      refine T_take (i := 7) (v := y) rfl (by kernel_rfl) (by kernel_rfl) (by kernel_rfl) (by kernel_rfl) (fun _ _ _ h => h) hS0.out rfl (fun w' hS' => by (try dsimp only at hS'); go_simp) ?_
      refine T_take (i := 11) (v := .pointer (some ⟨w.heap.size, 1, none⟩)) rfl (by kernel_rfl) (by kernel_rfl) (by kernel_rfl) (by kernel_rfl) (fun _ _ _ h => h) hS0.out rfl (fun w' hS' => by (try dsimp only at hS'); go_simp) ?_
      refine T_take (i := 12) (v := .slice (some ⟨b, off, none⟩) hs'.length c) rfl (by kernel_rfl) (by kernel_rfl) (by kernel_rfl) (by kernel_rfl) (fun _ _ _ h => h) hS0.out rfl (fun w' hS' => by (try dsimp only at hS'); go_simp) ?_
      refine T_take (i := 13) (v := .int .i64 k) rfl (by kernel_rfl) (by kernel_rfl) (by kernel_rfl) (by kernel_rfl) (fun _ _ _ h => h) hS0.out rfl (fun w' hS' => by (try dsimp only at hS'); go_simp) ?_
      refine T_take (i := 14) (v := .pointer (some ⟨b, off + k * 2, none⟩)) rfl (by kernel_rfl) (by kernel_rfl) (by kernel_rfl) (by kernel_rfl) (fun _ _ _ h => h) hS0.out rfl (fun w' hS' => by (try dsimp only at hS'); go_simp) ?_
      refine T_take (i := 15) (v := .pointer (some ⟨b, off + k * 2 + 1, none⟩)) rfl (by kernel_rfl) (by kernel_rfl) (by kernel_rfl) (by kernel_rfl) (fun _ _ _ h => h) hS0.out rfl (fun w' hS' => by (try dsimp only at hS'); go_simp) ?_
      refine T_take (i := 16) (v := .int .i64 hs'[k].2) rfl (by kernel_rfl) (by kernel_rfl) (by kernel_rfl) (by kernel_rfl) (fun _ _ _ h => h) hS0.out rfl (fun w' hS' => by (try dsimp only at hS'); go_simp) ?_
      refine T_take (i := 1) (v := .string (s ++ ⟨#[59]⟩)) rfl (by kernel_rfl) (by kernel_rfl) (by kernel_rfl) (by kernel_rfl) (fun _ _ _ h => h) hS0.out rfl (fun w' hS' => by go_simp; omega) ?_
      refine T_step (i := 8) rfl (by kernel_rfl) rfl rfl ?_
      intro K hK
      go_simp
      refine (s_l2text hs'[k].1 HK.out.2.1 (by have := HK.out.1; omega) _ _ (HX.out.below HA.out.drew)).mono ?_
      rintro e w3 ⟨rfl, hb1⟩
      rw [HT1.out]
      have hb1 : Below wr.heap.size wr w3 := (Below.refl _ _).drew.trans hb1
      have s1 := show (fun (w' : World) => w'.cell? ⟨w.heap.size, 1, none⟩ = some (.slice (some ⟨b, off, none⟩) hs'.length c) ∧ w'.cell? ⟨b, off + k * 2, none⟩ = some y ∧ w'.cell? ⟨b, off + k * 2 + 1, none⟩ = some (.int .i64 hs'[k].2)) w3 from ⟨(hb1.cell (p := ⟨w.heap.size, 1, none⟩) (Nat.lt_of_lt_of_le hb4 hbr.size)).trans l1, (hb1.cell (p := ⟨b, off + k * 2, none⟩) (Nat.lt_of_lt_of_le hb3 hbr.size)).trans hcell, (hb1.cell (p := ⟨b, off + k * 2 + 1, none⟩) (Nat.lt_of_lt_of_le hb3 hbr.size)).trans hcell1⟩
      have HB3 := Lib.hid hb1
      clear hb1 hS0
      refine hK.out _ _ s1 ?_
      clear hK K
      have hS1 := Lib.hid s1
      clear s1
      refine T_take (i := 9) (v := .string (s ++ ⟨#[59]⟩ ++ t1)) rfl (by kernel_rfl) (by kernel_rfl) (by kernel_rfl) (by kernel_rfl) (fun _ _ _ h => h) hS1.out rfl (fun w' hS' => by go_simp; omega) ?_
      refine T_take (i := 10) (v := .string (s ++ ⟨#[59]⟩ ++ t1 ++ ⟨#[60]⟩)) rfl (by kernel_rfl) (by kernel_rfl) (by kernel_rfl) (by kernel_rfl) (fun _ _ _ h => h) hS1.out rfl (fun w' hS' => by go_simp; omega) ?_
      refine T_step (i := 17) rfl (by kernel_rfl) rfl rfl ?_
      intro K hK
      go_simp
      refine (fi_any hs'[k].2 HK.out.2.2.1 HK.out.2.2.2 _).mono ?_
      rintro e w4 ⟨rfl, hb1⟩
      rw [HT2.out]
      have s2 := show (fun (w' : World) => w'.cell? ⟨w.heap.size, 1, none⟩ = some (.slice (some ⟨b, off, none⟩) hs'.length c) ∧ w'.cell? ⟨b, off + k * 2, none⟩ = some y ∧ w'.cell? ⟨b, off + k * 2 + 1, none⟩ = some (.int .i64 hs'[k].2)) w4 from ⟨((HB3.out.trans (hb1.mono HB3.out.size)).cell (p := ⟨w.heap.size, 1, none⟩) (Nat.lt_of_lt_of_le hb4 hbr.size)).trans l1, ((HB3.out.trans (hb1.mono HB3.out.size)).cell (p := ⟨b, off + k * 2, none⟩) (Nat.lt_of_lt_of_le hb3 hbr.size)).trans hcell, ((HB3.out.trans (hb1.mono HB3.out.size)).cell (p := ⟨b, off + k * 2 + 1, none⟩) (Nat.lt_of_lt_of_le hb3 hbr.size)).trans hcell1⟩
      have HB1 := Lib.hid (show Below w2.heap.size w2 w4 from hbr.trans ((HB3.out.trans (hb1.mono HB3.out.size)).mono hbr.size))
      clear hb1 hS1 hbr l1 hcell hcell1
      refine hK.out _ _ s2 ?_
      clear hK K
      have hS2 := Lib.hid s2
      clear s2
      refine T_take (i := 18) (v := .string (s ++ ⟨#[59]⟩ ++ t1 ++ ⟨#[60]⟩ ++ t2)) rfl (by kernel_rfl) (by kernel_rfl) (by kernel_rfl) (by kernel_rfl) (fun _ _ _ h => h) hS2.out rfl (fun w' hS' => by go_simp; omega) ?_
      refine T_last (i := 19) rfl (by kernel_rfl) (by kernel_rfl) rfl rfl ?_
      go_simp
      go_wp2
      refine ⟨⟨k + 1, _, by omega, by go_num, rfl, ?_, HB1.out⟩, by simp [RowKit.intOf]; omega⟩
      rw [HTT.out, ← HT.out, ← HT1.out, ← HT2.out]
      simp
    · obtain rfl : k = hs'.length := by omega
      have E2 := Lib.hid (show s = ⟨(regT n hs').toArray⟩ by have h := HT.out; rw [List.take_length] at h; rw [E.out]; exact ba_eq h)
      clear hbr
      go_wp2
      go_ret
      exact ⟨congrArg (fun q => Ending.returned (Value.string q)) E2.out, HA.out⟩
end Go.Proofs.YtmogncpkdkdodaaDoor
