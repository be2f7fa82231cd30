/- The model's copies of halves and regions. -/
import Derived.Test.YtflkalgofkpdbaaHfB
import Derived.Test.YtflkalgofkpdbaaRegS
import Derived.Test.YtflkalgofkpdbaaMeet
namespace Go.Proofs.Ytflkalgofkpdbaa
open Go.RowKit Go.Lib

set_option maxRecDepth 100000 in
set_option maxHeartbeats 800000 in
theorem s_one (h : Hf) (v : Value) (w : World) (hv : Hv w v h) (h0 : 0 < h.1.length) (hl : h.1.length ≤ 1048576) :
    Calls Try.prog 53 #[v] w (MadeHv w h) := by
  obtain ⟨u, rfl, hs⟩ := hv
  have HS := Lib.hid hs
  have K := Lib.hid (Bk.pair w #[u, .int .i64 h.2] #[.slice none 0 0, .int .i64 0] 27 27)
  have B0 := Lib.hid (below2 w (.cells #[u, .int .i64 h.2] 27) (.cells #[.slice none 0 0, .int .i64 0] 27))
  have Z0 := Lib.hid (show ((w.alloc (.cells #[u, .int .i64 h.2] 27)).alloc (.cells #[.slice none 0 0, .int .i64 0] 27)).heap.size = w.heap.size + 2 by simp)
  obtain ⟨a, c, rfl, hm, _⟩ := hs.shape
  rw [intVals_len] at hm HS K B0 Z0 ⊢
  clear hs
  go_enter Try.func53, Try.ntmps53
  go_wp2
  refine wgen ?_
  intro W hW
  have KW := Lib.hid (show Bk W w.heap.size #[.slice a h.1.length c, .int .i64 h.2] 27 ∧ Bk W (w.heap.size + 1) #[.slice none 0 0, .int .i64 0] 27 ∧ Below w.heap.size w W ∧ W.heap.size = w.heap.size + 2 by rw [hW]; exact ⟨K.out.1, K.out.2, B0.out, Z0.out⟩)
  clear hW K B0 Z0
  obtain ⟨⟨l0, l1⟩, -⟩ := KW.out.1.two
  refine T_begin (z := fun k => 6 < k) (S := fun (w' : World) => w'.cell? ⟨w.heap.size, 0, none⟩ = some (.slice a h.1.length c) ∧ w'.cell? ⟨w.heap.size, 1, none⟩ = some (.int .i64 h.2)) (by kernel_rfl) ?_
  show wpAnyT _ _ _ _ _ _ 8 _ _ _
  have hS0 := Lib.hid (show (fun (w' : World) => w'.cell? ⟨w.heap.size, 0, none⟩ = some (.slice a h.1.length c) ∧ w'.cell? ⟨w.heap.size, 1, none⟩ = some (.int .i64 h.2)) _ from ⟨l0, l1⟩)
  refine T_take (i := 1) (v := .pointer (some ⟨w.heap.size, 0, none⟩)) rfl (by kernel_rfl) (by kernel_rfl) (by kernel_rfl) (by kernel_rfl) (fun _ _ _ h => h) hS0.out rfl (fun w' hS' => by (try dsimp only at hS'); go_simp) ?_
  refine T_take (i := 2) (v := .slice a h.1.length c) rfl (by kernel_rfl) (by kernel_rfl) (by kernel_rfl) (by kernel_rfl) (fun _ _ _ h => h) hS0.out rfl (fun w' hS' => by (try dsimp only at hS'); go_simp) ?_
  refine T_take (i := 4) (v := .pointer (some ⟨w.heap.size, 1, none⟩)) rfl (by kernel_rfl) (by kernel_rfl) (by kernel_rfl) (by kernel_rfl) (fun _ _ _ h => h) hS0.out rfl (fun w' hS' => by (try dsimp only at hS'); go_simp) ?_
  refine T_take (i := 5) (v := .int .i64 h.2) rfl (by kernel_rfl) (by kernel_rfl) (by kernel_rfl) (by kernel_rfl) (fun _ _ _ h => h) hS0.out rfl (fun w' hS' => by (try dsimp only at hS'); go_simp) ?_
  refine T_step (i := 0) rfl (by kernel_rfl) rfl rfl ?_
  intro K hK
  go_simp
  have hb1 := (below1 W (.cells #[] 3))
  have l2 := (KW.out.1.since (w' := (W.alloc (.cells #[] 3)).drew) hb1.drew (by have := KW.out.2.2.2; omega)).two.1
  refine hK.out _ _ l2 ?_
  clear hK K
  have HO0 := Lib.hid (show (W.alloc (.cells #[] 3)).drew.ownsRow W.heap.size 3 1 (.slice (some ⟨W.heap.size, 0, none⟩) 0 0) ([] : List Int).length (intVals []) from owns_none (Nat.le_refl _))
  have HS1 := Lib.hid (HS.out.below (KW.out.2.2.1.trans (hb1.drew.mono KW.out.2.2.1.size)))
  have HB1 := Lib.hid hb1
  clear hS0 l0 l1 l2 hb1
  refine T_step (i := 3) rfl (by kernel_rfl) rfl rfl ?_
  intro K hK
  refine wp_app_ints _ _ (by rfl) W.heap.size _ [] h.1 _ (by rfl) HO0.out (by rfl) HS1.out h0 (by simp; omega) (by simp) ?_
  intro v' w1 hown1 hb2
  have HB2 := Lib.hid (HB1.out.drew.trans hb2)
  have l2 := (KW.out.1.since HB2.out (by have := KW.out.2.2.2; omega)).two.1
  rw [List.nil_append] at hown1
  have ho := OwnV.of_owns hown1
  obtain ⟨ra, rc, rfl, _⟩ := ho.shape1
  rw [intVals_len] at ho
  have HO := Lib.hid ho
  clear hown1 ho hb2 HO0 HS1
  refine hK.out _ _ l2 ?_
  clear hK K
  have hS1 := Lib.hid l2
  clear l2
  rw [intVals_len]
  refine T_take (i := 6) (v := .agg #[.slice ra h.1.length rc, .int .i64 h.2]) rfl (by kernel_rfl) (by kernel_rfl) (by kernel_rfl) (by kernel_rfl) (fun _ _ _ h => h) hS1.out rfl (fun w' hS' => by (try dsimp only at hS'); go_simp) ?_
  obtain ⟨⟨b0, b1⟩, f0, f1⟩ := (KW.out.2.1.since HB2.out (by have := KW.out.2.2.2; omega)).two
  refine T_last (i := 7) rfl (by kernel_rfl) (by kernel_rfl) rfl rfl ?_
  go_simp
  go_wp2
  refine bodyPost_ret (v := .agg #[.slice ra h.1.length rc, .int .i64 h.2]) ?_ rfl ⟨⟨_, rfl, _, rfl, ?_⟩, ((KW.out.2.2.1.trans (HB2.out.mono KW.out.2.2.1.size)).setCell (by simp) _).setCell (by simp) _⟩
  · simp [results, Try.results53, go_sem, b0, b1]
  · exact (HO.out.kept (((Kept.refl (w.heap.size + 1) (w.heap.size + 2) w1).setCell (by simp) (by simp) _).setCell (by simp) (by simp) _) (.inr (by have := KW.out.2.2.2; omega))).mono (by have := KW.out.2.2.2; omega) (by simp [World.setCell])

/-- What l4Copy's loop keeps: the boxes of the region, of the answer and of what has been copied. -/
def CopyI (w : World) (n : Int) (V : Value) (T : TypeId) (hs : List Hf) (u : Value) (wr : World) : Prop :=
  Bk wr w.heap.size #[.int .i64 n, V] T ∧ Bk wr (w.heap.size + 1) #[.int .i64 0, .slice none 0 0] T ∧ Bk wr (w.heap.size + 2) #[.int .i64 n, u] T ∧ OwH 27 3 (w.heap.size + 3) wr.heap.size wr u hs ∧ Below w.heap.size w wr ∧ w.heap.size + 3 ≤ wr.heap.size
set_option maxRecDepth 100000 in
set_option maxHeartbeats 1600000 in
theorem s_copy (r : Rgn) (v : Value) (w : World) (hv : Rg w v r) (hp : ∀ (i : Nat) (hi : i < r.2.length), 0 < r.2[i].1.length ∧ r.2[i].1.length ≤ 1048576) (hl : r.2.length ≤ 1048576) :
    Calls Try.prog 46 #[v] w (MadeG w r) := by
  obtain ⟨n, hs'⟩ := r
  obtain ⟨u, rfl, hss⟩ := hv
  simp only at hss hp hl ⊢
  have HV := Lib.hid hss
  have HP := Lib.hid hp
  obtain ⟨a, c, rfl, hm⟩ := hss.shape
  have K := Lib.hid (Bk.three w #[.int .i64 n, .slice a hs'.length c] #[.int .i64 0, .slice none 0 0] #[.int .i64 n, .slice none 0 0] 38 38 38)
  have B0 := Lib.hid (below3 w (.cells #[.int .i64 n, .slice a hs'.length c] 38) (.cells #[.int .i64 0, .slice none 0 0] 38) (.cells #[.int .i64 n, .slice none 0 0] 38))
  clear hss hp
  go_enter Try.func46, Try.ntmps46
  go_wp2
  go_loopw [4] (fun i wr => ∃ (k : Nat) (u : Value), k ≤ hs'.length ∧ i = .int .i64 k ∧ CopyI w n (.slice a hs'.length c) 38 (hs'.take k) u wr) (fun i _ => hs'.length - (RowKit.intOf i).toNat)
  case atStart => exact ⟨0, _, Nat.zero_le _, rfl, K.out.1, K.out.2.1, K.out.2.2, OwH.nil, B0.out, by simp⟩
  case round =>
    obtain ⟨k, u, hk, rfl, hci⟩ := hrel
    have HC := Lib.hid hci
    clear hci
    obtain ⟨⟨l0, l1⟩, -⟩ := HC.out.1.two
    obtain ⟨⟨-, m1⟩, -, mf1⟩ := HC.out.2.2.1.two
    by_cases hlt : k < hs'.length
    · obtain ⟨b, off, y, rfl, _, hb2, hcell, hcell1, hsx⟩ := HV.out.half k hlt rfl
      rw [← HC.out.2.2.2.2.1.cell (p := ⟨b, off + k * 2, none⟩) hb2] at hcell
      rw [← HC.out.2.2.2.2.1.cell (p := ⟨b, off + k * 2 + 1, none⟩) hb2] at hcell1
      have HX := Lib.hid (hsx.below HC.out.2.2.2.2.1)
      have HB2 := Lib.hid (Nat.lt_of_lt_of_le hb2 HC.out.2.2.2.2.1.size)
      have HLB := Lib.hid hb2
      have HPk := Lib.hid (HP.out k hlt)
      have i1 : (0 : Int) ≤ (k : Int) := by omega
      have i2 : (k : Int) < (hs'.length : Int) := by omega
      have ht : (hs'.take k).length = k := by rw [List.length_take]; omega
      obtain ⟨ua, uc, rfl, hum⟩ := HC.out.2.2.2.1.hs.shape
      rw [ht] at m1 HC
      have HT := Lib.hid ht
      clear ht hum
      clear hsx hb2
      go_wp2
      refine T_begin (z := fun k => 9 < k) (S := fun (w' : World) => w'.cell? ⟨w.heap.size, 1, none⟩ = some (.slice (some ⟨b, off, none⟩) hs'.length c) ∧ w'.cell? ⟨w.heap.size + 2, 1, none⟩ = some (.slice ua k uc) ∧ w'.cell? ⟨b, off + k * 2, none⟩ = some y ∧ w'.cell? ⟨b, off + k * 2 + 1, none⟩ = some (.int .i64 hs'[k].2)) (by kernel_rfl) ?_
      show wpAnyT _ _ _ _ _ _ 12 _ _ _
      have hS0 := Lib.hid (show (fun (w' : World) => w'.cell? ⟨w.heap.size, 1, none⟩ = some (.slice (some ⟨b, off, none⟩) hs'.length c) ∧ w'.cell? ⟨w.heap.size + 2, 1, none⟩ = some (.slice ua k uc) ∧ w'.cell? ⟨b, off + k * 2, none⟩ = some y ∧ w'.cell? ⟨b, off + k * 2 + 1, none⟩ = some (.int .i64 hs'[k].2)) _ from ⟨l1, m1, hcell, hcell1⟩)
      refine T_take (i := 0) (v := .pointer (some ⟨w.heap.size + 2, 1, none⟩)) rfl (by kernel_rfl) (by kernel_rfl) (by kernel_rfl) (by kernel_rfl) (fun _ _ _ h => h) hS0.out rfl (fun w' hS' => by (try dsimp only at hS'); go_simp) ?_
      refine T_take (i := 1) (v := .slice ua k uc) rfl (by kernel_rfl) (by kernel_rfl) (by kernel_rfl) (by kernel_rfl) (fun _ _ _ h => h) hS0.out rfl (fun w' hS' => by (try dsimp only at hS'); go_simp) ?_
      refine T_take (i := 2) (v := .pointer (some ⟨w.heap.size, 1, none⟩)) rfl (by kernel_rfl) (by kernel_rfl) (by kernel_rfl) (by kernel_rfl) (fun _ _ _ h => h) hS0.out rfl (fun w' hS' => by (try dsimp only at hS'); go_simp) ?_
      refine T_take (i := 3) (v := .slice (some ⟨b, off, none⟩) hs'.length c) rfl (by kernel_rfl) (by kernel_rfl) (by kernel_rfl) (by kernel_rfl) (fun _ _ _ h => h) hS0.out rfl (fun w' hS' => by (try dsimp only at hS'); go_simp) ?_
      refine T_take (i := 4) (v := .int .i64 k) rfl (by kernel_rfl) (by kernel_rfl) (by kernel_rfl) (by kernel_rfl) (fun _ _ _ h => h) hS0.out rfl (fun w' hS' => by (try dsimp only at hS'); go_simp) ?_
      refine T_take (i := 5) (v := .pointer (some ⟨b, off + k * 2, none⟩)) rfl (by kernel_rfl) (by kernel_rfl) (by kernel_rfl) (by kernel_rfl) (fun _ _ _ h => h) hS0.out rfl (fun w' hS' => by (try dsimp only at hS'); go_simp) ?_
      refine T_take (i := 6) (v := .agg #[y, .int .i64 hs'[k].2]) rfl (by kernel_rfl) (by kernel_rfl) (by kernel_rfl) (by kernel_rfl) (fun _ _ _ h => h) hS0.out rfl (fun w' hS' => by (try dsimp only at hS'); go_simp) ?_
      refine T_step (i := 7) rfl (by kernel_rfl) rfl rfl ?_
      intro K hK
      go_simp
      refine (s_one hs'[k] _ _ ⟨y, rfl, HX.out.below (Below.refl _ _).drew⟩ HPk.out.1 HPk.out.2).mono ?_
      rintro e w1 ⟨⟨_, rfl, z, rfl, ho⟩, hb⟩
      have hb : Below wr.heap.size wr w1 := (Below.refl _ _).drew.trans hb
      obtain ⟨ra, rc, rfl, _⟩ := ho.shape1
      rw [intVals_len] at ho ⊢
      have HO := Lib.hid (show OwnV 3 wr.heap.size w1.heap.size w1 _ _ from ho)
      have HB := Lib.hid hb
      have s1 := show (fun (w' : World) => w'.cell? ⟨w.heap.size, 1, none⟩ = some (.slice (some ⟨b, off, none⟩) hs'.length c) ∧ w'.cell? ⟨w.heap.size + 2, 1, none⟩ = some (.slice ua k uc) ∧ w'.cell? ⟨b, off + k * 2, none⟩ = some y ∧ w'.cell? ⟨b, off + k * 2 + 1, none⟩ = some (.int .i64 hs'[k].2)) w1 from ⟨(hb.cell (p := ⟨w.heap.size, 1, none⟩) (by have := HC.out.2.2.2.2.2; show w.heap.size < wr.heap.size; omega)).trans l1, (hb.cell (p := ⟨w.heap.size + 2, 1, none⟩) (by have := HC.out.2.2.2.2.2; show w.heap.size + 2 < wr.heap.size; omega)).trans m1, (hb.cell (p := ⟨b, off + k * 2, none⟩) HB2.out).trans hcell, (hb.cell (p := ⟨b, off + k * 2 + 1, none⟩) HB2.out).trans hcell1⟩
      clear ho hb l1 m1 hcell hcell1 hS0
      refine hK.out _ _ s1 ?_
      clear hK K
      refine T_step (i := 8) rfl (by kernel_rfl) rfl rfl ?_
      intro K hK
      go_simp
      have hb2 := below1 w1 (.cells #[.slice ra hs'[k].1.length rc, .int .i64 hs'[k].2] 27)
      have s2 := show (fun (w' : World) => w'.cell? ⟨w.heap.size, 1, none⟩ = some (.slice (some ⟨b, off, none⟩) hs'.length c) ∧ w'.cell? ⟨w.heap.size + 2, 1, none⟩ = some (.slice ua k uc) ∧ w'.cell? ⟨b, off + k * 2, none⟩ = some y ∧ w'.cell? ⟨b, off + k * 2 + 1, none⟩ = some (.int .i64 hs'[k].2)) (w1.alloc (.cells #[.slice ra hs'[k].1.length rc, .int .i64 hs'[k].2] 27)) from ⟨(hb2.cell (p := ⟨w.heap.size, 1, none⟩) (by have h1 := HC.out.2.2.2.2.2; have h2 := HB.out.size; show w.heap.size < w1.heap.size; omega)).trans s1.1, (hb2.cell (p := ⟨w.heap.size + 2, 1, none⟩) (by have h1 := HC.out.2.2.2.2.2; have h2 := HB.out.size; show w.heap.size + 2 < w1.heap.size; omega)).trans s1.2.1, (hb2.cell (p := ⟨b, off + k * 2, none⟩) (Nat.lt_of_lt_of_le HB2.out HB.out.size)).trans s1.2.2.1, (hb2.cell (p := ⟨b, off + k * 2 + 1, none⟩) (Nat.lt_of_lt_of_le HB2.out HB.out.size)).trans s1.2.2.2⟩
      clear s1
      have HB3 := Lib.hid (show Below wr.heap.size wr (w1.alloc (.cells #[.slice ra hs'[k].1.length rc, .int .i64 hs'[k].2] 27)) from HB.out.trans (hb2.mono HB.out.size))
      have HO2 := Lib.hid (HO.out.below hb2)
      have HN := Lib.hid (heap_alloc_new w1 (.cells #[.slice ra hs'[k].1.length rc, .int .i64 hs'[k].2] 27))
      have HR := Lib.hid (HC.out.2.2.2.1.below HB3.out)
      have HZ := Lib.hid hb2.size
      clear hb2 HO
      refine hK.out _ _ s2 ?_
      clear hK K
      refine T_step (i := 9) rfl (by kernel_rfl) rfl rfl ?_
      intro K hK
      refine wp_app_half _ _ (by rfl) (w.heap.size + 3) wr.heap.size _ _ (hs'.take k) hs'[k] (by rfl) HR.out (HO2.out.mono (Nat.le_refl _) HZ.out) w1.heap.size (by rfl) HN.out (by have := HT.out; omega) HC.out.2.2.2.2.2 HB3.out.size ?_
      intro g cap w2 ho hk2
      rw [HT.out, ← List.take_succ_eq_append_getElem hlt] at ho
      rw [HT.out]
      have hs2 : w.heap.size + 3 ≤ (w1.alloc (.cells #[.slice ra hs'[k].1.length rc, .int .i64 hs'[k].2] 27)).heap.size := Nat.le_trans HC.out.2.2.2.2.2 HB3.out.size
      have s3 := show (fun (w' : World) => w'.cell? ⟨w.heap.size, 1, none⟩ = some (.slice (some ⟨b, off, none⟩) hs'.length c) ∧ w'.cell? ⟨w.heap.size + 2, 1, none⟩ = some (.slice ua k uc) ∧ w'.cell? ⟨b, off + k * 2, none⟩ = some y ∧ w'.cell? ⟨b, off + k * 2 + 1, none⟩ = some (.int .i64 hs'[k].2)) w2 from ⟨(hk2.cellAt (p := ⟨w.heap.size, 1, none⟩) (by show w.heap.size < _; omega) (.inl (by show w.heap.size < _; omega))).trans s2.1, (hk2.cellAt (p := ⟨w.heap.size + 2, 1, none⟩) (by show w.heap.size + 2 < _; omega) (.inl (by show w.heap.size + 2 < _; omega))).trans s2.2.1, (hk2.cellAt (p := ⟨b, off + k * 2, none⟩) (by show b < _; have := HLB.out; omega) (.inl (by show b < _; have := HLB.out; omega))).trans s2.2.2.1, (hk2.cellAt (p := ⟨b, off + k * 2 + 1, none⟩) (by show b < _; have := HLB.out; omega) (.inl (by show b < _; have := HLB.out; omega))).trans s2.2.2.2⟩
      have P1 := Lib.hid ((HC.out.1.below HB3.out).kept hk2 (.inl (by omega)))
      have P2 := Lib.hid ((HC.out.2.1.below HB3.out).kept hk2 (.inl (by omega)))
      have P3 := Lib.hid ((HC.out.2.2.1.below HB3.out).kept hk2 (.inl (by omega)))
      have P4 := Lib.hid (HC.out.2.2.2.2.1.trans ((HB3.out.mono HC.out.2.2.2.2.1.size).trans (hk2.below (by omega) (by omega))))
      have P5 := Lib.hid ho
      have P6 := Lib.hid (Nat.le_trans hs2 hk2.size)
      clear ho hk2 hs2 s2 HR HO2 HN HZ
      refine hK.out _ _ s3 ?_
      clear hK K s3
      refine T_anytake (i := 10) (v := .pointer (some ⟨w.heap.size + 2, 1, none⟩)) rfl (by kernel_rfl) (by kernel_rfl) (by kernel_rfl) rfl (fun _ _ _ h => h) rfl (fun w' => by go_simp) ?_
      obtain ⟨⟨-, q0⟩, -, q1⟩ := P3.out.two
      refine T_last (i := 11) rfl (by kernel_rfl) (by kernel_rfl) rfl rfl ?_
      go_simp
      go_wp2
      exact ⟨⟨k + 1, _, by omega, by go_num, P1.out.other (by simp) _, P2.out.other (by simp) _, P3.out.set1 _, (P5.out.kept ((Kept.refl (w.heap.size + 2) (w.heap.size + 3) w2).setCell (p := ⟨w.heap.size + 2, 1, none⟩) (Nat.le_refl _) (Nat.lt_succ_self _) _) (.inr (Nat.le_refl _))).mono (Nat.le_refl _) (by simp [World.setCell]), P4.out.setCell (by simp) _, by simpa [World.setCell] using P6.out⟩, by simp [RowKit.intOf]; omega⟩
    · obtain rfl : k = hs'.length := by omega
      have ha := HC.out.2.2.2.1
      rw [List.take_length] at ha
      obtain ⟨ua, uc, rfl, hum⟩ := ha.hs.shape
      have HA := Lib.hid ha
      obtain ⟨⟨m0, -⟩, mf0, -⟩ := HC.out.2.2.1.two
      obtain ⟨⟨p0, p1⟩, pf0, pf1⟩ := HC.out.2.1.two
      clear ha hum
      go_wp2
      refine bodyPost_ret (v := .agg #[.int .i64 n, .slice ua hs'.length uc]) ?_ rfl ⟨⟨_, rfl, _, rfl, ?_⟩, (HC.out.2.2.2.2.1.setCell (by simp) _).setCell (by simp) _⟩
      · simp [results, Try.results46, go_sem, p0, p1]
      · exact (HA.out.kept (((Kept.refl (w.heap.size + 1) (w.heap.size + 2) wr).setCell (by simp) (by simp) _).setCell (by simp) (by simp) _) (.inr (by omega))).mono (by omega) (by simp [World.setCell])
end Go.Proofs.Ytflkalgofkpdbaa
