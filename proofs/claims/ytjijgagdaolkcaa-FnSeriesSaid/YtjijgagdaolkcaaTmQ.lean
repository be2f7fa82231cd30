/- What the laws of series call: equality of terms. -/
import Derived.Test.YtjijgagdaolkcaaMax
import Derived.Test.YtjijgagdaolkcaaMay
import Derived.Test.YtjijgagdaolkcaaOrd
namespace Go.Proofs.Ytjijgagdaolkcaa
open Go Go.RowKit Go.Lib

set_option maxRecDepth 100000 in
set_option maxHeartbeats 800000 in
theorem same_terms (ts : List Tm) (v u : Value) (w : World) (hv : Tms w v ts) (hu : Tms w u ts) :
    Calls Try.prog 37 #[v, u] w (Quiet w (.bool true)) := by
  have HV := Lib.hid hv
  have HU := Lib.hid hu
  obtain ⟨a, c, rfl, hm, _⟩ := hv.shape
  obtain ⟨a', c', rfl, _, _⟩ := hu.shape
  unfold maxLen at hm
  clear hv hu
  go_enter Try.func37, Try.ntmps37
  go_wp2
  go_loopw [5] (fun i wr => ∃ k : Nat, k ≤ ts.length ∧ i = .int .i64 k ∧ Below w.heap.size w wr) (fun i _ => ts.length - (RowKit.intOf i).toNat)
  case atStart => exact ⟨0, Nat.zero_le _, rfl, Below.refl _ _⟩
  case round =>
    obtain ⟨k, hk, rfl, hbr⟩ := hrel
    have HB := Lib.hid hbr
    clear hbr
    by_cases hlt : k < ts.length
    · obtain ⟨b, off, x1, x2, el, hc, hbA, c0, c1, c2, hs, hr⟩ := HV.out.term k hlt rfl
      subst el
      obtain ⟨b', off', y1, y2, el, hc', hbB, d0, d1, d2, hs', hr'⟩ := HU.out.term k hlt rfl
      subst el
      obtain ⟨⟨z, sh, gs⟩, hz⟩ : ∃ t : Tm, ts[k] = t := ⟨_, rfl⟩
      rw [hz] at c0 d0 hs hs' hr hr'
      dsimp only at c0 d0 hs hs' hr hr'
      replace c0 := (HB.out.cell (p := ⟨b, off + k * 3, none⟩) hbA).trans c0
      replace c1 := (HB.out.cell (p := ⟨b, off + k * 3 + 1, none⟩) hbA).trans c1
      replace c2 := (HB.out.cell (p := ⟨b, off + k * 3 + 2, none⟩) hbA).trans c2
      replace d0 := (HB.out.cell (p := ⟨b', off' + k * 3, none⟩) hbB).trans d0
      replace d1 := (HB.out.cell (p := ⟨b', off' + k * 3 + 1, none⟩) hbB).trans d1
      replace d2 := (HB.out.cell (p := ⟨b', off' + k * 3 + 2, none⟩) hbB).trans d2
      have HS1 := Lib.hid hs
      have HS2 := Lib.hid hs'
      have HR1 := Lib.hid hr
      have HR2 := Lib.hid hr'
      have i1 : (0 : Int) ≤ (k : Int) := by omega
      have i2 : (k : Int) < (ts.length : Int) := by omega
      clear hs hs' hr hr'
      go_wp2_with fail
      refine T_begin (z := fun k => 38 < k) (S := fun (w' : World) => (w'.cell? ⟨b, off + k * 3, none⟩ = some (.int .i64 z) ∧ w'.cell? ⟨b, off + k * 3 + 1, none⟩ = some x1 ∧ w'.cell? ⟨b, off + k * 3 + 2, none⟩ = some x2) ∧ (w'.cell? ⟨b', off' + k * 3, none⟩ = some (.int .i64 z) ∧ w'.cell? ⟨b', off' + k * 3 + 1, none⟩ = some y1 ∧ w'.cell? ⟨b', off' + k * 3 + 2, none⟩ = some y2) ∧ Below w.heap.size w w') (by kernel_rfl) ?_
      show wpAnyT _ _ _ _ _ _ 39 _ _ _
      have hS0 := Lib.hid (show (fun (w' : World) => (w'.cell? ⟨b, off + k * 3, none⟩ = some (.int .i64 z) ∧ w'.cell? ⟨b, off + k * 3 + 1, none⟩ = some x1 ∧ w'.cell? ⟨b, off + k * 3 + 2, none⟩ = some x2) ∧ (w'.cell? ⟨b', off' + k * 3, none⟩ = some (.int .i64 z) ∧ w'.cell? ⟨b', off' + k * 3 + 1, none⟩ = some y1 ∧ w'.cell? ⟨b', off' + k * 3 + 2, none⟩ = some y2) ∧ Below w.heap.size w w') (wr.drew) from ⟨⟨c0, c1, c2⟩, ⟨d0, d1, d2⟩, HB.out.drew⟩)
      refine T_take (i := 0) (v := .slice (some ⟨b, off, none⟩) ts.length c) rfl (by kernel_rfl) (by kernel_rfl) (by kernel_rfl) (by kernel_rfl) (fun _ _ _ h => h) hS0.out (by kernel_rfl) (fun w' hS' => by obtain ⟨⟨h0, h1, h2⟩, ⟨h3, h4, h5⟩, -⟩ := hS'; go_simp) ?_
      refine T_take (i := 1) (v := .int .i64 k) rfl (by kernel_rfl) (by kernel_rfl) (by kernel_rfl) (by kernel_rfl) (fun _ _ _ h => h) hS0.out (by kernel_rfl) (fun w' hS' => by obtain ⟨⟨h0, h1, h2⟩, ⟨h3, h4, h5⟩, -⟩ := hS'; go_simp) ?_
      refine T_take (i := 2) (v := .pointer (some ⟨b, off + k * 3, none⟩)) rfl (by kernel_rfl) (by kernel_rfl) (by kernel_rfl) (by kernel_rfl) (fun _ _ _ h => h) hS0.out (by kernel_rfl) (fun w' hS' => by obtain ⟨⟨h0, h1, h2⟩, ⟨h3, h4, h5⟩, -⟩ := hS'; go_simp; try omega) ?_
      refine T_take (i := 3) (v := .pointer (some ⟨b, off + k * 3, none⟩)) rfl (by kernel_rfl) (by kernel_rfl) (by kernel_rfl) (by kernel_rfl) (fun _ _ _ h => h) hS0.out (by kernel_rfl) (fun w' hS' => by obtain ⟨⟨h0, h1, h2⟩, ⟨h3, h4, h5⟩, -⟩ := hS'; go_simp; try omega) ?_
      refine T_take (i := 4) (v := .int .i64 z) rfl (by kernel_rfl) (by kernel_rfl) (by kernel_rfl) (by kernel_rfl) (fun _ _ _ h => h) hS0.out (by kernel_rfl) (fun w' hS' => by obtain ⟨⟨h0, h1, h2⟩, ⟨h3, h4, h5⟩, -⟩ := hS'; go_simp) ?_
      refine T_take (i := 5) (v := .slice (some ⟨b', off', none⟩) ts.length c') rfl (by kernel_rfl) (by kernel_rfl) (by kernel_rfl) (by kernel_rfl) (fun _ _ _ h => h) hS0.out (by kernel_rfl) (fun w' hS' => by obtain ⟨⟨h0, h1, h2⟩, ⟨h3, h4, h5⟩, -⟩ := hS'; go_simp) ?_
      refine T_take (i := 6) (v := .int .i64 k) rfl (by kernel_rfl) (by kernel_rfl) (by kernel_rfl) (by kernel_rfl) (fun _ _ _ h => h) hS0.out (by kernel_rfl) (fun w' hS' => by obtain ⟨⟨h0, h1, h2⟩, ⟨h3, h4, h5⟩, -⟩ := hS'; go_simp) ?_
      refine T_take (i := 7) (v := .pointer (some ⟨b', off' + k * 3, none⟩)) rfl (by kernel_rfl) (by kernel_rfl) (by kernel_rfl) (by kernel_rfl) (fun _ _ _ h => h) hS0.out (by kernel_rfl) (fun w' hS' => by obtain ⟨⟨h0, h1, h2⟩, ⟨h3, h4, h5⟩, -⟩ := hS'; go_simp; try omega) ?_
      refine T_take (i := 8) (v := .pointer (some ⟨b', off' + k * 3, none⟩)) rfl (by kernel_rfl) (by kernel_rfl) (by kernel_rfl) (by kernel_rfl) (fun _ _ _ h => h) hS0.out (by kernel_rfl) (fun w' hS' => by obtain ⟨⟨h0, h1, h2⟩, ⟨h3, h4, h5⟩, -⟩ := hS'; go_simp; try omega) ?_
      refine T_take (i := 9) (v := .int .i64 z) rfl (by kernel_rfl) (by kernel_rfl) (by kernel_rfl) (by kernel_rfl) (fun _ _ _ h => h) hS0.out (by kernel_rfl) (fun w' hS' => by obtain ⟨⟨h0, h1, h2⟩, ⟨h3, h4, h5⟩, -⟩ := hS'; go_simp) ?_
      refine T_take (i := 10) (v := .bool false) rfl (by kernel_rfl) (by kernel_rfl) (by kernel_rfl) (by kernel_rfl) (fun _ _ _ h => h) hS0.out (by kernel_rfl) (fun w' hS' => by obtain ⟨⟨h0, h1, h2⟩, ⟨h3, h4, h5⟩, -⟩ := hS'; go_simp) ?_
      refine T_take (i := 11) (v := .bool false) rfl (by kernel_rfl) (by kernel_rfl) (by kernel_rfl) (by kernel_rfl) (fun _ _ _ h => h) hS0.out (by kernel_rfl) (fun w' hS' => by obtain ⟨⟨h0, h1, h2⟩, ⟨h3, h4, h5⟩, -⟩ := hS'; go_simp) ?_
      refine T_take (i := 12) (v := .slice (some ⟨b, off, none⟩) ts.length c) rfl (by kernel_rfl) (by kernel_rfl) (by kernel_rfl) (by kernel_rfl) (fun _ _ _ h => h) hS0.out (by kernel_rfl) (fun w' hS' => by obtain ⟨⟨h0, h1, h2⟩, ⟨h3, h4, h5⟩, -⟩ := hS'; go_simp) ?_
      refine T_take (i := 13) (v := .int .i64 k) rfl (by kernel_rfl) (by kernel_rfl) (by kernel_rfl) (by kernel_rfl) (fun _ _ _ h => h) hS0.out (by kernel_rfl) (fun w' hS' => by obtain ⟨⟨h0, h1, h2⟩, ⟨h3, h4, h5⟩, -⟩ := hS'; go_simp) ?_
      refine T_take (i := 14) (v := .pointer (some ⟨b, off + k * 3, none⟩)) rfl (by kernel_rfl) (by kernel_rfl) (by kernel_rfl) (by kernel_rfl) (fun _ _ _ h => h) hS0.out (by kernel_rfl) (fun w' hS' => by obtain ⟨⟨h0, h1, h2⟩, ⟨h3, h4, h5⟩, -⟩ := hS'; go_simp; try omega) ?_
      refine T_take (i := 15) (v := .pointer (some ⟨b, off + k * 3 + 1, none⟩)) rfl (by kernel_rfl) (by kernel_rfl) (by kernel_rfl) (by kernel_rfl) (fun _ _ _ h => h) hS0.out (by kernel_rfl) (fun w' hS' => by obtain ⟨⟨h0, h1, h2⟩, ⟨h3, h4, h5⟩, -⟩ := hS'; go_simp; try omega) ?_
      refine T_take (i := 16) (v := x1) rfl (by kernel_rfl) (by kernel_rfl) (by kernel_rfl) (by kernel_rfl) (fun _ _ _ h => h) hS0.out (by kernel_rfl) (fun w' hS' => by obtain ⟨⟨h0, h1, h2⟩, ⟨h3, h4, h5⟩, -⟩ := hS'; go_simp) ?_
      refine T_take (i := 17) (v := .slice (some ⟨b', off', none⟩) ts.length c') rfl (by kernel_rfl) (by kernel_rfl) (by kernel_rfl) (by kernel_rfl) (fun _ _ _ h => h) hS0.out (by kernel_rfl) (fun w' hS' => by obtain ⟨⟨h0, h1, h2⟩, ⟨h3, h4, h5⟩, -⟩ := hS'; go_simp) ?_
      refine T_take (i := 18) (v := .int .i64 k) rfl (by kernel_rfl) (by kernel_rfl) (by kernel_rfl) (by kernel_rfl) (fun _ _ _ h => h) hS0.out (by kernel_rfl) (fun w' hS' => by obtain ⟨⟨h0, h1, h2⟩, ⟨h3, h4, h5⟩, -⟩ := hS'; go_simp) ?_
      refine T_take (i := 19) (v := .pointer (some ⟨b', off' + k * 3, none⟩)) rfl (by kernel_rfl) (by kernel_rfl) (by kernel_rfl) (by kernel_rfl) (fun _ _ _ h => h) hS0.out (by kernel_rfl) (fun w' hS' => by obtain ⟨⟨h0, h1, h2⟩, ⟨h3, h4, h5⟩, -⟩ := hS'; go_simp; try omega) ?_
      refine T_take (i := 20) (v := .pointer (some ⟨b', off' + k * 3 + 1, none⟩)) rfl (by kernel_rfl) (by kernel_rfl) (by kernel_rfl) (by kernel_rfl) (fun _ _ _ h => h) hS0.out (by kernel_rfl) (fun w' hS' => by obtain ⟨⟨h0, h1, h2⟩, ⟨h3, h4, h5⟩, -⟩ := hS'; go_simp; try omega) ?_
      refine T_take (i := 21) (v := y1) rfl (by kernel_rfl) (by kernel_rfl) (by kernel_rfl) (by kernel_rfl) (fun _ _ _ h => h) hS0.out (by kernel_rfl) (fun w' hS' => by obtain ⟨⟨h0, h1, h2⟩, ⟨h3, h4, h5⟩, -⟩ := hS'; go_simp) ?_
      refine T_step (i := 22) rfl (by kernel_rfl) rfl (by kernel_rfl) ?_
      intro K hK
      go_simp
      refine (same_int sh _ _ _ (HS1.out.below hS0.out.2.2) (HS2.out.below hS0.out.2.2)).mono ?_
      rintro e' wT1 ⟨rfl, hb1⟩
      have hS1 := Lib.hid (show (fun (w' : World) => (w'.cell? ⟨b, off + k * 3, none⟩ = some (.int .i64 z) ∧ w'.cell? ⟨b, off + k * 3 + 1, none⟩ = some x1 ∧ w'.cell? ⟨b, off + k * 3 + 2, none⟩ = some x2) ∧ (w'.cell? ⟨b', off' + k * 3, none⟩ = some (.int .i64 z) ∧ w'.cell? ⟨b', off' + k * 3 + 1, none⟩ = some y1 ∧ w'.cell? ⟨b', off' + k * 3 + 2, none⟩ = some y2) ∧ Below w.heap.size w w') wT1 from ⟨⟨(hb1.cell (p := ⟨b, off + k * 3, none⟩) (Nat.lt_of_lt_of_le hbA hS0.out.2.2.size)).trans hS0.out.1.1, (hb1.cell (p := ⟨b, off + k * 3 + 1, none⟩) (Nat.lt_of_lt_of_le hbA hS0.out.2.2.size)).trans hS0.out.1.2.1, (hb1.cell (p := ⟨b, off + k * 3 + 2, none⟩) (Nat.lt_of_lt_of_le hbA hS0.out.2.2.size)).trans hS0.out.1.2.2⟩, ⟨(hb1.cell (p := ⟨b', off' + k * 3, none⟩) (Nat.lt_of_lt_of_le hbB hS0.out.2.2.size)).trans hS0.out.2.1.1, (hb1.cell (p := ⟨b', off' + k * 3 + 1, none⟩) (Nat.lt_of_lt_of_le hbB hS0.out.2.2.size)).trans hS0.out.2.1.2.1, (hb1.cell (p := ⟨b', off' + k * 3 + 2, none⟩) (Nat.lt_of_lt_of_le hbB hS0.out.2.2.size)).trans hS0.out.2.1.2.2⟩, hS0.out.2.2.trans (hb1.mono hS0.out.2.2.size)⟩)
      refine hK.out _ _ hS1.out ?_
      clear hK K
      refine T_take (i := 23) (v := .bool false) rfl (by kernel_rfl) (by kernel_rfl) (by kernel_rfl) (by kernel_rfl) (fun _ _ _ h => h) hS1.out (by kernel_rfl) (fun w' hS' => by obtain ⟨⟨h0, h1, h2⟩, ⟨h3, h4, h5⟩, -⟩ := hS'; go_simp) ?_
      refine T_take (i := 24) (v := .bool false) rfl (by kernel_rfl) (by kernel_rfl) (by kernel_rfl) (by kernel_rfl) (fun _ _ _ h => h) hS1.out (by kernel_rfl) (fun w' hS' => by obtain ⟨⟨h0, h1, h2⟩, ⟨h3, h4, h5⟩, -⟩ := hS'; go_simp) ?_
      refine T_take (i := 25) (v := .bool false) rfl (by kernel_rfl) (by kernel_rfl) (by kernel_rfl) (by kernel_rfl) (fun _ _ _ h => h) hS1.out (by kernel_rfl) (fun w' hS' => by obtain ⟨⟨h0, h1, h2⟩, ⟨h3, h4, h5⟩, -⟩ := hS'; go_simp) ?_
      refine T_take (i := 26) (v := .slice (some ⟨b, off, none⟩) ts.length c) rfl (by kernel_rfl) (by kernel_rfl) (by kernel_rfl) (by kernel_rfl) (fun _ _ _ h => h) hS1.out (by kernel_rfl) (fun w' hS' => by obtain ⟨⟨h0, h1, h2⟩, ⟨h3, h4, h5⟩, -⟩ := hS'; go_simp) ?_
      refine T_take (i := 27) (v := .int .i64 k) rfl (by kernel_rfl) (by kernel_rfl) (by kernel_rfl) (by kernel_rfl) (fun _ _ _ h => h) hS1.out (by kernel_rfl) (fun w' hS' => by obtain ⟨⟨h0, h1, h2⟩, ⟨h3, h4, h5⟩, -⟩ := hS'; go_simp) ?_
      refine T_take (i := 28) (v := .pointer (some ⟨b, off + k * 3, none⟩)) rfl (by kernel_rfl) (by kernel_rfl) (by kernel_rfl) (by kernel_rfl) (fun _ _ _ h => h) hS1.out (by kernel_rfl) (fun w' hS' => by obtain ⟨⟨h0, h1, h2⟩, ⟨h3, h4, h5⟩, -⟩ := hS'; go_simp; try omega) ?_
      refine T_take (i := 29) (v := .pointer (some ⟨b, off + k * 3 + 2, none⟩)) rfl (by kernel_rfl) (by kernel_rfl) (by kernel_rfl) (by kernel_rfl) (fun _ _ _ h => h) hS1.out (by kernel_rfl) (fun w' hS' => by obtain ⟨⟨h0, h1, h2⟩, ⟨h3, h4, h5⟩, -⟩ := hS'; go_simp; try omega) ?_
      refine T_take (i := 30) (v := x2) rfl (by kernel_rfl) (by kernel_rfl) (by kernel_rfl) (by kernel_rfl) (fun _ _ _ h => h) hS1.out (by kernel_rfl) (fun w' hS' => by obtain ⟨⟨h0, h1, h2⟩, ⟨h3, h4, h5⟩, -⟩ := hS'; go_simp) ?_
      refine T_take (i := 31) (v := .slice (some ⟨b', off', none⟩) ts.length c') rfl (by kernel_rfl) (by kernel_rfl) (by kernel_rfl) (by kernel_rfl) (fun _ _ _ h => h) hS1.out (by kernel_rfl) (fun w' hS' => by obtain ⟨⟨h0, h1, h2⟩, ⟨h3, h4, h5⟩, -⟩ := hS'; go_simp) ?_
      refine T_take (i := 32) (v := .int .i64 k) rfl (by kernel_rfl) (by kernel_rfl) (by kernel_rfl) (by kernel_rfl) (fun _ _ _ h => h) hS1.out (by kernel_rfl) (fun w' hS' => by obtain ⟨⟨h0, h1, h2⟩, ⟨h3, h4, h5⟩, -⟩ := hS'; go_simp) ?_
      refine T_take (i := 33) (v := .pointer (some ⟨b', off' + k * 3, none⟩)) rfl (by kernel_rfl) (by kernel_rfl) (by kernel_rfl) (by kernel_rfl) (fun _ _ _ h => h) hS1.out (by kernel_rfl) (fun w' hS' => by obtain ⟨⟨h0, h1, h2⟩, ⟨h3, h4, h5⟩, -⟩ := hS'; go_simp; try omega) ?_
      refine T_take (i := 34) (v := .pointer (some ⟨b', off' + k * 3 + 2, none⟩)) rfl (by kernel_rfl) (by kernel_rfl) (by kernel_rfl) (by kernel_rfl) (fun _ _ _ h => h) hS1.out (by kernel_rfl) (fun w' hS' => by obtain ⟨⟨h0, h1, h2⟩, ⟨h3, h4, h5⟩, -⟩ := hS'; go_simp; try omega) ?_
      refine T_take (i := 35) (v := y2) rfl (by kernel_rfl) (by kernel_rfl) (by kernel_rfl) (by kernel_rfl) (fun _ _ _ h => h) hS1.out (by kernel_rfl) (fun w' hS' => by obtain ⟨⟨h0, h1, h2⟩, ⟨h3, h4, h5⟩, -⟩ := hS'; go_simp) ?_
      refine T_step (i := 36) rfl (by kernel_rfl) rfl (by kernel_rfl) ?_
      intro K hK
      go_simp
      refine (same_rows gs _ _ _ (HR1.out.below hS1.out.2.2) (HR2.out.below hS1.out.2.2)).mono ?_
      rintro e' wT2 ⟨rfl, hb2⟩
      have hS2 := Lib.hid (show (fun (w' : World) => (w'.cell? ⟨b, off + k * 3, none⟩ = some (.int .i64 z) ∧ w'.cell? ⟨b, off + k * 3 + 1, none⟩ = some x1 ∧ w'.cell? ⟨b, off + k * 3 + 2, none⟩ = some x2) ∧ (w'.cell? ⟨b', off' + k * 3, none⟩ = some (.int .i64 z) ∧ w'.cell? ⟨b', off' + k * 3 + 1, none⟩ = some y1 ∧ w'.cell? ⟨b', off' + k * 3 + 2, none⟩ = some y2) ∧ Below w.heap.size w w') wT2 from ⟨⟨(hb2.cell (p := ⟨b, off + k * 3, none⟩) (Nat.lt_of_lt_of_le hbA hS1.out.2.2.size)).trans hS1.out.1.1, (hb2.cell (p := ⟨b, off + k * 3 + 1, none⟩) (Nat.lt_of_lt_of_le hbA hS1.out.2.2.size)).trans hS1.out.1.2.1, (hb2.cell (p := ⟨b, off + k * 3 + 2, none⟩) (Nat.lt_of_lt_of_le hbA hS1.out.2.2.size)).trans hS1.out.1.2.2⟩, ⟨(hb2.cell (p := ⟨b', off' + k * 3, none⟩) (Nat.lt_of_lt_of_le hbB hS1.out.2.2.size)).trans hS1.out.2.1.1, (hb2.cell (p := ⟨b', off' + k * 3 + 1, none⟩) (Nat.lt_of_lt_of_le hbB hS1.out.2.2.size)).trans hS1.out.2.1.2.1, (hb2.cell (p := ⟨b', off' + k * 3 + 2, none⟩) (Nat.lt_of_lt_of_le hbB hS1.out.2.2.size)).trans hS1.out.2.1.2.2⟩, hS1.out.2.2.trans (hb2.mono hS1.out.2.2.size)⟩)
      refine hK.out _ _ hS2.out ?_
      clear hK K
      refine T_take (i := 37) (v := .bool false) rfl (by kernel_rfl) (by kernel_rfl) (by kernel_rfl) (by kernel_rfl) (fun _ _ _ h => h) hS2.out (by kernel_rfl) (fun w' hS' => by obtain ⟨⟨h0, h1, h2⟩, ⟨h3, h4, h5⟩, -⟩ := hS'; go_simp) ?_
      refine T_take (i := 38) (v := .bool false) rfl (by kernel_rfl) (by kernel_rfl) (by kernel_rfl) (by kernel_rfl) (fun _ _ _ h => h) hS2.out (by kernel_rfl) (fun w' hS' => by obtain ⟨⟨h0, h1, h2⟩, ⟨h3, h4, h5⟩, -⟩ := hS'; go_simp) ?_
      refine ⟨by kernel_rfl, ?_⟩
      have HBn := Lib.hid hS2.out.2.2
      clear c0 c1 c2 d0 d1 d2
      go_wp2_with fail
      exact ⟨⟨k + 1, by omega, by go_num, HBn.out⟩, by simp [RowKit.intOf]; omega⟩
    · obtain rfl : k = ts.length := by omega
      go_wp2
      go_ret
      exact ⟨rfl, HB.out⟩
end Go.Proofs.Ytjijgagdaolkcaa
