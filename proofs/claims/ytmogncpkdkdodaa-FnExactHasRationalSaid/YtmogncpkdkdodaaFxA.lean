/- The program's lists of halves of fixed length: made out of a region. -/
import Derived.Test.YtmogncpkdkdodaaFx
import Derived.Test.YtmogncpkdkdodaaRegN
import Derived.Test.YtmogncpkdkdodaaMeet
namespace Go.Proofs.Ytmogncpkdkdodaa
open Go.RowKit Go.Lib

/-- What a function that makes a list of fixed halves leaves. -/
def MadeF (w : World) (hs : List Hf) (e : Ending) (w' : World) : Prop := (∃ g c, e = .returned (.slice (some ⟨g, 0, none⟩) hs.length c) ∧ OwF 91 w.heap.size w'.heap.size w' (.slice (some ⟨g, 0, none⟩) hs.length c) hs) ∧ Below w.heap.size w w'
/-- The first k are there, the others zero. -/
def FixI (w : World) (n : Int) (U : Value) (hs : List Hf) (k : Nat) (wr : World) : Prop :=
  Bk wr w.heap.size #[.int .i64 n, U] 26 ∧ OwF 91 (w.heap.size + 1) (w.heap.size + 2) wr (.slice (some ⟨w.heap.size + 1, 0, none⟩) hs.length hs.length) (filledH hs k) ∧ Below w.heap.size w wr ∧ w.heap.size + 2 ≤ wr.heap.size
set_option maxRecDepth 100000 in
set_option maxHeartbeats 3200000 in
theorem i_fixed (r : Rgn) (v : Value) (w : World) (hv : Rg w v r) (hp : ∀ (k : Nat) (hk : k < r.2.length), 1 ≤ r.2[k].1.length ∧ r.2[k].1.length ≤ 3) (hl : r.2.length ≤ 8) :
    Calls Try.prog 63 #[v] w (MadeF w r.2) := by
  obtain ⟨n, hs'⟩ := r
  obtain ⟨u, rfl, hss⟩ := hv
  simp only at hss hp hl ⊢
  have HV := Lib.hid hss
  have HP := Lib.hid hp
  obtain ⟨a, c, rfl, hm⟩ := hss.shape
  unfold maxLen at hm
  obtain ⟨i0, hi, hz0, hz1, hz2⟩ := info_parts info_fx
  have K := Lib.hid (Bk.new w #[.int .i64 n, .slice a hs'.length c] 26)
  have B0 := Lib.hid (below1 w (.cells #[.int .i64 n, .slice a hs'.length c] 26))
  obtain ⟨⟨l0, l1⟩, -⟩ := K.out.two
  clear hss hp
  go_enter Try.func63, Try.ntmps63
  go_wp2_with (at_make; refine wpList_make_full _ rfl _ _ 88 rfl (w.heap.size + 1) 91 i0 _ 4 Try.underlying88 hi hz0 hz1 .i64 .i64 _ _ hs'.length rfl rfl rfl rfl (by rw [hz2]; omega) (by unfold maxLen; omega) (by simp) ?_; intro w1 hown hgrow; have hbel : Below (w.alloc (.cells #[.int .i64 n, .slice a hs'.length c] 26)).heap.size (w.alloc (.cells #[.int .i64 n, .slice a hs'.length c] 26)) w1 := (Below.refl _ _).grown hgrow (Nat.le_refl _) (fun _ h => by cases h); obtain ⟨⟨q0, q1⟩, -⟩ := (K.out.below hbel).two)
  have hsz1 : w.heap.size + 1 < w1.heap.size := by have := (hown.lt _ rfl).2; simpa using this
  rw [show (Value.agg #[.int .i64 0, .int .i64 0, .int .i64 0, .int .i64 0]).cells = #[Value.int .i64 0, .int .i64 0, .int .i64 0, .int .i64 0] from rfl, show (w.alloc (.cells #[.int .i64 n, .slice a hs'.length c] 26)).heap.size = w.heap.size + 1 by simp] at hown
  have HI := Lib.hid (show FixI w n (.slice a hs'.length c) hs' 0 w1 from ⟨K.out.below hbel, by rw [filledH_zero]; exact OwF.zeros hown (Nat.le_refl _) (Nat.lt_succ_self _), B0.out.trans (hbel.mono B0.out.size), hsz1⟩)
  clear hown hgrow hbel hsz1 q0 q1 l0 l1 hi hz0 hz1 hz2
  go_loopw [13] (fun i wr => ∃ k : Nat, k ≤ hs'.length ∧ i = .int .i64 k ∧ FixI w n (.slice a hs'.length c) hs' k wr) (fun i _ => hs'.length - (RowKit.intOf i).toNat)
  case atStart => exact ⟨0, Nat.zero_le _, rfl, HI.out⟩
  case round =>
    obtain ⟨k, hk, rfl, hci⟩ := hrel
    have HC := Lib.hid hci
    clear hci
    by_cases hlt : k < hs'.length
    · obtain ⟨b, off, y, rfl, _, hb2, hcell, hcell1, hsx⟩ := HV.out.half k hlt rfl
      rw [← HC.out.2.2.1.cell (p := ⟨b, off + k * 2, none⟩) hb2] at hcell
      rw [← HC.out.2.2.1.cell (p := ⟨b, off + k * 2 + 1, none⟩) hb2] at hcell1
      have HX := Lib.hid (hsx.below HC.out.2.2.1)
      obtain ⟨xa, xc, rfl, _, _⟩ := hsx.shape
      rw [intVals_len] at hcell HX
      have HPk := Lib.hid (HP.out k hlt)
      have HF := Lib.hid (filledH_step hs' k hlt)
      have HFl := Lib.hid (filledH_len hs' k hk)
      have i1 : (0 : Int) ≤ (k : Int) := by omega
      have i2 : (k : Int) < (hs'.length : Int) := by omega
      have hnb := below1 wr (.cells #[.slice xa hs'[k].1.length xc, .int .i64 hs'[k].2] 48)
      have HNB := Lib.hid hnb
      have KH := Lib.hid (Bk.new wr #[.slice xa hs'[k].1.length xc, .int .i64 hs'[k].2] 48)
      clear hsx hnb hb2
      go_wp2
      refine wgen ?_
      intro W hW
      have KW := Lib.hid (show Bk W wr.heap.size #[.slice xa hs'[k].1.length xc, .int .i64 hs'[k].2] 48 ∧ Below wr.heap.size wr W by rw [hW]; exact ⟨KH.out, HNB.out⟩)
      clear hW KH HNB hcell hcell1
      obtain ⟨⟨m0, m1⟩, -⟩ := KW.out.1.two
      refine T_begin (z := fun k => 7 < k) (S := fun (w' : World) => w'.cell? ⟨wr.heap.size, 0, none⟩ = some (.slice xa hs'[k].1.length xc) ∧ w'.cell? ⟨wr.heap.size, 1, none⟩ = some (.int .i64 hs'[k].2)) (by kernel_rfl) ?_
      show wpAnyT _ _ _ _ _ _ 10 _ _ _
      have hS0 := Lib.hid (show (fun (w' : World) => w'.cell? ⟨wr.heap.size, 0, none⟩ = some (.slice xa hs'[k].1.length xc) ∧ w'.cell? ⟨wr.heap.size, 1, none⟩ = some (.int .i64 hs'[k].2)) _ from ⟨m0, m1⟩)
      refine T_take (i := 0) (v := .slice (some ⟨w.heap.size + 1, 0, none⟩) hs'.length hs'.length) rfl (by kernel_rfl) (by kernel_rfl) (by kernel_rfl) (by kernel_rfl) (fun _ _ _ h => h) hS0.out rfl (fun w' hS' => by (try dsimp only at hS'); go_simp) ?_
      refine T_take (i := 1) (v := .int .i64 k) rfl (by kernel_rfl) (by kernel_rfl) (by kernel_rfl) (by kernel_rfl) (fun _ _ _ h => h) hS0.out rfl (fun w' hS' => by (try dsimp only at hS'); go_simp) ?_
      refine T_take (i := 2) (v := .pointer (some ⟨wr.heap.size, 0, none⟩)) rfl (by kernel_rfl) (by kernel_rfl) (by kernel_rfl) (by kernel_rfl) (fun _ _ _ h => h) hS0.out rfl (fun w' hS' => by (try dsimp only at hS'); go_simp) ?_
      refine T_take (i := 3) (v := .slice xa hs'[k].1.length xc) rfl (by kernel_rfl) (by kernel_rfl) (by kernel_rfl) (by kernel_rfl) (fun _ _ _ h => h) hS0.out rfl (fun w' hS' => by (try dsimp only at hS'); go_simp) ?_
      refine T_take (i := 5) (v := .pointer (some ⟨wr.heap.size, 1, none⟩)) rfl (by kernel_rfl) (by kernel_rfl) (by kernel_rfl) (by kernel_rfl) (fun _ _ _ h => h) hS0.out rfl (fun w' hS' => by (try dsimp only at hS'); go_simp) ?_
      refine T_take (i := 6) (v := .int .i64 hs'[k].2) rfl (by kernel_rfl) (by kernel_rfl) (by kernel_rfl) (by kernel_rfl) (fun _ _ _ h => h) hS0.out rfl (fun w' hS' => by (try dsimp only at hS'); go_simp) ?_
      refine T_step (i := 4) rfl (by kernel_rfl) rfl rfl ?_
      intro K hK
      go_simp
      refine (i_num hs'[k].1 _ _ _ (pad_fx _ HPk.out.1 HPk.out.2) HPk.out.1 HPk.out.2 _ _ (HX.out.below (KW.out.2.drew))).mono ?_
      rintro e w4 ⟨rfl, hb⟩
      have hb : Below W.heap.size W w4 := (Below.refl _ _).drew.trans hb
      have s1 := (KW.out.1.below hb).two.1
      have HB4 := Lib.hid (KW.out.2.trans (hb.mono KW.out.2.size))
      clear hb m0 m1 hS0
      refine hK.out _ _ s1 ?_
      clear hK K
      have hS1 := Lib.hid s1
      clear s1
      refine T_take (i := 7) (v := .agg #[.int .i64 (hs'[k].1.getD 0 0), .int .i64 (hs'[k].1.getD 1 0), .int .i64 (hs'[k].1.getD 2 0), .int .i64 hs'[k].2]) rfl (by kernel_rfl) (by kernel_rfl) (by kernel_rfl) (by kernel_rfl) (fun _ _ _ h => h) hS1.out rfl (fun w' hS' => by (try dsimp only at hS'); go_simp) ?_
      refine T_anytake (i := 8) (v := .pointer (some ⟨w.heap.size + 1, k * 4, none⟩)) rfl (by kernel_rfl) (by kernel_rfl) (by kernel_rfl) rfl (fun _ _ _ h => h) rfl (fun w' => by go_simp) ?_
      obtain ⟨b', e1, p1, p2, p3, _, ⟨d0, d1, d2, d3⟩, hfr⟩ := (HC.out.2.1.below HB4.out).at k (by rw [HFl.out]; exact hlt) rfl
      simp only [Option.some.injEq, Addr.mk.injEq, and_true] at e1
      subst e1
      have f0 := hfr (k * 4)
      have f1 := hfr (k * 4 + 1)
      have f2 := hfr (k * 4 + 2)
      have f3 := hfr (k * 4 + 3)
      clear hfr
      refine T_last (i := 9) rfl (by kernel_rfl) (by kernel_rfl) rfl rfl ?_
      go_simp
      go_wp2
      refine ⟨⟨k + 1, by omega, by go_num, ?_⟩, by simp [RowKit.intOf]; omega⟩
      have h5 := (HC.out.2.1.below HB4.out).put k (by rw [HFl.out]; exact hlt) hs'[k]
      rw [HF.out] at h5
      have hz := HC.out.2.2.2
      exact ⟨((((HC.out.1.below HB4.out).other (by simp) _).other (by simp) _).other (by simp) _).other (by simp) _, h5, ((((HC.out.2.2.1.trans (HB4.out.mono HC.out.2.2.1.size)).setCell (by simp) _).setCell (by simp) _).setCell (by simp) _).setCell (by simp) _, by have := HB4.out.size; simp [World.setCell]; omega⟩
    · obtain rfl : k = hs'.length := by omega
      have HO := Lib.hid (show OwF 91 (w.heap.size + 1) (w.heap.size + 2) wr (.slice (some ⟨w.heap.size + 1, 0, none⟩) hs'.length hs'.length) hs' by have h := HC.out.2.1; rw [filledH_all] at h; exact h)
      go_wp2
      go_ret
      exact ⟨⟨_, _, rfl, HO.out.mono (by omega) HC.out.2.2.2⟩, HC.out.2.2.1⟩
end Go.Proofs.Ytmogncpkdkdodaa
