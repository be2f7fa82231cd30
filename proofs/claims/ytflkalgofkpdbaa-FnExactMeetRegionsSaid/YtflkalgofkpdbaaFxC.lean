/- The program's MoveRegion. -/
import Derived.Test.YtflkalgofkpdbaaFxB
namespace Go.Proofs.Ytflkalgofkpdbaa
open Go.RowKit Go.Lib

set_option maxRecDepth 100000 in
set_option maxHeartbeats 800000 in
theorem i_move_f (r : Rgn) (x : List Int) (v a : Value) (w : World) (c1 : ptR r x = false) (hv : Rg w v r) (ha : Sl w a (intVals x)) :
    Calls Try.prog 24 #[v, a] w (GotG w (moveR r.1 r.2 x)) := by
  rw [moveR_f c1]
  have C1 := Lib.hid c1
  clear c1
  have HR := Lib.hid hv
  have HX := Lib.hid ha
  obtain ⟨u, rfl, hss⟩ := hv
  obtain ⟨p, c, rfl, hm, _⟩ := ha.shape
  rw [intVals_len] at hm HX ⊢
  unfold maxLen at hm
  have HV := Lib.hid hss
  obtain ⟨qa, qc, rfl, hqm⟩ := hss.shape
  unfold maxLen at hqm
  have K := Lib.hid (Bk.pair w #[.int .i64 r.1, .slice qa r.2.length qc] #[.int .i64 0, .slice none 0 0] 38 38)
  have B0 := Lib.hid (below2 w (.cells #[.int .i64 r.1, .slice qa r.2.length qc] 38) (.cells #[.int .i64 0, .slice none 0 0] 38))
  clear ha hss
  go_enter Try.func24, Try.ntmps24
  go_wp2_with fail
  refine (i_pointfor r x _ _ _ (HR.out.below B0.out) (HX.out.below B0.out)).mono ?_
  rintro e w1 ⟨rfl, hb⟩
  rw [C1.out]
  have B1 := Lib.hid (B0.out.trans (hb.mono B0.out.size))
  have K1 := Lib.hid (And.intro (K.out.1.below hb) (K.out.2.below hb))
  clear hb
  obtain ⟨⟨p0, p1⟩, pf0, pf1⟩ := K1.out.2.two
  go_wp2
  refine bodyPost_ret (v := .tuple #[.agg #[.int .i64 0, .slice none 0 0], .bool false]) ?_ rfl ⟨⟨_, rfl, OwG.zero⟩, (B1.out.setCell (by simp) _).setCell (by simp) _⟩
  simp [results, Try.results24, go_sem, p0, p1]

/-- What MoveRegion's loop keeps: the region's box, the answer's box, the halves of fixed length. -/
def IMoveI (w w2 : World) (n : Int) (U V : Value) (hs : List Hf) (wr : World) : Prop :=
  Bk wr w.heap.size #[.int .i64 n, U] 38 ∧ Bk wr (w.heap.size + 1) #[.int .i64 0, .slice none 0 0] 38 ∧ OwF 69 (w.heap.size + 2) w2.heap.size wr V hs ∧ Below w.heap.size w wr ∧ w.heap.size + 2 ≤ wr.heap.size ∧ w2.heap.size ≤ wr.heap.size
theorem moved_lens {n : Int} {hs : List Hf} {v : List Int} (h : regOk n hs = true) (k : Nat) (hk : k < (moveL hs v).length) : ((moveL hs v)[k].1.length : Int) = n := by
  rw [move_len] at hk
  have h1 := halfOk_t ((regOk_t h).2.2.2 k hk)
  have e : (moveL hs v)[k] = moveH v hs[k] := by simp [moveL]
  rw [e]
  exact h1.2.2.1

set_option maxRecDepth 100000 in
set_option maxHeartbeats 3200000 in
theorem i_move_t (r : Rgn) (x : List Int) (v a : Value) (w : World) (hp : ptR r x = true) (hv : Rg w v r) (ha : Sl w a (intVals x)) :
    Calls Try.prog 24 #[v, a] w (GotG w (moveR r.1 r.2 x)) := by
  obtain ⟨n, hs'⟩ := r
  have HE := Lib.hid (moveR_e hp)
  have HD := Lib.hid (half_dot hp)
  have HDB := Lib.hid (half_dot_bd hp)
  have HDR := Lib.hid (dotR_half hp)
  have HBB := Lib.hid (half_bound (ptR_t hp).1)
  obtain ⟨c1, c2, c3⟩ := ptR_t hp
  have C1 := Lib.hid hp
  simp only at HE HD HDB HDR HBB c1 c2 c3 ⊢
  have R8 := Lib.hid (regOk_t c1)
  have CR1 := Lib.hid c1
  clear c1 c2 c3 hp
  have HR := Lib.hid hv
  have HX := Lib.hid ha
  obtain ⟨u, rfl, hss⟩ := hv
  simp only at hss
  obtain ⟨p, c, rfl, hm, _⟩ := ha.shape
  rw [intVals_len] at hm HX ⊢
  unfold maxLen at hm
  have HV := Lib.hid hss
  obtain ⟨qa, qc, rfl, hqm⟩ := hss.shape
  unfold maxLen at hqm
  have K := Lib.hid (Bk.pair w #[.int .i64 n, .slice qa hs'.length qc] #[.int .i64 0, .slice none 0 0] 38 38)
  have B0 := Lib.hid (below2 w (.cells #[.int .i64 n, .slice qa hs'.length qc] 38) (.cells #[.int .i64 0, .slice none 0 0] 38))
  clear ha hss
  go_enter Try.func24, Try.ntmps24
  go_wp2_with fail
  refine (i_pointfor (n, hs') x _ _ _ (HR.out.below B0.out) (HX.out.below B0.out)).mono ?_
  rintro e w1 ⟨rfl, hb⟩
  rw [C1.out]
  have B1 := Lib.hid (B0.out.trans (hb.mono B0.out.size))
  have K1 := Lib.hid (And.intro (K.out.1.below hb) (K.out.2.below hb))
  clear hb
  obtain ⟨⟨l0, l1⟩, -⟩ := K1.out.1.two
  go_wp2_with fail
  refine (i_fixed (n, hs') _ _ (HR.out.below B1.out) (fun k hk => by have h := halfOk_t (R8.out.2.2.2 k hk); simp only at h ⊢; omega) R8.out.2.2.1).mono ?_
  rintro e w2 ⟨⟨g, zc, rfl, ho⟩, hb⟩
  have K2 := Lib.hid (And.intro (K1.out.1.below hb) (K1.out.2.below hb))
  have B2 := Lib.hid (B1.out.trans (hb.mono B1.out.size))
  have Z1 := Lib.hid (show w.heap.size + 2 ≤ w1.heap.size from K1.out.2.lt)
  have HI := Lib.hid (show IMoveI w w2 n (.slice qa hs'.length qc) (.slice (some ⟨g, 0, none⟩) hs'.length zc) (movedH hs' x 0) w2 from ⟨K2.out.1, K2.out.2, by rw [movedH_zero]; exact ho.mono Z1.out (Nat.le_refl _), B2.out, Nat.le_trans Z1.out hb.size, Nat.le_refl _⟩)
  clear ho hb l0 l1
  obtain ⟨⟨l0, l1⟩, -⟩ := K2.out.1.two
  go_wp2
  clear l0 l1
  go_loopw [19] (fun i wr => ∃ k : Nat, k ≤ hs'.length ∧ i = .int .i64 k ∧ IMoveI w w2 n (.slice qa hs'.length qc) (.slice (some ⟨g, 0, none⟩) hs'.length zc) (movedH hs' x k) wr) (fun i _ => hs'.length - (RowKit.intOf i).toNat)
  case atStart => exact ⟨0, Nat.zero_le _, rfl, HI.out⟩
  case round =>
    obtain ⟨k, hk, rfl, hci⟩ := hrel
    have HC := Lib.hid hci
    clear hci
    by_cases hlt : k < hs'.length
    · obtain ⟨b', e1, p1, p2, p3, p4, ⟨-, -, -, d3⟩, hfr⟩ := HC.out.2.2.1.at k (by rw [movedH_len]; exact hlt) rfl
      rw [movedH_at hlt] at d3
      rw [movedH_len] at p4
      simp only [Option.some.injEq, Addr.mk.injEq, and_true] at e1
      subst e1
      obtain ⟨b, off, y, rfl, _, hb2, hcell, hcell1, hsx⟩ := HV.out.half k hlt rfl
      rw [← HC.out.2.2.2.1.cell (p := ⟨b, off + k * 2, none⟩) hb2] at hcell
      rw [← HC.out.2.2.2.1.cell (p := ⟨b, off + k * 2 + 1, none⟩) hb2] at hcell1
      have HX1 := Lib.hid (hsx.below HC.out.2.2.2.1)
      obtain ⟨xa, xc, rfl, _, _⟩ := hsx.shape
      rw [intVals_len] at hcell HX1
      have HG := Lib.hid (And.intro p1 (And.intro p2 p3))
      have HFr := Lib.hid (hfr (k * 4 + 3))
      have HM := Lib.hid (movedH_step (v := x) hlt)
      have HXw := Lib.hid (HX.out.below HC.out.2.2.2.1)
      have i1 : (0 : Int) ≤ (k : Int) := by omega
      have i2 : (k : Int) < (hs'.length : Int) := by omega
      have qb := HDB.out k hlt
      have bb := HBB.out k hlt
      obtain ⟨q, hq⟩ : ∃ q : Int, dotL hs'[k].1 x = q := ⟨_, rfl⟩
      simp only [hq] at qb
      obtain ⟨bk, hbk⟩ : ∃ q : Int, hs'[k].2 = q := ⟨_, rfl⟩
      simp only [hbk] at bb
      have hw : IntKind.i64.wrap (bk + q) = bk + q := IntWalk.i64_in _ (by omega)
      have HQ := Lib.hid hq
      have HQR := Lib.hid ((HDR.out k hlt).trans hq)
      have HBK := Lib.hid hbk
      rw [hbk] at d3 hcell1
      have hnb := below1 wr (.cells #[.slice xa hs'[k].1.length xc, .int .i64 bk] 27)
      have HNB := Lib.hid hnb
      have KH := Lib.hid (Bk.new wr #[.slice xa hs'[k].1.length xc, .int .i64 bk] 27)
      have d3' := (hnb.cell (p := ⟨g, k * 4 + 3, none⟩) p3).trans d3
      have D3 := Lib.hid d3'
      have LG := Lib.hid (Nat.lt_of_lt_of_le p3 hnb.size)
      clear hsx hnb hb2 hq hbk d3 d3' p1 p2 p3 hfr
      go_wp2
      refine wgen ?_
      intro W hW
      have KW := Lib.hid (show Bk W wr.heap.size #[.slice xa hs'[k].1.length xc, .int .i64 bk] 27 ∧ Below wr.heap.size wr W ∧ W.cell? ⟨g, k * 4 + 3, none⟩ = some (.int .i64 bk) ∧ g < W.heap.size by rw [hW]; exact ⟨KH.out, HNB.out, D3.out, LG.out⟩)
      clear hW KH HNB D3 LG hcell hcell1
      obtain ⟨⟨m0, -⟩, -⟩ := KW.out.1.two
      have d3 := KW.out.2.2.1
      refine T_begin (z := fun k => 9 < k) (S := fun (w' : World) => w'.cell? ⟨g, k * 4 + 3, none⟩ = some (.int .i64 bk) ∧ w'.cell? ⟨wr.heap.size, 0, none⟩ = some (.slice xa hs'[k].1.length xc)) (by kernel_rfl) ?_
      show wpAnyT _ _ _ _ _ _ 13 _ _ _
      have hS0 := Lib.hid (show (fun (w' : World) => w'.cell? ⟨g, k * 4 + 3, none⟩ = some (.int .i64 bk) ∧ w'.cell? ⟨wr.heap.size, 0, none⟩ = some (.slice xa hs'[k].1.length xc)) _ from ⟨d3, m0⟩)
      refine T_take (i := 0) (v := .slice (some ⟨g, 0, none⟩) hs'.length zc) rfl (by kernel_rfl) (by kernel_rfl) (by kernel_rfl) (by kernel_rfl) (fun _ _ _ h => h) hS0.out rfl (fun w' hS' => by (try dsimp only at hS'); go_simp) ?_
      refine T_take (i := 1) (v := .int .i64 k) rfl (by kernel_rfl) (by kernel_rfl) (by kernel_rfl) (by kernel_rfl) (fun _ _ _ h => h) hS0.out rfl (fun w' hS' => by (try dsimp only at hS'); go_simp) ?_
      refine T_take (i := 2) (v := .pointer (some ⟨g, k * 4, none⟩)) rfl (by kernel_rfl) (by kernel_rfl) (by kernel_rfl) (by kernel_rfl) (fun _ _ _ h => h) hS0.out rfl (fun w' hS' => by (try dsimp only at hS'); go_simp) ?_
      refine T_take (i := 3) (v := .pointer (some ⟨g, k * 4 + 3, none⟩)) rfl (by kernel_rfl) (by kernel_rfl) (by kernel_rfl) (by kernel_rfl) (fun _ _ _ h => h) hS0.out rfl (fun w' hS' => by (try dsimp only at hS'); go_simp) ?_
      refine T_take (i := 4) (v := .int .i64 bk) rfl (by kernel_rfl) (by kernel_rfl) (by kernel_rfl) (by kernel_rfl) (fun _ _ _ h => h) hS0.out rfl (fun w' hS' => by (try dsimp only at hS'); go_simp) ?_
      refine T_take (i := 5) (v := .pointer (some ⟨wr.heap.size, 0, none⟩)) rfl (by kernel_rfl) (by kernel_rfl) (by kernel_rfl) (by kernel_rfl) (fun _ _ _ h => h) hS0.out rfl (fun w' hS' => by (try dsimp only at hS'); go_simp) ?_
      refine T_take (i := 6) (v := .slice xa hs'[k].1.length xc) rfl (by kernel_rfl) (by kernel_rfl) (by kernel_rfl) (by kernel_rfl) (fun _ _ _ h => h) hS0.out rfl (fun w' hS' => by (try dsimp only at hS'); go_simp) ?_
      refine T_take (i := 7) (v := .slice p x.length c) rfl (by kernel_rfl) (by kernel_rfl) (by kernel_rfl) (by kernel_rfl) (fun _ _ _ h => h) hS0.out rfl (fun w' hS' => by (try dsimp only at hS'); go_simp) ?_
      refine T_step (i := 8) rfl (by kernel_rfl) rfl rfl ?_
      intro K hK
      go_simp
      refine (i_dotof hs'[k].1 x _ _ _ (HX1.out.below KW.out.2.1.drew) (HXw.out.below KW.out.2.1.drew)).mono ?_
      rintro e w4 ⟨rfl, hb⟩
      rw [HQR.out]
      have hb : Below W.heap.size W w4 := (Below.refl _ _).drew.trans hb
      have s1 := show (fun (w' : World) => w'.cell? ⟨g, k * 4 + 3, none⟩ = some (.int .i64 bk) ∧ w'.cell? ⟨wr.heap.size, 0, none⟩ = some (.slice xa hs'[k].1.length xc)) w4 from ⟨(hb.cell (p := ⟨g, k * 4 + 3, none⟩) KW.out.2.2.2).trans d3, (hb.cell (p := ⟨wr.heap.size, 0, none⟩) KW.out.1.lt).trans m0⟩
      have HB4 := Lib.hid (KW.out.2.1.trans (hb.mono KW.out.2.1.size))
      clear hb d3 m0 hS0
      refine hK.out _ _ s1 ?_
      clear hK K
      have hS1 := Lib.hid s1
      clear s1
      refine T_take (i := 9) (v := .int .i64 (bk + q)) rfl (by kernel_rfl) (by kernel_rfl) (by kernel_rfl) (by kernel_rfl) (fun _ _ _ h => h) hS1.out rfl (fun w' hS' => by (try dsimp only at hS'); go_simp) ?_
      refine T_anytake (i := 10) (v := .pointer (some ⟨g, k * 4, none⟩)) rfl (by kernel_rfl) (by kernel_rfl) (by kernel_rfl) rfl (fun _ _ _ h => h) rfl (fun w' => by go_simp) ?_
      refine T_anytake (i := 11) (v := .pointer (some ⟨g, k * 4 + 3, none⟩)) rfl (by kernel_rfl) (by kernel_rfl) (by kernel_rfl) rfl (fun _ _ _ h => h) rfl (fun w' => by go_simp) ?_
      obtain ⟨q0, -⟩ := hS1.out
      have q2 := (HB4.out.frozen (p := ⟨g, k * 4 + 3, none⟩) HG.out.2.2).trans HFr.out
      clear hw
      refine T_last (i := 12) rfl (by kernel_rfl) (by kernel_rfl) rfl rfl ?_
      go_simp
      go_wp2
      refine ⟨⟨k + 1, by omega, by go_num, ?_⟩, by simp [RowKit.intOf]; omega⟩
      have h5 := (HC.out.2.2.1.below HB4.out).bound k (by rw [movedH_len]; exact hlt) (bk + q)
      rw [movedH_at hlt, show (hs'[k].1, bk + q) = moveH x hs'[k] by unfold moveH; rw [HQ.out, HBK.out], HM.out] at h5
      have hg := HG.out
      have hz := HC.out.2.2.2.2
      have hz4 := HB4.out.size
      exact ⟨(HC.out.1.below HB4.out).other (by show g ≠ _; omega) _, (HC.out.2.1.below HB4.out).other (by show g ≠ _; omega) _, h5, (HC.out.2.2.2.1.trans (HB4.out.mono HC.out.2.2.2.1.size)).setCell (by show _ ≤ g; omega) _, by simp [World.setCell]; omega, by simp [World.setCell]; omega⟩
    · obtain rfl : k = hs'.length := by omega
      have HF := Lib.hid (show OwF 69 (w.heap.size + 2) w2.heap.size wr (.slice (some ⟨g, 0, none⟩) hs'.length zc) (moveL hs' x) by have h := HC.out.2.2.1; rw [movedH_all] at h; exact h)
      obtain ⟨⟨l0, l1⟩, -⟩ := HC.out.1.two
      obtain ⟨N, hN⟩ : ∃ N : Nat, n = N := ⟨n.toNat, by have := R8.out.1; omega⟩
      subst hN
      have HL := Lib.hid (fun k hk => moved_lens (v := x) CR1.out k hk)
      have HEE := Lib.hid (show moveR (N : Int) hs' x = regR N (moveL hs' x) from HE.out)
      go_wp2_with fail
      refine (i_regof N (moveL hs' x) _ _ _ _ HF.out (by have := R8.out.1; omega) (by have := R8.out.2.1; omega) (fun k hk => by have := HL.out k hk; omega) (by rw [move_len]; have := R8.out.2.2.1; omega)).mono ?_
      rintro e w5 ⟨⟨z, rfl, zu, rfl, ho⟩, hb⟩
      obtain ⟨ra, rc, rfl, _⟩ := ho.hs.shape
      have HO := Lib.hid ho
      have K5 := Lib.hid (HC.out.2.1.below hb)
      have B5 := Lib.hid (HC.out.2.2.2.1.trans (hb.mono HC.out.2.2.2.1.size))
      have HZ5 := Lib.hid hb.size
      clear ho hb l0 l1
      obtain ⟨⟨p0, p1⟩, pf0, pf1⟩ := K5.out.two
      go_wp2
      refine bodyPost_ret (v := .tuple #[.agg #[.int .i64 (regR N (moveL hs' x)).1.1, .slice ra (regR N (moveL hs' x)).1.2.length rc], .bool (regR N (moveL hs' x)).2]) ?_ rfl (got_mk2 HEE.out ⟨⟨_, rfl, _, rfl, ?_⟩, (B5.out.setCell (by simp) _).setCell (by simp) _⟩)
      · simp [results, Try.results24, go_sem, p0, p1]
      · have hz := HC.out.2.2.2.2
        exact (HO.out.kept (((Kept.refl (w.heap.size + 1) (w.heap.size + 2) w5).setCell (by simp) (by simp) _).setCell (by simp) (by simp) _) (.inr (by omega))).mono (by omega) (by simp [World.setCell])

theorem i_move (r : Rgn) (x : List Int) (v a : Value) (w : World) (hv : Rg w v r) (ha : Sl w a (intVals x)) :
    Calls Try.prog 24 #[v, a] w (GotG w (moveR r.1 r.2 x)) := by
  by_cases c : ptR r x = true
  · exact i_move_t r x v a w c hv ha
  · exact i_move_f r x v a w (bool_f c) hv ha
end Go.Proofs.Ytflkalgofkpdbaa
