/- The program's HasRational. -/
import Derived.Test.YtmogncpkdkdodaaRatJ
import Derived.Test.YtmogncpkdkdodaaPtD
import Derived.Test.YtmogncpkdkdodaaPtN
import Derived.Test.YtmogncpkdkdodaaRegN
namespace Go.Proofs.Ytmogncpkdkdodaa
open Go Go.RowKit Go.Lib

/-- The halves with their bounds times d. -/
def timesH (d : Int) (h : Hf) : Hf := (h.1, h.2 * d)
def timedH (hs : List Hf) (d : Int) (k : Nat) : List Hf := (hs.take k).map (timesH d) ++ hs.drop k
theorem timedH_len (hs : List Hf) (d : Int) (k : Nat) : (timedH hs d k).length = hs.length := by
  unfold timedH
  rw [List.length_append, List.length_map, List.length_take, List.length_drop]; omega
theorem timedH_zero (hs : List Hf) (d : Int) : timedH hs d 0 = hs := by simp [timedH]
theorem timedH_all (hs : List Hf) (d : Int) : timedH hs d hs.length = hs.map (timesH d) := by simp [timedH]
theorem timedH_at {hs : List Hf} {d : Int} {k : Nat} (h : k < hs.length) : (timedH hs d k)[k]'(by rw [timedH_len]; exact h) = hs[k] := by
  have h1 : (timedH hs d k)[k]? = some hs[k] := by
    unfold timedH
    rw [List.getElem?_append_right (by rw [List.length_map, List.length_take]; omega), List.length_map, List.length_take, Nat.min_eq_left (by omega), Nat.sub_self, List.getElem?_drop]
    simp [h]
  rw [List.getElem?_eq_getElem (by rw [timedH_len]; exact h)] at h1
  exact Option.some.inj h1
theorem timedH_step {hs : List Hf} {d : Int} {k : Nat} (h : k < hs.length) : (timedH hs d k).set k (timesH d hs[k]) = timedH hs d (k + 1) := by
  unfold timedH
  rw [List.set_append_right _ _ (by rw [List.length_map, List.length_take]; omega), List.length_map, List.length_take, Nat.min_eq_left (by omega), Nat.sub_self, List.drop_eq_getElem_cons h, List.set_cons_zero, List.take_succ_eq_append_getElem h, List.map_append, List.append_assoc]
  rfl
theorem timed_in {n : Int} {hs : List Hf} {p : Hf} {x y z : Int} (h : askQ n hs p = true) (hp : p.1 = [x, y, z].take p.1.length) : inA (hs.map (timesH p.2)) [x, y, z] = hasA hs p := by
  have key : ∀ k (hk : k < hs.length), dot3 hs[k].1 [x, y, z] = dotL hs[k].1 p.1 := fun k hk => by
    obtain ⟨d1, d2, d3, _⟩ := half_rat h k hk
    rw [hp]
    exact (dot_three (n := p.1.length) d1 (by omega) (by omega)).symm
  unfold inA hasA
  rw [List.all_map]
  refine Bool.eq_iff_iff.2 ?_
  simp only [List.all_eq_true, Function.comp_apply, decide_eq_true_eq]
  constructor
  · intro H q hq
    obtain ⟨k, hk, rfl⟩ := List.mem_iff_getElem.1 hq
    have := H _ hq
    rw [← key k hk]; exact this
  · intro H q hq
    obtain ⟨k, hk, rfl⟩ := List.mem_iff_getElem.1 hq
    have := H _ hq
    unfold timesH
    rw [key k hk]; exact this
theorem timed_bd {n : Int} {hs : List Hf} {d : Int} (h : regOk n hs = true) (k : Nat) (hk : k < (hs.map (timesH d)).length) : (-1000 ≤ (hs.map (timesH d))[k].1.getD 0 0 ∧ (hs.map (timesH d))[k].1.getD 0 0 ≤ 1000) ∧ (-1000 ≤ (hs.map (timesH d))[k].1.getD 1 0 ∧ (hs.map (timesH d))[k].1.getD 1 0 ≤ 1000) ∧ (-1000 ≤ (hs.map (timesH d))[k].1.getD 2 0 ∧ (hs.map (timesH d))[k].1.getD 2 0 ≤ 1000) := by
  have hk' : k < hs.length := by simpa using hk
  have e : (hs.map (timesH d))[k].1 = hs[k].1 := by simp [timesH]
  rw [e]
  have hb := (halfOk_t ((regOk_t h).2.2.2 k hk')).2.2.2.1
  have key : ∀ i : Nat, -1000 ≤ hs[k].1.getD i 0 ∧ hs[k].1.getD i 0 ≤ 1000 := fun i => by
    rw [List.getD_eq_getElem?_getD]
    by_cases hi : i < hs[k].1.length
    · rw [List.getElem?_eq_getElem hi]
      have := hb i hi
      simp only [Option.getD_some]; omega
    · rw [List.getElem?_eq_none (by omega)]
      simp
  exact ⟨key 0, key 1, key 2⟩

/-- What HasRational's loop keeps: the point's box, the halves of fixed length. -/
def HqI (w w3 : World) (x : Value) (p : Hf) (V : Value) (hs : List Hf) (wr : World) : Prop :=
  Bk wr (w.heap.size + 1) #[x, .int .i64 p.2] 58 ∧ OwF 91 (w.heap.size + 2) w3.heap.size wr V hs ∧ Below w.heap.size w wr ∧ w3.heap.size ≤ wr.heap.size

theorem HqI.drewn {w w3 : World} {x : Value} {p : Hf} {V : Value} {hs : List Hf} {wr : World} (h : HqI w w3 x p V hs wr) : HqI w w3 x p V hs wr.drew := ⟨h.1, h.2.1, h.2.2.1.drew, h.2.2.2⟩

set_option maxRecDepth 100000 in
set_option maxHeartbeats 3200000 in
theorem i_hasq (r : Rgn) (p : Hf) (v u : Value) (w : World) (hv : Rg w v r) (hu : Hv w u p) :
    Calls Try.prog 34 #[v, u] w (Quiet w (.bool (hasQ r.1 r.2 p))) := by
  obtain ⟨n, hs'⟩ := r
  have HR := Lib.hid hv
  have HP := Lib.hid hu
  obtain ⟨x, rfl, hx⟩ := hv
  obtain ⟨y, rfl, hy⟩ := hu
  simp only at hx ⊢
  have HY := Lib.hid hy
  obtain ⟨xa, xc, rfl, xm⟩ := hx.shape
  obtain ⟨ya, yc, rfl, ym, _⟩ := hy.shape
  rw [intVals_len] at ym HY HP ⊢
  unfold maxLen at xm ym
  have B0 := Lib.hid (below2 w (.cells #[.int .i64 n, .slice xa hs'.length xc] 26) (.cells #[.slice ya p.1.length yc, .int .i64 p.2] 58))
  have K := Lib.hid (Bk.pair w #[.int .i64 n, .slice xa hs'.length xc] #[.slice ya p.1.length yc, .int .i64 p.2] 26 58)
  clear hx hy
  by_cases c1 : regOk n hs' = true
  case neg =>
    have C1 := Lib.hid (bool_f c1)
    have E := Lib.hid (hasQ_f (askQ_f1 (p := p) (bool_f c1)))
    clear c1
    go_enter Try.func34, Try.ntmps34
    go_wp2_with fail
    refine (i_isreg (n, hs') _ _ (HR.out.below B0.out)).mono ?_
    rintro e w1 ⟨rfl, hb⟩
    rw [C1.out]
    have B1 := Lib.hid (B0.out.trans (hb.mono B0.out.size))
    clear hb
    go_wp2_with fail
    go_ret
    exact ⟨ret_bool E.out.symm, B1.out⟩
  have C1 := Lib.hid c1
  by_cases c2 : fineQ p = true
  case neg =>
    have C2 := Lib.hid (bool_f c2)
    have E := Lib.hid (hasQ_f (askQ_f2 (n := n) (hs := hs') (bool_f c2)))
    clear c1 c2
    go_enter Try.func34, Try.ntmps34
    go_wp2_with fail
    refine (i_isreg (n, hs') _ _ (HR.out.below B0.out)).mono ?_
    rintro e w1 ⟨rfl, hb⟩
    rw [C1.out]
    have B1 := Lib.hid (B0.out.trans (hb.mono B0.out.size))
    obtain ⟨⟨n0, n1⟩, -⟩ := (K.out.2.below hb).two
    clear hb
    go_wp2_with fail
    refine (i_within p _ _ (HP.out.below B1.out)).mono ?_
    rintro e w2 ⟨rfl, hb⟩
    rw [C2.out]
    have B2 := Lib.hid (B1.out.trans (hb.mono B1.out.size))
    clear hb n0 n1
    go_wp2_with fail
    go_ret
    exact ⟨ret_bool E.out.symm, B2.out⟩
  have C2 := Lib.hid c2
  by_cases c3 : (p.1.length : Int) = n
  case neg =>
    have E := Lib.hid (hasQ_f (askQ_f3 (hs := hs') c3))
    have hne : ((p.1.length : Int) != n) = true := by rw [bne_iff_ne]; exact c3
    clear c1 c2 c3
    go_enter Try.func34, Try.ntmps34
    go_wp2_with fail
    refine (i_isreg (n, hs') _ _ (HR.out.below B0.out)).mono ?_
    rintro e w1 ⟨rfl, hb⟩
    rw [C1.out]
    have B1 := Lib.hid (B0.out.trans (hb.mono B0.out.size))
    have K1 := Lib.hid (And.intro (K.out.1.below hb) (K.out.2.below hb))
    obtain ⟨⟨n0, n1⟩, -⟩ := K1.out.2.two
    clear hb
    go_wp2_with fail
    refine (i_within p _ _ (HP.out.below B1.out)).mono ?_
    rintro e w2 ⟨rfl, hb⟩
    rw [C2.out]
    have B2 := Lib.hid (B1.out.trans (hb.mono B1.out.size))
    clear n0 n1
    obtain ⟨⟨m0, m1⟩, -⟩ := (K1.out.1.below hb).two
    obtain ⟨⟨n0, n1⟩, -⟩ := (K1.out.2.below hb).two
    clear hb
    go_wp2_with fail
    go_ret
    exact ⟨ret_bool E.out.symm, B2.out⟩
  have hne : ((p.1.length : Int) != n) = false := by rw [bne_eq_false_iff_eq]; exact c3
  have ASK := Lib.hid (askQ_mk c1 c2 c3)
  have E := Lib.hid (hasQ_t ASK.out)
  have HD := Lib.hid (half_rat ASK.out)
  have R8 := Lib.hid (regOk_t c1)
  have FQ := Lib.hid (fineQ_t c2)
  obtain ⟨x0, y0, z0, p1, p2, _, _, p5⟩ := pad3 p.1 (by have := R8.out.1; omega) (by have := R8.out.2.1; omega)
  have P1 := Lib.hid p1
  have P5 := Lib.hid (p5 10000000 (by omega) FQ.out.2.2)
  have TI := Lib.hid (E.out.trans (timed_in ASK.out p2).symm)
  have hl3 : 1 ≤ p.1.length ∧ p.1.length ≤ 3 := ⟨by have := R8.out.1; omega, by have := R8.out.2.1; omega⟩
  clear c1 c2 c3 p1 p2 p5
  go_enter Try.func34, Try.ntmps34
  go_wp2_with fail
  refine (i_isreg (n, hs') _ _ (HR.out.below B0.out)).mono ?_
  rintro e w1 ⟨rfl, hb⟩
  rw [C1.out]
  have B1 := Lib.hid (B0.out.trans (hb.mono B0.out.size))
  have K1 := Lib.hid (And.intro (K.out.1.below hb) (K.out.2.below hb))
  obtain ⟨⟨n0, n1⟩, -⟩ := K1.out.2.two
  clear hb
  go_wp2_with fail
  refine (i_within p _ _ (HP.out.below B1.out)).mono ?_
  rintro e w2 ⟨rfl, hb⟩
  rw [C2.out]
  have B2 := Lib.hid (B1.out.trans (hb.mono B1.out.size))
  have K2 := Lib.hid (And.intro (K1.out.1.below hb) (K1.out.2.below hb))
  clear n0 n1 hb
  obtain ⟨⟨m0, m1⟩, -⟩ := K2.out.1.two
  obtain ⟨⟨n0, n1⟩, -⟩ := K2.out.2.two
  go_wp2_with fail
  refine (i_fixed (n, hs') _ _ (HR.out.below B2.out) (fun k hk => by have h := halfOk_t (R8.out.2.2.2 k hk); have h1 := HD.out k hk; simp only at h h1 ⊢; omega) R8.out.2.2.1).mono ?_
  rintro e w3 ⟨⟨g, zc, rfl, ho⟩, hb⟩
  have Z1 := Lib.hid (show w.heap.size + 2 ≤ w2.heap.size from K2.out.2.lt)
  have HI := Lib.hid (show HqI w w3 (.slice ya p.1.length yc) p (.slice (some ⟨g, 0, none⟩) hs'.length zc) (timedH hs' p.2 0) w3 from ⟨K2.out.2.below hb, by rw [timedH_zero]; exact ho.mono Z1.out (Nat.le_refl _), B2.out.trans (hb.mono B2.out.size), Nat.le_refl _⟩)
  have Z3 := Lib.hid (show w.heap.size + 2 ≤ w3.heap.size from Nat.le_trans Z1.out hb.size)
  clear ho hb m0 m1 n0 n1
  go_wp2
  go_loopw [27] (fun i wr => ∃ k : Nat, k ≤ hs'.length ∧ i = .int .i64 k ∧ HqI w w3 (.slice ya p.1.length yc) p (.slice (some ⟨g, 0, none⟩) hs'.length zc) (timedH hs' p.2 k) wr) (fun i _ => hs'.length - (RowKit.intOf i).toNat)
  case atStart => exact ⟨0, Nat.zero_le _, rfl, HI.out⟩
  case round =>
    obtain ⟨k, hk, rfl, hci⟩ := hrel
    have HC := Lib.hid hci
    clear hci
    obtain ⟨⟨n0, n1⟩, -⟩ := HC.out.1.two
    by_cases hlt : k < hs'.length
    · obtain ⟨b', e1, q1, q2, q3, q4, ⟨-, -, -, d3⟩, hfr⟩ := HC.out.2.1.at k (by rw [timedH_len]; exact hlt) rfl
      rw [timedH_at hlt] at d3
      rw [timedH_len] at q4
      simp only [Option.some.injEq, Addr.mk.injEq, and_true] at e1
      subst e1
      have HG := Lib.hid (And.intro q1 (And.intro q2 q3))
      have HFr := hfr (k * 4 + 3)
      have HM := Lib.hid (timedH_step (d := p.2) hlt)
      have i1 : (0 : Int) ≤ (k : Int) := by omega
      have i2 : (k : Int) < (hs'.length : Int) := by omega
      obtain ⟨-, -, -, -, -, d6, d7⟩ := HD.out k hlt
      have AT := Lib.hid (timedH_at (d := p.2) hlt)
      obtain ⟨bk, hbk⟩ : ∃ q : Int, hs'[k].2 = q := ⟨_, rfl⟩
      have HBK := Lib.hid hbk
      rw [hbk] at d3 d6 d7
      have hw : IntKind.i64.wrap (bk * p.2) = bk * p.2 := IntWalk.i64_in _ (by omega)
      clear hbk hfr q1 q2
      go_wp2
      go_region
      go_wp2
      refine ⟨⟨k + 1, by omega, by go_num, ?_⟩, by simp [RowKit.intOf]; omega⟩
      refine HqI.drewn ?_
      have h5 := HC.out.2.1.bound k (by rw [timedH_len]; exact hlt) (bk * p.2)
      rw [AT.out, show (hs'[k].1, bk * p.2) = timesH p.2 hs'[k] by unfold timesH; rw [HBK.out], HM.out] at h5
      have hg := HG.out
      have hz := HC.out.2.2.2
      exact ⟨HC.out.1.other (by show g ≠ _; omega) _, h5, HC.out.2.2.1.setCell (by show _ ≤ g; omega) _, by simp [World.setCell]; omega⟩
    · obtain rfl : k = hs'.length := by omega
      have HF := Lib.hid (show OwF 91 (w.heap.size + 2) w3.heap.size wr (.slice (some ⟨g, 0, none⟩) hs'.length zc) (hs'.map (timesH p.2)) by have h := HC.out.2.1; rw [timedH_all] at h; exact h)
      have TB := Lib.hid (timed_bd (d := p.2) (askQ_t ASK.out).1)
      have hml : (hs'.map (timesH p.2)).length = hs'.length := List.length_map _
      have B5 := Lib.hid HC.out.2.2.1
      go_wp2_with fail
      refine (i_num p.1 _ _ _ P1.out hl3.1 hl3.2 _ _ (HY.out.below B5.out)).mono ?_
      rintro e w5 ⟨rfl, hb⟩
      have B6 := Lib.hid (B5.out.trans (hb.mono B5.out.size))
      have HF1 := Lib.hid (HF.out.below hb)
      clear hb n0 n1
      go_wp2_with fail
      rw [← hml]
      refine (i_inall (hs'.map (timesH p.2)) x0 y0 z0 g zc _ _ _ (by have h := HF1.out; rw [← hml] at h; exact h) (by rw [hml]; exact R8.out.2.2.1) TB.out (by have := P5.out; omega) (by have := P5.out; omega) (by have := P5.out; omega)).mono ?_
      rintro e w6 ⟨rfl, hb⟩
      have B7 := Lib.hid (B6.out.trans (hb.mono B6.out.size))
      clear hb
      go_wp2_with fail
      go_ret
      exact ⟨ret_bool TI.out.symm, B7.out⟩
end Go.Proofs.Ytmogncpkdkdodaa
