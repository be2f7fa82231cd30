/- The program's equality of regions. -/
import Derived.Test.YtflkalgofkpdbaaRegE
namespace Go.Proofs.Ytflkalgofkpdbaa
open Go.RowKit Go.Lib

set_option maxRecDepth 100000 in
set_option maxHeartbeats 1600000 in
theorem i_eqfunc (hs ks : List Hf) (v u : Value) (w : World) (hv : Hs w v hs) (hu : Hs w u ks) :
    Calls Try.prog 56 #[v, u, .func (.func 57) #[] #[]] w (Quiet w (.bool (decide (hs = ks)))) := by
  have HX := Lib.hid hv
  have HY := Lib.hid hu
  obtain ⟨a, c, rfl, hm⟩ := hv.shape
  obtain ⟨b, d, rfl, _⟩ := hu.shape
  unfold maxLen at hm
  clear hv hu
  by_cases hl : hs.length = ks.length
  case neg =>
    have E := Lib.hid (show ¬ hs = ks from fun e => hl (by rw [e]))
    have hne3 : ((hs.length : Int) == (ks.length : Int)) = false := by rw [beq_eq_false_iff_ne]; omega
    have hne4 : ((hs.length : Int) != (ks.length : Int)) = true := by rw [bne_iff_ne]; omega
    have hne5 : (hs.length == ks.length) = false := by rw [beq_eq_false_iff_ne]; exact hl
    have hne6 : (hs.length != ks.length) = true := by rw [bne_iff_ne]; exact hl
    go_enter Try.func56, Try.ntmps56
    go_wp2
    go_ret
    exact ⟨ret_bool (decide_eq_false E.out).symm, Below.refl _ _⟩
  have HL := Lib.hid hl
  rw [← hl] at HY ⊢
  clear hl
  go_enter Try.func56, Try.ntmps56
  go_wp2
  go_loopw [7, 17] (fun _ i wr => ∃ k : Nat, k ≤ hs.length ∧ i = .int .i64 k ∧ hs.take k = ks.take k ∧ Below w.heap.size w wr) (fun _ i _ => hs.length - (RowKit.intOf i).toNat)
  case atStart => exact ⟨0, Nat.zero_le _, rfl, rfl, Below.refl _ _⟩
  case round =>
    obtain ⟨k, hk, rfl, ht, hbr⟩ := hrel
    have HT := Lib.hid ht
    have HA := Lib.hid hbr
    clear ht
    by_cases hlt : k < hs.length
    · have hlt' : k < ks.length := by have := HL.out; omega
      have HY1 := HY.out
      have HY2 : Hs w (.slice b ks.length d) ks := by rw [← HL.out]; exact HY1
      obtain ⟨b1, o1, x, rfl, _, hb2, hcell, hcell1, hsx⟩ := HX.out.half k hlt rfl
      obtain ⟨b2, o2, y, rfl, _, hb2', hcell', hcell1', hsy⟩ := HY2.half k hlt' rfl
      rw [← HA.out.cell (p := ⟨b1, o1 + k * 2, none⟩) hb2] at hcell
      rw [← HA.out.cell (p := ⟨b1, o1 + k * 2 + 1, none⟩) hb2] at hcell1
      rw [← HA.out.cell (p := ⟨b2, o2 + k * 2, none⟩) hb2'] at hcell'
      rw [← HA.out.cell (p := ⟨b2, o2 + k * 2 + 1, none⟩) hb2'] at hcell1'
      have QX := Lib.hid hsx
      have QY := Lib.hid hsy
      obtain ⟨xa, xc, rfl, _, _⟩ := hsx.shape
      obtain ⟨ya, yc, rfl, _, _⟩ := hsy.shape
      have h1 : b1 < wr.heap.size := Nat.lt_of_lt_of_le hb2 hbr.size
      have h2 : b2 < wr.heap.size := Nat.lt_of_lt_of_le hb2' hbr.size
      have hnb := below2 wr (.cells #[.slice xa (intVals hs[k].1).length xc, .int .i64 hs[k].2] 27) (.cells #[.slice ya (intVals ks[k].1).length yc, .int .i64 ks[k].2] 27)
      have HN := Lib.hid (HA.out.trans (hnb.mono HA.out.size))
      clear hsx hsy HY1 HY2 hnb hbr
      obtain ⟨q, hq⟩ : ∃ q : Bool, decide (hs[k] = ks[k]) = q := ⟨_, rfl⟩
      have HQ := Lib.hid hq
      clear hq
      go_wp2_with fail
      refine (i_samehalf hs[k] ks[k] _ _ _ ⟨_, rfl, QX.out.below HN.out⟩ ⟨_, rfl, QY.out.below HN.out⟩).mono ?_
      rintro e w1 ⟨rfl, hb1⟩
      rw [HQ.out]
      have HB1 := Lib.hid (HN.out.trans (hb1.mono HN.out.size))
      clear hb1 hcell hcell1 hcell' hcell1'
      cases q with
      | true =>
        go_wp2
        exact ⟨⟨k + 1, by omega, by go_num, take_eq_step hlt hlt' HT.out (of_decide_eq_true HQ.out), HB1.out⟩, by simp [RowKit.intOf]; omega⟩
      | false =>
        go_wp2
        go_ret
        exact ⟨ret_bool (decide_eq_false (get_ne hlt hlt' (of_decide_eq_false HQ.out))).symm, HB1.out⟩
    · obtain rfl : k = hs.length := by omega
      have E := Lib.hid (take_all_eq HL.out rfl HT.out)
      clear hbr
      go_wp2
      go_ret
      exact ⟨ret_bool (decide_eq_true E.out).symm, HA.out⟩

set_option maxRecDepth 100000 in
set_option maxHeartbeats 800000 in
theorem i_eqreg (r s : Rgn) (v u : Value) (w : World) (hv : Rg w v r) (hu : Rg w u s) :
    Calls Try.prog 31 #[v, u] w (Quiet w (.bool (eqR r.1 r.2 s.1 s.2))) := by
  obtain ⟨x, rfl, hx⟩ := hv
  obtain ⟨y, rfl, hy⟩ := hu
  have HX := Lib.hid hx
  have HY := Lib.hid hy
  have B0 := Lib.hid (below2 w (.cells #[.int .i64 r.1, x] 38) (.cells #[.int .i64 s.1, y] 38))
  clear hx hy
  by_cases hd : r.1 = s.1
  case neg =>
    have E := Lib.hid (eqR_f1 hd)
    have hne : (r.1 == s.1) = false := by rw [beq_eq_false_iff_ne]; exact hd
    have hne2 : (r.1 != s.1) = true := by rw [bne_iff_ne]; exact hd
    clear hd
    go_enter Try.func31, Try.ntmps31
    go_wp2_with fail
    go_ret
    exact ⟨ret_bool E.out.symm, B0.out⟩
  have hne : (r.1 == s.1) = true := by rw [beq_iff_eq]; exact hd
  have E := Lib.hid (show eqR r.1 r.2 s.1 s.2 = decide (r.2 = s.2) from decide_eq_decide.2 ⟨fun e => e.2, fun e => ⟨hd, e⟩⟩)
  clear hd
  go_enter Try.func31, Try.ntmps31
  go_wp2_with fail
  refine (i_eqfunc r.2 s.2 x y _ (HX.out.below B0.out) (HY.out.below B0.out)).mono ?_
  rintro e w1 ⟨rfl, hb⟩
  have B1 := Lib.hid (B0.out.trans (hb.mono B0.out.size))
  clear hb
  go_wp2_with fail
  go_ret
  exact ⟨ret_bool E.out.symm, B1.out⟩
end Go.Proofs.Ytflkalgofkpdbaa
