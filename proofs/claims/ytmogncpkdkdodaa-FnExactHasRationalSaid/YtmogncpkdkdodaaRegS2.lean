/- The model's regions: which points one has. -/
import Derived.Test.YtmogncpkdkdodaaRegS
namespace Go.Proofs.Ytmogncpkdkdodaa
open Go.RowKit Go.Lib

theorem keepF3 {w W : World} {p q r : Addr} {x y z : Value} (h1 : W.cell? p = some x) (h2 : W.cell? q = some y) (h4 : W.cell? r = some z) (h3 : Below w.heap.size w W) : W.drew.cell? p = some x ∧ W.drew.cell? q = some y ∧ W.drew.cell? r = some z ∧ Below w.heap.size w W.drew := ⟨h1, h2, h4, h3.drew⟩
theorem keepE3 {w W w1 : World} {p q r : Addr} {x y z : Value} (hp : p.block < w.heap.size) (hq : q.block < w.heap.size) (hr : r.block < w.heap.size) (h1 : W.cell? p = some x) (h2 : W.cell? q = some y) (h4 : W.cell? r = some z) (h3 : Below w.heap.size w W) (hb : Below W.heap.size W w1) :
    w1.cell? p = some x ∧ w1.cell? q = some y ∧ w1.cell? r = some z ∧ Below w.heap.size w w1 :=
  ⟨(hb.cell (Nat.lt_of_lt_of_le hp h3.size)).trans h1, (hb.cell (Nat.lt_of_lt_of_le hq h3.size)).trans h2, (hb.cell (Nat.lt_of_lt_of_le hr h3.size)).trans h4, h3.trans (hb.mono h3.size)⟩
/-- Whether x is a vector with as many numbers as the region has dimensions. -/
def ptR (r : Rgn) (x : List Int) : Bool := regOk r.1 r.2 && (isV x && decide ((x.length : Int) = r.1))
theorem ptR_t {r : Rgn} {x : List Int} (h : ptR r x = true) : regOk r.1 r.2 = true ∧ isV x = true ∧ (x.length : Int) = r.1 := by
  unfold ptR at h
  simp only [Bool.and_eq_true, decide_eq_true_eq] at h
  exact h
theorem ptR_f1 {r : Rgn} {x : List Int} (h : regOk r.1 r.2 = false) : ptR r x = false := by unfold ptR; rw [h]; rfl
theorem ptR_f2 {r : Rgn} {x : List Int} (h : isV x = false) : ptR r x = false := by unfold ptR; rw [h]; simp
theorem ptR_f3 {r : Rgn} {x : List Int} (h : ¬ (x.length : Int) = r.1) : ptR r x = false := by unfold ptR; rw [decide_eq_false h]; simp
theorem ptR_mk {r : Rgn} {x : List Int} (h1 : regOk r.1 r.2 = true) (h2 : isV x = true) (h3 : (x.length : Int) = r.1) : ptR r x = true := by unfold ptR; rw [h1, h2, decide_eq_true h3]; rfl
theorem hasP_t {r : Rgn} {x : List Int} (h : ptR r x = true) : hasP r.1 r.2 x = hasL r.2 x := by
  obtain ⟨h1, h2, h3⟩ := ptR_t h
  unfold hasP; rw [h1, h2, decide_eq_true h3]; rfl
theorem hasP_f {r : Rgn} {x : List Int} (h : ptR r x = false) : hasP r.1 r.2 x = false := by
  have e : hasP r.1 r.2 x = (ptR r x && hasL r.2 x) := by unfold hasP ptR; rw [Bool.and_assoc, Bool.and_assoc]
  rw [e, h]; rfl

/-- What is known of a half of a region whose numbers meet a vector's. -/
theorem half_dot {r : Rgn} {x : List Int} (h : ptR r x = true) (k : Nat) (hk : k < r.2.length) : r.2[k].1.length = x.length ∧ r.2[k].1.length ≤ 3 ∧ Bd r.2[k].1 20 ∧ Bd x 1000 := by
  obtain ⟨h1, h2, h3⟩ := ptR_t h
  obtain ⟨a1, a2, a3, a4, a5, a6, a7⟩ := halfOk_t ((regOk_t h1).2.2.2 k hk)
  exact ⟨by omega, by omega, a4, small_bd (isV_t h2).2.2⟩

set_option maxRecDepth 100000 in
set_option maxHeartbeats 1600000 in
theorem s_has (r : Rgn) (x : List Int) (v a : Value) (w : World) (hp : ptR r x = true) (hv : Rg w v r) (ha : Sl w a (intVals x)) :
    Calls Try.prog 69 #[v, a] w (Quiet w (.bool (hasL r.2 x))) := by
  obtain ⟨n, hs'⟩ := r
  have HD := Lib.hid (half_dot hp)
  obtain ⟨u, rfl, hss⟩ := hv
  simp only at hss HD ⊢
  have HV := Lib.hid hss
  have HX0 := Lib.hid ha
  obtain ⟨p, c, rfl, hm⟩ := hss.shape
  unfold maxLen at hm
  have K := Lib.hid (Bk.new w #[.int .i64 n, .slice p hs'.length c] 26)
  have B0 := Lib.hid (below1 w (.cells #[.int .i64 n, .slice p hs'.length c] 26))
  clear hss ha hp
  go_enter Try.func69, Try.ntmps69
  go_wp2
  go_loopw [5] (fun i wr => ∃ k : Nat, k ≤ hs'.length ∧ i = .int .i64 k ∧ hasL (hs'.take k) x = true ∧ Below (w.alloc (.cells #[.int .i64 n, .slice p hs'.length c] 26)).heap.size (w.alloc (.cells #[.int .i64 n, .slice p hs'.length c] 26)) wr) (fun i _ => hs'.length - (RowKit.intOf i).toNat)
  case atStart => exact ⟨0, Nat.zero_le _, rfl, rfl, Below.refl _ _⟩
  case round =>
    obtain ⟨k, hk, rfl, ht, hbr⟩ := hrel
    have HB := Lib.hid hbr
    have HT := Lib.hid ht
    have HA := Lib.hid (B0.out.trans (hbr.mono B0.out.size))
    obtain ⟨⟨-, l1⟩, -⟩ := (K.out.below hbr).two
    clear ht
    by_cases hlt : k < hs'.length
    · obtain ⟨b, off, y, rfl, _, hb2, hcell, hcell1, hsx⟩ := HV.out.half k hlt rfl
      rw [← HA.out.cell (p := ⟨b, off + k * 2, none⟩) hb2] at hcell
      rw [← HA.out.cell (p := ⟨b, off + k * 2 + 1, none⟩) hb2] at hcell1
      have HX := Lib.hid hsx
      have i1 : (0 : Int) ≤ (k : Int) := by omega
      have i2 : (k : Int) < (hs'.length : Int) := by omega
      have hb3 : b < (w.alloc (.cells #[.int .i64 n, .slice (some ⟨b, off, none⟩) hs'.length c] 26)).heap.size := by simp; omega
      have hb4 : w.heap.size < (w.alloc (.cells #[.int .i64 n, .slice (some ⟨b, off, none⟩) hs'.length c] 26)).heap.size := alloc_lt _ _
      have HK := Lib.hid (HD.out k hlt)
      clear hsx
      obtain ⟨q, hq⟩ : ∃ q : Int, dotL hs'[k].1 x = q := ⟨_, rfl⟩
      have HQ := Lib.hid hq
      clear hq
      go_wp2_with fail
      go_region_held3 (fun w' => w'.cell? ⟨w.heap.size, 1, none⟩ = some (.slice (some ⟨b, off, none⟩) hs'.length c) ∧ w'.cell? ⟨b, off + k * 2, none⟩ = some y ∧ w'.cell? ⟨b, off + k * 2 + 1, none⟩ = some (.int .i64 hs'[k].2) ∧ Below (w.alloc (.cells #[.int .i64 n, .slice (some ⟨b, off, none⟩) hs'.length c] 26)).heap.size (w.alloc (.cells #[.int .i64 n, .slice (some ⟨b, off, none⟩) hs'.length c] 26)) w')
        (first
          | with_reducible exact keepF3 l1 hcell hcell1 hbr
          | (go_split_ands; with_reducible exact keepE3 hb4 hb3 hb3 (by assumption) (by assumption) (by assumption) (by assumption) (by assumption))
          | go_keep)
        (first | (go_at_call 76; refine (s_dot hs'[k].1 x HK.out.1 (by have := HK.out.2.1; omega) 20 1000 (by omega) (by omega) HK.out.2.2.1 HK.out.2.2.2 _ _ _ (HX.out.below HA.out.drew) (HX0.out.below HA.out.drew)).mono ?_; rintro e w1 ⟨rfl, hb1⟩; rw [HQ.out]))
      rename_i hH
      have HB1 := Lib.hid hH.2.2.2
      clear hH hbr l1 hcell hcell1
      have HA1 := Lib.hid (B0.out.trans (HB1.out.mono B0.out.size))
      by_cases hd : q ≤ hs'[k].2
      · have hd2 : ¬ hs'[k].2 < q := by omega
        go_wp2
        exact ⟨⟨k + 1, by omega, by go_num, all_take' hlt HT.out (by rw [decide_eq_true_eq, HQ.out]; exact hd), HB1.out⟩, by simp [RowKit.intOf]; omega⟩
      · have hd2 : hs'[k].2 < q := by omega
        go_wp2
        go_ret
        exact ⟨ret_bool (all_not' hlt (by rw [decide_eq_false_iff_not, HQ.out]; omega)).symm, HA1.out⟩
    · obtain rfl : k = hs'.length := by omega
      have E := Lib.hid (show hasL hs' x = true by have h := HT.out; rw [List.take_length] at h; exact h)
      clear hbr
      go_wp2
      go_ret
      exact ⟨ret_bool E.out.symm, HA.out⟩

end Go.Proofs.Ytmogncpkdkdodaa
