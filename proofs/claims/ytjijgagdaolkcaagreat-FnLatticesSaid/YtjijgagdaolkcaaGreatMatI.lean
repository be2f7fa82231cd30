/- The program's matrices: what is a matrix. -/
import Derived.Test.YtjijgagdaolkcaaGreatMac
import Derived.Test.YtjijgagdaolkcaaGreatVecJ
import Derived.Shelf.Abstract
namespace Go.Proofs.YtjijgagdaolkcaaGreat
open Go.RowKit Go.Lib

set_option maxRecDepth 100000 in
theorem i_noentry (x : Int) (w : World) : Calls Tryz.prog 97 #[.int .i64 x] w fun e w' => e = .returned (.bool (!inR x (-100) 100)) ∧ w = w' := by
  by_cases h1 : x < -100
  · have h := Lib.hid (inR_f (x := x) (lo := -100) (hi := 100) (fun h => by omega))
    go_enter Tryz.func97, Tryz.ntmps97
    go_wp2
    go_ret
    exact ⟨ret_bool (by rw [h.out]; rfl), rfl⟩
  · by_cases h2 : 100 < x
    · have h := Lib.hid (inR_f (x := x) (lo := -100) (hi := 100) (fun h => by omega))
      go_enter Tryz.func97, Tryz.ntmps97
      go_wp2
      go_ret
      exact ⟨ret_bool (by rw [h.out]; rfl), rfl⟩
    · have h := Lib.hid (inR_mk (x := x) (lo := -100) (hi := 100) (by omega) (by omega))
      go_enter Tryz.func97, Tryz.ntmps97
      go_wp2
      go_ret
      exact ⟨ret_bool (by rw [h.out]; rfl), rfl⟩

/-- Where the first number lies that is no entry, or -1. -/
def IdxP (v : List Int) (w : World) (e : Ending) (w' : World) : Prop :=
  ((small v 100 = true ∧ e = .returned (.int .i64 (-1))) ∨ (small v 100 = false ∧ ∃ k : Nat, e = .returned (.int .i64 k))) ∧ Below w.heap.size w w'

set_option maxRecDepth 100000 in
set_option maxHeartbeats 400000 in
theorem i_index (v : List Int) (a : Value) (w : World) (hv : Sl w a (intVals v)) :
    Calls Tryz.prog 105 #[a, .func (.func 97) #[] #[]] w (IdxP v w) := by
  obtain ⟨a, c, rfl, hm, hopen⟩ := hv.shape
  rw [intVals_len] at hm hopen ⊢
  unfold maxLen at hm
  have HO := Lib.hid hopen
  clear hopen hv
  go_enter Tryz.func105, Tryz.ntmps105
  go_wp2
  go_loopw [5, 8] (fun _ i wr => ∃ k : Nat, k ≤ v.length ∧ i = .int .i64 k ∧ small (v.take k) 100 = true ∧ Below w.heap.size w wr) (fun _ i _ => v.length - (RowKit.intOf i).toNat)
  case atStart => exact ⟨0, Nat.zero_le _, rfl, rfl, Below.refl _ _⟩
  case round =>
    obtain ⟨k, hk, rfl, ht, hbr⟩ := hrel
    have HB := Lib.hid hbr
    have HT := Lib.hid ht
    clear ht
    by_cases hlt : k < v.length
    · obtain ⟨b, off, rfl, hc, hlt2, hx⟩ := HO.out (by omega)
      have hcell := hx k _ (intVals_get v k hlt)
      rw [← hbr.cell (p := ⟨b, off + k, none⟩) hlt2] at hcell
      clear hx hbr
      by_cases hin : inR v[k] (-100) 100 = true
      · have HI := Lib.hid hin
        clear hin
        go_wp2_with fail
        refine (i_noentry _ _).mono ?_
        rintro e w1 ⟨rfl, rfl⟩
        rw [HI.out]
        go_wp2_with fail
        exact ⟨⟨k + 1, by omega, by go_num, small_take hlt HT.out HI.out, HB.out⟩, by simp [RowKit.intOf]; omega⟩
      · have HI := Lib.hid (Bool.not_eq_true _ ▸ hin)
        clear hin
        go_wp2_with fail
        refine (i_noentry _ _).mono ?_
        rintro e w1 ⟨rfl, rfl⟩
        rw [HI.out]
        go_wp2_with fail
        go_ret
        exact ⟨.inr ⟨small_not hlt HI.out, k, rfl⟩, HB.out⟩
    · obtain rfl : k = v.length := by omega
      clear hbr
      go_wp2
      go_ret
      refine ⟨.inl ⟨?_, rfl⟩, HB.out⟩
      have h := HT.out
      rw [List.take_length] at h
      exact h

set_option maxRecDepth 100000 in
theorem i_contains (v : List Int) (a : Value) (w : World) (hv : Sl w a (intVals v)) :
    Calls Tryz.prog 96 #[a, .func (.func 97) #[] #[]] w (Quiet w (.bool (!small v 100))) := by
  have HV := Lib.hid hv
  clear hv
  go_enter Tryz.func96, Tryz.ntmps96
  go_wp2_with fail
  refine (i_index v a _ HV.out).mono ?_
  rintro e w1 ⟨⟨hs, rfl⟩ | ⟨hs, k, rfl⟩, hb⟩
  · have HS := Lib.hid hs
    clear hs
    go_wp2_with fail
    go_ret
    exact ⟨ret_bool (by rw [HS.out]; rfl), hb⟩
  · have HS := Lib.hid hs
    clear hs
    have h0 : (0 : Int) ≤ (k : Int) := by omega
    go_wp2_with fail
    go_ret
    exact ⟨ret_bool (by rw [HS.out]; rfl), hb⟩

theorem isM_mk {m : List (List Int)} (h1 : 1 ≤ m.length) (h3 : m.length ≤ 3) : isM m = m.all (rowOk m.length) := by
  unfold isM
  rw [inR_mk (by omega) (by omega)]; simp
theorem isM_len {m : List (List Int)} (h : ¬ (1 ≤ m.length ∧ m.length ≤ 3)) : isM m = false := by
  unfold isM
  rw [inR_f (by omega)]; simp

set_option maxRecDepth 100000 in
set_option maxHeartbeats 400000 in
theorem i_ismat (m : List (List Int)) (v : Value) (w : World) (hv : Rw w v m) :
    Calls Tryz.prog 81 #[v] w (Quiet w (.bool (isM m))) := by
  have HV := Lib.hid hv
  have hm := hv.len
  unfold maxLen at hm
  obtain ⟨p, cp, rfl, _, _⟩ := hv.shape
  clear hv
  by_cases hl : 1 ≤ m.length ∧ m.length ≤ 3
  · have HE := Lib.hid (isM_mk hl.1 hl.2)
    have l1 := hl.1
    have l2 := hl.2
    clear hl
    go_enter Tryz.func81, Tryz.ntmps81
    go_wp2
    go_loopw [15] (fun i wr => ∃ k : Nat, k ≤ m.length ∧ i = .int .i64 k ∧ (m.take k).all (rowOk m.length) = true ∧ Below w.heap.size w wr) (fun i _ => m.length - (RowKit.intOf i).toNat)
    case atStart => exact ⟨0, Nat.zero_le _, rfl, rfl, Below.refl _ _⟩
    case round =>
      obtain ⟨k, hk, rfl, ht, hbr⟩ := hrel
      rename World => w1
      have HB := Lib.hid hbr
      have HT := Lib.hid ht
      clear ht hbr
      by_cases hlt : k < m.length
      · obtain ⟨b1, o1, r, rfl, hlt1, hcell, hsl⟩ := HV.out.row k hlt rfl
        rw [← HB.out.cell (p := ⟨b1, o1 + k, none⟩) hlt1] at hcell
        have hsl2 := hsl.below HB.out
        have HS := Lib.hid hsl2
        have hml := hsl.len
        obtain ⟨ra, rc, rfl, _, _⟩ := hsl2.shape
        rw [intVals_len] at hcell HS hml
        unfold maxLen at hml
        clear hsl hsl2
        by_cases hn : m[k].length = m.length
        · have HN := Lib.hid hn
          rw [hn] at hcell HS
          clear hn hml
          go_wp2_with fail
          refine (i_contains m[k] _ _ HS.out).mono ?_
          rintro e w2 ⟨rfl, hb2⟩
          have HB2 := Lib.hid (HB.out.trans (hb2.mono HB.out.size))
          clear hb2
          by_cases hs : small m[k] 100 = true
          · have HR := Lib.hid (show rowOk m.length m[k] = true by unfold rowOk; rw [HN.out, hs]; simp)
            rw [hs]
            clear hs
            go_wp2_with fail
            exact ⟨⟨k + 1, by omega, by go_num, rows_take hlt HT.out HR.out, HB2.out⟩, by simp [RowKit.intOf]; omega⟩
          · have hs2 : small m[k] 100 = false := by simpa using hs
            have HR := Lib.hid (show rowOk m.length m[k] = false by unfold rowOk; rw [hs2]; simp)
            rw [hs2]
            clear hs hs2
            go_wp2_with fail
            go_ret
            exact ⟨ret_bool (by rw [HE.out]; exact (rows_not hlt HR.out).symm), HB2.out⟩
        · have HR := Lib.hid (show rowOk m.length m[k] = false by unfold rowOk; rw [decide_eq_false hn]; simp)
          have hne : ((m[k].length : Int) != (m.length : Int)) = true := by rw [bne_iff_ne]; omega
          have hne2 : ((m[k].length : Int) == (m.length : Int)) = false := by rw [beq_eq_false_iff_ne]; omega
          have hne3 : (m[k].length == m.length) = false := by rw [beq_eq_false_iff_ne]; exact hn
          go_wp2_with fail
          go_ret
          exact ⟨ret_bool (by rw [HE.out]; exact (rows_not hlt HR.out).symm), HB.out⟩
      · obtain rfl : k = m.length := by omega
        go_wp2
        go_ret
        refine ⟨ret_bool ?_, HB.out⟩
        have h := HT.out
        rw [List.take_length] at h
        rw [HE.out, h]
  · have HE := Lib.hid (isM_len hl)
    by_cases l1 : m.length < 1
    · clear hl
      go_enter Tryz.func81, Tryz.ntmps81
      go_wp2
      go_ret
      exact ⟨ret_bool HE.out.symm, Below.refl _ _⟩
    · have l2 : 3 < m.length := by omega
      clear hl
      go_enter Tryz.func81, Tryz.ntmps81
      go_wp2
      go_ret
      exact ⟨ret_bool HE.out.symm, Below.refl _ _⟩
end Go.Proofs.YtjijgagdaolkcaaGreat
