/- The program's rational points: what is within the limits, and which one is less. -/
import Derived.Test.YtmogncpkdkdodaaRatS
import Derived.Test.YtmogncpkdkdodaaRegI
import Derived.Shelf.Abstract
namespace Go.Proofs.Ytmogncpkdkdodaa
open Go.RowKit Go.Lib

set_option maxRecDepth 100000 in
theorem i_nonum (x : Int) (w : World) : Calls Try.prog 112 #[.int .i64 x] w fun e w' => e = .returned (.bool (!inR x (-10000000) 10000000)) ∧ w = w' := by
  by_cases h1 : x < -10000000
  · have h := Lib.hid (inR_f (x := x) (lo := -10000000) (hi := 10000000) (fun h => by omega))
    go_enter Try.func112, Try.ntmps112
    go_wp2
    go_ret
    exact ⟨ret_bool (by rw [h.out]; rfl), rfl⟩
  · by_cases h2 : 10000000 < x
    · have h := Lib.hid (inR_f (x := x) (lo := -10000000) (hi := 10000000) (fun h => by omega))
      go_enter Try.func112, Try.ntmps112
      go_wp2
      go_ret
      exact ⟨ret_bool (by rw [h.out]; rfl), rfl⟩
    · have h := Lib.hid (inR_mk (x := x) (lo := -10000000) (hi := 10000000) (by omega) (by omega))
      go_enter Try.func112, Try.ntmps112
      go_wp2
      go_ret
      exact ⟨ret_bool (by rw [h.out]; rfl), rfl⟩

/-- Where the first number lies that is no entry, or -1. -/
def IdxQ (v : List Int) (w : World) (e : Ending) (w' : World) : Prop :=
  ((small v 10000000 = true ∧ e = .returned (.int .i64 (-1))) ∨ (small v 10000000 = false ∧ ∃ k : Nat, e = .returned (.int .i64 k))) ∧ Below w.heap.size w w'

set_option maxRecDepth 100000 in
set_option maxHeartbeats 400000 in
theorem i_indexq (v : List Int) (a : Value) (w : World) (hv : Sl w a (intVals v)) :
    Calls Try.prog 128 #[a, .func (.func 112) #[] #[]] w (IdxQ v w) := by
  obtain ⟨a, c, rfl, hm, hopen⟩ := hv.shape
  rw [intVals_len] at hm hopen ⊢
  unfold maxLen at hm
  have HO := Lib.hid hopen
  clear hopen hv
  go_enter Try.func128, Try.ntmps128
  go_wp2
  go_loopw [5, 8] (fun _ i wr => ∃ k : Nat, k ≤ v.length ∧ i = .int .i64 k ∧ small (v.take k) 10000000 = true ∧ Below w.heap.size w wr) (fun _ i _ => v.length - (RowKit.intOf i).toNat)
  case atStart => exact ⟨0, Nat.zero_le _, rfl, rfl, Below.refl _ _⟩
  case round =>
    obtain ⟨k, hk, rfl, ht, hbr⟩ := hrel
    have HB := Lib.hid hbr
    have HT := Lib.hid ht
    clear ht
    by_cases hlt : k < v.length
    · obtain ⟨b, off, rfl, hc, hlt2, hx⟩ := HO.out (by omega)
      have hcell := hx k _ (intVals_get v k hlt)
      rw [← hbr.cell (p := ⟨b, off + k, none⟩) hlt2] at hcell
      clear hx hbr
      by_cases hin : inR v[k] (-10000000) 10000000 = true
      · have HI := Lib.hid hin
        clear hin
        go_wp2_with fail
        refine (i_nonum _ _).mono ?_
        rintro e w1 ⟨rfl, rfl⟩
        rw [HI.out]
        go_wp2_with fail
        exact ⟨⟨k + 1, by omega, by go_num, small_take hlt HT.out HI.out, HB.out⟩, by simp [RowKit.intOf]; omega⟩
      · have HI := Lib.hid (Bool.not_eq_true _ ▸ hin)
        clear hin
        go_wp2_with fail
        refine (i_nonum _ _).mono ?_
        rintro e w1 ⟨rfl, rfl⟩
        rw [HI.out]
        go_wp2_with fail
        go_ret
        exact ⟨.inr ⟨small_not hlt HI.out, k, rfl⟩, HB.out⟩
    · obtain rfl : k = v.length := by omega
      clear hbr
      go_wp2
      go_ret
      refine ⟨.inl ⟨?_, rfl⟩, HB.out⟩
      have h := HT.out
      rw [List.take_length] at h
      exact h

set_option maxRecDepth 100000 in
theorem i_containsq (v : List Int) (a : Value) (w : World) (hv : Sl w a (intVals v)) :
    Calls Try.prog 111 #[a, .func (.func 112) #[] #[]] w (Quiet w (.bool (!small v 10000000))) := by
  have HV := Lib.hid hv
  clear hv
  go_enter Try.func111, Try.ntmps111
  go_wp2_with fail
  refine (i_indexq v a _ HV.out).mono ?_
  rintro e w1 ⟨⟨hs, rfl⟩ | ⟨hs, k, rfl⟩, hb⟩
  · have HS := Lib.hid hs
    clear hs
    go_wp2_with fail
    go_ret
    exact ⟨ret_bool (by rw [HS.out]; rfl), hb⟩
  · have HS := Lib.hid hs
    clear hs
    have h0 : (0 : Int) ≤ (k : Int) := by omega
    go_wp2_with fail
    go_ret
    exact ⟨ret_bool (by rw [HS.out]; rfl), hb⟩



set_option maxRecDepth 100000 in
set_option maxHeartbeats 400000 in
theorem i_within (p : Hf) (v : Value) (w : World) (hv : Hv w v p) :
    Calls Try.prog 79 #[v] w (Quiet w (.bool (fineQ p))) := by
  obtain ⟨u, rfl, hs⟩ := hv
  have HS := Lib.hid hs
  have K := Lib.hid (Bk.new w #[u, .int .i64 p.2] 58)
  have B0 := Lib.hid (below1 w (.cells #[u, .int .i64 p.2] 58))
  clear hs
  by_cases l1 : p.2 < 1
  · have E := Lib.hid (fineQ_f1 (p := p) (inR_f (by omega)))
    have l2 : ¬ 1 ≤ p.2 := by omega
    go_enter Try.func79, Try.ntmps79
    go_wp2_with fail
    go_ret
    exact ⟨ret_bool E.out.symm, B0.out⟩
  by_cases l3 : 100000 < p.2
  · have E := Lib.hid (fineQ_f1 (p := p) (inR_f (by omega)))
    have l2 : 1 ≤ p.2 := by omega
    have l4 : ¬ p.2 ≤ 100000 := by omega
    go_enter Try.func79, Try.ntmps79
    go_wp2_with fail
    go_ret
    exact ⟨ret_bool E.out.symm, B0.out⟩
  have E := Lib.hid (fineQ_e (p := p) (inR_mk (by omega) (by omega)))
  have l2 : 1 ≤ p.2 := by omega
  have l4 : p.2 ≤ 100000 := by omega
  obtain ⟨q, hq⟩ : ∃ q : Bool, small p.1 10000000 = q := ⟨_, rfl⟩
  have HQ := Lib.hid hq
  clear hq
  go_enter Try.func79, Try.ntmps79
  go_wp2_with fail
  refine (i_containsq p.1 _ _ (HS.out.below B0.out)).mono ?_
  rintro e w1 ⟨rfl, hb⟩
  rw [HQ.out]
  have B1 := Lib.hid (B0.out.trans (hb.mono B0.out.size))
  clear hb
  cases q with
  | true =>
    go_wp2_with fail
    go_ret
    exact ⟨ret_bool (E.out.trans HQ.out).symm, B1.out⟩
  | false =>
    go_wp2_with fail
    go_ret
    exact ⟨ret_bool (E.out.trans HQ.out).symm, B1.out⟩

def cmpI (x y : Int) : Int := if x = y then 0 else if x < y then -1 else 1
theorem cmpI_eq {x y : Int} (h : x = y) : cmpI x y = 0 := if_pos h
theorem cmpI_lt {x y : Int} (h : x < y) : cmpI x y = -1 := by unfold cmpI; rw [if_neg (by omega), if_pos h]
theorem cmpI_gt {x y : Int} (h : y < x) : cmpI x y = 1 := by unfold cmpI; rw [if_neg (by omega), if_neg (by omega)]
set_option maxRecDepth 100000 in
theorem i_ccmp (x y : Int) (w : World) : Calls Try.prog 83 #[.int .i64 x, .int .i64 y] w fun e w' => e = .returned (.int .i64 (cmpI x y)) ∧ w = w' := by
  by_cases h1 : x < y
  · have E := Lib.hid (cmpI_lt h1)
    go_enter Try.func83, Try.ntmps83
    go_wp2
    go_ret
    exact ⟨ret_int E.out.symm, rfl⟩
  · by_cases h2 : y < x
    · have E := Lib.hid (cmpI_gt h2)
      go_enter Try.func83, Try.ntmps83
      go_wp2
      go_ret
      exact ⟨ret_int E.out.symm, rfl⟩
    · have E := Lib.hid (cmpI_eq (x := x) (y := y) (by omega))
      go_enter Try.func83, Try.ntmps83
      go_wp2
      go_ret
      exact ⟨ret_int E.out.symm, rfl⟩
end Go.Proofs.Ytmogncpkdkdodaa
