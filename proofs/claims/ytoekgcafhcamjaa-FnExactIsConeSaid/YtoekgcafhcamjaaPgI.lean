/- The program's points of polygons: what is a corner. -/
import Derived.Test.YtoekgcafhcamjaaPgA
import Derived.Test.YtoekgcafhcamjaaRw
import Derived.Test.YtoekgcafhcamjaaPgM
namespace Go.Proofs.Ytoekgcafhcamjaa
open Go.RowKit Go.Lib

set_option maxRecDepth 100000 in
theorem i_nocoord (x : Int) (w : World) : Calls Try.prog 119 #[.int .i64 x] w fun e w' => e = .returned (.bool (!inR x (-50) 50)) ∧ w = w' := by
  by_cases h1 : x < -50
  · have h := Lib.hid (inR_f (x := x) (lo := -50) (hi := 50) (fun h => by omega))
    go_enter Try.func119, Try.ntmps119
    go_wp2
    go_ret
    exact ⟨ret_bool (by rw [h.out]; rfl), rfl⟩
  · by_cases h2 : 50 < x
    · have h := Lib.hid (inR_f (x := x) (lo := -50) (hi := 50) (fun h => by omega))
      go_enter Try.func119, Try.ntmps119
      go_wp2
      go_ret
      exact ⟨ret_bool (by rw [h.out]; rfl), rfl⟩
    · have h := Lib.hid (inR_mk (x := x) (lo := -50) (hi := 50) (by omega) (by omega))
      go_enter Try.func119, Try.ntmps119
      go_wp2
      go_ret
      exact ⟨ret_bool (by rw [h.out]; rfl), rfl⟩

/-- Where the first number lies that is no coordinate, or -1. -/
def IdxCo (v : List Int) (w : World) (e : Ending) (w' : World) : Prop :=
  ((small v 50 = true ∧ e = .returned (.int .i64 (-1))) ∨ (small v 50 = false ∧ ∃ k : Nat, e = .returned (.int .i64 k))) ∧ Below w.heap.size w w'

set_option maxRecDepth 100000 in
set_option maxHeartbeats 400000 in
theorem i_indexco (v : List Int) (a : Value) (w : World) (hv : Sl w a (intVals v)) :
    Calls Try.prog 109 #[a, .func (.func 119) #[] #[]] w (IdxCo v w) := by
  obtain ⟨a, c, rfl, hm, hopen⟩ := hv.shape
  rw [intVals_len] at hm hopen ⊢
  unfold maxLen at hm
  have HO := Lib.hid hopen
  clear hopen hv
  go_enter Try.func109, Try.ntmps109
  go_wp2
  go_loopw [5, 8] (fun _ i wr => ∃ k : Nat, k ≤ v.length ∧ i = .int .i64 k ∧ small (v.take k) 50 = true ∧ Below w.heap.size w wr) (fun _ i _ => v.length - (RowKit.intOf i).toNat)
  case atStart => exact ⟨0, Nat.zero_le _, rfl, rfl, Below.refl _ _⟩
  case round =>
    obtain ⟨k, hk, rfl, ht, hbr⟩ := hrel
    have HB := Lib.hid hbr
    have HT := Lib.hid ht
    clear ht
    by_cases hlt : k < v.length
    · obtain ⟨b, off, rfl, hc, hlt2, hx⟩ := HO.out (by omega)
      have hcell := hx k _ (intVals_get v k hlt)
      rw [← hbr.cell (p := ⟨b, off + k, none⟩) hlt2] at hcell
      clear hx hbr
      by_cases hin : inR v[k] (-50) 50 = true
      · have HI := Lib.hid hin
        clear hin
        go_wp2_with fail
        refine (i_nocoord _ _).mono ?_
        rintro e w1 ⟨rfl, rfl⟩
        rw [HI.out]
        go_wp2_with fail
        exact ⟨⟨k + 1, by omega, by go_num, small_take hlt HT.out HI.out, HB.out⟩, by simp [RowKit.intOf]; omega⟩
      · have HI := Lib.hid (Bool.not_eq_true _ ▸ hin)
        clear hin
        go_wp2_with fail
        refine (i_nocoord _ _).mono ?_
        rintro e w1 ⟨rfl, rfl⟩
        rw [HI.out]
        go_wp2_with fail
        go_ret
        exact ⟨.inr ⟨small_not hlt HI.out, k, rfl⟩, HB.out⟩
    · obtain rfl : k = v.length := by omega
      clear hbr
      go_wp2
      go_ret
      refine ⟨.inl ⟨?_, rfl⟩, HB.out⟩
      have h := HT.out
      rw [List.take_length] at h
      exact h

set_option maxRecDepth 100000 in
theorem i_containsco (v : List Int) (a : Value) (w : World) (hv : Sl w a (intVals v)) :
    Calls Try.prog 68 #[a, .func (.func 119) #[] #[]] w (Quiet w (.bool (!small v 50))) := by
  have HV := Lib.hid hv
  clear hv
  go_enter Try.func68, Try.ntmps68
  go_wp2_with fail
  refine (i_indexco v a _ HV.out).mono ?_
  rintro e w1 ⟨⟨hs, rfl⟩ | ⟨hs, k, rfl⟩, hb⟩
  · have HS := Lib.hid hs
    clear hs
    go_wp2_with fail
    go_ret
    exact ⟨ret_bool (by rw [HS.out]; rfl), hb⟩
  · have HS := Lib.hid hs
    clear hs
    have h0 : (0 : Int) ≤ (k : Int) := by omega
    go_wp2_with fail
    go_ret
    exact ⟨ret_bool (by rw [HS.out]; rfl), hb⟩



theorem small_wide {v : List Int} (h : small v 50 = true) : small v 1000 = true := by
  unfold small at *
  rw [List.all_eq_true] at *
  intro x hx
  have := inR_t (h x hx)
  exact inR_mk (by omega) (by omega)
set_option maxRecDepth 100000 in
theorem i_plane (v : List Int) (a : Value) (w : World) (hv : Sl w a (intVals v)) :
    Calls Try.prog 78 #[a] w (Quiet w (.bool (isV v && decide (v.length = 2)))) := by
  have HV := Lib.hid hv
  obtain ⟨ad, c, rfl, hm, _⟩ := hv.shape
  rw [intVals_len] at hm HV ⊢
  unfold maxLen at hm
  clear hv
  by_cases h1 : isV v = true
  · have H1 := Lib.hid h1
    clear h1
    by_cases h2 : v.length = 2
    · have H2 := Lib.hid (decide_eq_true h2)
      have i2 : (v.length : Int) = 2 := by omega
      clear h2
      go_enter Try.func78, Try.ntmps78
      go_wp2_with fail
      refine (i_isv v _ _ HV.out).mono ?_
      rintro e w1 ⟨rfl, hb⟩
      rw [H1.out]
      go_wp2
      go_ret
      exact ⟨ret_bool (by rw [H1.out, H2.out]; rfl), hb⟩
    · have H2 := Lib.hid (decide_eq_false h2)
      have i2 : ¬ (v.length : Int) = 2 := by omega
      clear h2
      go_enter Try.func78, Try.ntmps78
      go_wp2_with fail
      refine (i_isv v _ _ HV.out).mono ?_
      rintro e w1 ⟨rfl, hb⟩
      rw [H1.out]
      go_wp2
      go_ret
      exact ⟨ret_bool (by rw [H1.out, H2.out]; exact beq_eq_false_iff_ne.2 i2), hb⟩
  · have H1 := Lib.hid (bool_f h1)
    clear h1
    go_enter Try.func78, Try.ntmps78
    go_wp2_with fail
    refine (i_isv v _ _ HV.out).mono ?_
    rintro e w1 ⟨rfl, hb⟩
    rw [H1.out]
    go_wp2
    go_ret
    exact ⟨ret_bool (by rw [H1.out]; rfl), hb⟩
/-- Whether a row is a point of the plane within bounds. -/
def flat1 (v : List Int) : Bool := decide (v.length = 2) && small v 50
theorem flatR_all (l : List (List Int)) : flatR l = l.all flat1 := rfl
theorem flat1_of {v : List Int} (h : (isV v && decide (v.length = 2)) = true) : flat1 v = small v 50 := by
  rw [Bool.and_eq_true] at h
  unfold flat1
  rw [h.2, Bool.true_and]
theorem flat1_not {v : List Int} (h : (isV v && decide (v.length = 2)) = false) : flat1 v = false := by
  cases hf : flat1 v with
  | false => rfl
  | true =>
    unfold flat1 at hf
    rw [Bool.and_eq_true] at hf
    have hl := of_decide_eq_true hf.1
    rw [hf.1, Bool.and_true, isV_mk (by omega) (by omega), small_wide hf.2] at h
    cases h
set_option maxRecDepth 100000 in
theorem i_nocorner (v : List Int) (a : Value) (w : World) (hv : Sl w a (intVals v)) :
    Calls Try.prog 89 #[a] w (Quiet w (.bool (!flat1 v))) := by
  have HV := Lib.hid hv
  clear hv
  by_cases h1 : (isV v && decide (v.length = 2)) = true
  · have H1 := Lib.hid h1
    have HF := Lib.hid (flat1_of h1)
    clear h1
    go_enter Try.func89, Try.ntmps89
    go_wp2_with fail
    refine (i_plane v _ _ HV.out).mono ?_
    rintro e w1 ⟨rfl, hb⟩
    rw [H1.out]
    have HB := Lib.hid hb
    go_wp2_with fail
    refine (i_containsco v _ _ (HV.out.below hb)).mono ?_
    rintro e w2 ⟨rfl, hb2⟩
    go_wp2
    go_ret
    exact ⟨ret_bool (by rw [HF.out]), HB.out.trans (hb2.mono HB.out.size)⟩
  · have H1 := Lib.hid (bool_f h1)
    have HF := Lib.hid (flat1_not (bool_f h1))
    clear h1
    go_enter Try.func89, Try.ntmps89
    go_wp2_with fail
    refine (i_plane v _ _ HV.out).mono ?_
    rintro e w1 ⟨rfl, hb⟩
    rw [H1.out]
    go_wp2
    go_ret
    exact ⟨ret_bool (by rw [HF.out]; rfl), hb⟩
/-- Where the first row lies that is no corner, or -1. -/
def IdxR (l : List (List Int)) (w : World) (e : Ending) (w' : World) : Prop :=
  ((flatR l = true ∧ e = .returned (.int .i64 (-1))) ∨ (flatR l = false ∧ ∃ k : Nat, e = .returned (.int .i64 k))) ∧ Below w.heap.size w w'
theorem flatR_take {l : List (List Int)} {k : Nat} (h : k < l.length) (h1 : flatR (l.take k) = true) (h2 : flat1 l[k] = true) : flatR (l.take (k + 1)) = true := by
  rw [List.take_succ_eq_append_getElem h]
  rw [flatR_all] at *
  rw [List.all_append, h1, List.all_cons, h2]; rfl
theorem flatR_not {l : List (List Int)} {k : Nat} (h : k < l.length) (h2 : flat1 l[k] = false) : flatR l = false := by
  rw [flatR_all, List.all_eq_false]
  exact ⟨l[k], List.getElem_mem h, by rw [h2]; simp⟩
set_option maxRecDepth 100000 in
set_option maxHeartbeats 400000 in
theorem i_indexcn (l : List (List Int)) (a : Value) (w : World) (hv : Rw w a l) :
    Calls Try.prog 118 #[a, .func (.func 89) #[] #[]] w (IdxR l w) := by
  obtain ⟨a, c, rfl, hm, hopen⟩ := hv.shape
  unfold maxLen at hm
  have HO := Lib.hid hopen
  clear hopen hv
  go_enter Try.func118, Try.ntmps118
  go_wp2
  go_loopw [5, 8] (fun _ i wr => ∃ k : Nat, k ≤ l.length ∧ i = .int .i64 k ∧ flatR (l.take k) = true ∧ Below w.heap.size w wr) (fun _ i _ => l.length - (RowKit.intOf i).toNat)
  case atStart => exact ⟨0, Nat.zero_le _, rfl, rfl, Below.refl _ _⟩
  case round =>
    obtain ⟨k, hk, rfl, ht, hbr⟩ := hrel
    have HB := Lib.hid hbr
    have HT := Lib.hid ht
    clear ht
    by_cases hlt : k < l.length
    · obtain ⟨b, off, u, rfl, hc, hlt2, hcell, hsu⟩ := HO.out k _ (List.getElem?_eq_getElem hlt)
      rw [← hbr.cell (p := ⟨b, off + k, none⟩) hlt2] at hcell
      have HU := Lib.hid (hsu.below hbr)
      clear hbr hsu
      by_cases hin : flat1 l[k] = true
      · have HI := Lib.hid hin
        clear hin
        go_wp2_with fail
        refine (i_nocorner l[k] _ _ HU.out).mono ?_
        rintro e w1 ⟨rfl, hb1⟩
        rw [HI.out]
        have HB1 := Lib.hid (HB.out.trans (hb1.mono HB.out.size))
        go_wp2_with fail
        exact ⟨⟨k + 1, by omega, by go_num, flatR_take hlt HT.out HI.out, HB1.out⟩, by simp [RowKit.intOf]; omega⟩
      · have HI := Lib.hid (Bool.not_eq_true _ ▸ hin)
        clear hin
        go_wp2_with fail
        refine (i_nocorner l[k] _ _ HU.out).mono ?_
        rintro e w1 ⟨rfl, hb1⟩
        rw [HI.out]
        have HB1 := Lib.hid (HB.out.trans (hb1.mono HB.out.size))
        go_wp2_with fail
        go_ret
        exact ⟨.inr ⟨flatR_not hlt HI.out, k, rfl⟩, HB1.out⟩
    · obtain rfl : k = l.length := by omega
      clear hbr
      go_wp2
      go_ret
      refine ⟨.inl ⟨?_, rfl⟩, HB.out⟩
      have h := HT.out
      rw [List.take_length] at h
      exact h
set_option maxRecDepth 100000 in
theorem i_containscn (l : List (List Int)) (a : Value) (w : World) (hv : Rw w a l) :
    Calls Try.prog 88 #[a, .func (.func 89) #[] #[]] w (Quiet w (.bool (!flatR l))) := by
  have HV := Lib.hid hv
  clear hv
  go_enter Try.func88, Try.ntmps88
  go_wp2_with fail
  refine (i_indexcn l a _ HV.out).mono ?_
  rintro e w1 ⟨⟨hs, rfl⟩ | ⟨hs, k, rfl⟩, hb⟩
  · have HS := Lib.hid hs
    clear hs
    go_wp2_with fail
    go_ret
    exact ⟨ret_bool (by rw [HS.out]; rfl), hb⟩
  · have HS := Lib.hid hs
    clear hs
    have h0 : (0 : Int) ≤ (k : Int) := by omega
    go_wp2_with fail
    go_ret
    exact ⟨ret_bool (by rw [HS.out]; rfl), hb⟩
end Go.Proofs.Ytoekgcafhcamjaa
