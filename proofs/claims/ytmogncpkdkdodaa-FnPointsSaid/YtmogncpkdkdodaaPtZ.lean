/- SliceOf, whatever it is given: the model's, the program's. -/
import Derived.Test.YtmogncpkdkdodaaPtY
import Derived.Test.YtmogncpkdkdodaaMbk
namespace Go.Proofs.Ytmogncpkdkdodaa
open Go Go.RowKit Go.Lib

theorem sliceR_tot (n : Int) (hs : List Hf) (k z : Int) : totH (sliceR n hs k z).1.2 ≤ 32 := by
  unfold sliceR
  split
  · rename_i h; exact regOk_tot h.2.2.2.2.2
  · simp [totH]
theorem sliceR_neg {n : Int} {hs : List Hf} {k z : Int} (h : ¬ (0 ≤ k ∧ k < n ∧ -6 ≤ z ∧ z ≤ 6)) : sliceR n hs k z = ((0, []), false) := by
  by_cases h1 : inR k 0 (n - 1) = true
  · have a := inR_t h1
    exact sliceR_f4 (inR_f (by omega))
  · exact sliceR_f3 (by simpa using h1)
theorem s_sliceof (r : Rgn) (k z : Int) (v : Value) (w : World) (hv : Rg w v r) :
    Calls Try.prog 18 #[v, .int .i64 k, .int .i64 z] w (GotG w (sliceR r.1 r.2 k z)) := by
  obtain ⟨n, hs⟩ := r
  have hv0 := hv
  obtain ⟨u, rfl, _⟩ := hv0
  by_cases c1 : regOk n hs = true
  · have c8 := regOk_t c1
    by_cases c2 : n = 1
    · rw [sliceR_f2 c2]
      exact s_slice_f2 n hs k z u w hv c1 (by rw [beq_iff_eq]; exact c2)
    · have c2' : (n == 1) = false := by rw [beq_eq_false_iff_ne]; exact c2
      by_cases c3 : inR k 0 (n - 1) = true
      · by_cases c4 : inR z (-6) 6 = true
        · have a3 := inR_t c3
          have a4 := inR_t c4
          obtain ⟨N, rfl⟩ : ∃ N : Nat, n = N := ⟨n.toNat, by omega⟩
          obtain ⟨K, rfl⟩ : ∃ K : Nat, k = K := ⟨k.toNat, by omega⟩
          rw [sliceR_res c1 c2 c3 c4]
          exact s_slice_t N hs K z u w hv c1 (by omega) (by omega) a4.1 a4.2
        · rw [sliceR_f4 (by simpa using c4)]
          exact s_slice_f4 n hs k z u w hv c1 c2' c3 (by simpa using c4) c8.2.1 c8.1
      · rw [sliceR_f3 (by simpa using c3)]
        exact s_slice_f3 n hs k z u w hv c1 c2' (by simpa using c3) c8.2.1 c8.1
  · rw [sliceR_f1 (by simpa using c1)]
    exact s_slice_f1 n hs k z u w hv (by simpa using c1)
theorem i_sliceof (r : Rgn) (k z : Int) (v : Value) (w : World) (hv : Rg w v r) :
    Calls Try.prog 17 #[v, .int .i64 k, .int .i64 z] w (GotG w (sliceR r.1 r.2 k z)) := by
  obtain ⟨n, hs⟩ := r
  have hv0 := hv
  obtain ⟨u, rfl, _⟩ := hv0
  by_cases c1 : regOk n hs = true
  · have c8 := regOk_t c1
    by_cases c2 : n = 1
    · rw [sliceR_f2 c2]
      exact i_slice_f2 n hs k z u w hv c1 (by rw [beq_iff_eq]; exact c2)
    · have c2' : (n == 1) = false := by rw [beq_eq_false_iff_ne]; exact c2
      by_cases c3 : k < 0
      · rw [sliceR_neg (by omega)]
        exact i_slice_f3 n hs k z u w hv c1 c2' c3
      · by_cases c4 : n ≤ k
        · rw [sliceR_neg (by omega)]
          exact i_slice_f4 n hs k z u w hv c1 c2' (by omega) c4
        · by_cases c5 : z < -6
          · rw [sliceR_neg (by omega)]
            exact i_slice_f5 n hs k z u w hv c1 c2' (by omega) (by omega) c5
          · by_cases c6 : 6 < z
            · rw [sliceR_neg (by omega)]
              exact i_slice_f6 n hs k z u w hv c1 c2' (by omega) (by omega) (by omega) c6
            · obtain ⟨N, rfl⟩ : ∃ N : Nat, n = N := ⟨n.toNat, by have := c8.1; omega⟩
              obtain ⟨K, rfl⟩ : ∃ K : Nat, k = K := ⟨k.toNat, by omega⟩
              rw [sliceR_res c1 c2 (inR_mk (by omega) (by omega)) (inR_mk (by omega) (by omega))]
              exact i_slice_t N hs K z u w hv c1 (by have := c8.1; omega) (by omega) (by omega) (by omega)
  · rw [sliceR_f1 (by simpa using c1)]
    exact i_slice_f1 n hs k z u w hv (by simpa using c1)
end Go.Proofs.Ytmogncpkdkdodaa
