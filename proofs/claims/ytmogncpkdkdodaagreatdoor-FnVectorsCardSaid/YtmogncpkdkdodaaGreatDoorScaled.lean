/- The laws' scaled, and what the laws on vectors say of plain lists. -/
import Derived.Test.YtmogncpkdkdodaaGreatDoorVecT
import Derived.Test.YtmogncpkdkdodaaGreatDoorVecK
import Derived.Test.YtmogncpkdkdodaaGreatDoorPv
import Derived.Test.YtmogncpkdkdodaaGreatDoorTxt
namespace Go.Proofs.YtmogncpkdkdodaaGreatDoor
open Go.RowKit Go.Lib

set_option maxRecDepth 100000 in
set_option maxHeartbeats 400000 in
theorem l_scaled (u : List Int) (hm : u.length ≤ 1048576) (n m z : Int) (hu : Bd u n) (hm1 : -m ≤ z) (hm2 : z ≤ m) (hnm : n * m ≤ 4611686018427387904) (a : Value) (w : World) (ha : Sl w a (intVals u)) :
    Calls Tryz.prog 31 #[a, .int .i64 z] w (Made w (scaleL u z)) := by
  obtain ⟨a, c, rfl, _, ha⟩ := ha.shape
  rw [intVals_len] at ha ⊢
  have HA := Lib.hid ha
  have HU := Lib.hid hu
  have HNM := Lib.hid (And.intro hm1 (And.intro hm2 hnm))
  clear ha hu hm1 hm2 hnm
  go_enter Tryz.func31, Tryz.ntmps31
  go_wp2
  go_loopw [5, 6] (fun o i wr => ∃ k : Nat, k ≤ u.length ∧ i = .int .i64 k ∧ wr.ownsRow w.heap.size 3 1 o k (intVals (scaleL (u.take k) z)) ∧ Below w.heap.size w wr) (fun _ i _ => u.length - (RowKit.intOf i).toNat)
  case atStart => exact ⟨0, Nat.zero_le _, rfl, owns_none (Nat.le_refl _), (Below.refl _ _).alloc (Nat.le_refl _) _⟩
  case round =>
    obtain ⟨k, hk, rfl, how, hbr⟩ := hrel
    have HW := Lib.hid how
    have HB := Lib.hid hbr
    by_cases hlt : k < u.length
    · obtain ⟨b1, o1, rfl, hc1, hlt1, hx1⟩ := HA.out (by omega)
      have hcell1 := hx1 k _ (intVals_get u k hlt)
      rw [← hbr.cell (p := ⟨b1, o1 + k, none⟩) hlt1] at hcell1
      clear hx1 hbr how
      have i1 : (0 : Int) ≤ (k : Int) := by omega
      have i2 : (k : Int) < (u.length : Int) := by omega
      have mb := mul_bd (HU.out k hlt).1 (HU.out k hlt).2 HNM.out.1 HNM.out.2.1
      have m1 : -4611686018427387904 ≤ u[k] * z := by have := HNM.out; omega
      have m2 : u[k] * z ≤ 4611686018427387904 := by have := HNM.out; omega
      clear mb
      have ZT := Lib.hid (map_take (f := fun x => x * z) hlt)
      have C3 := Lib.hid (show w.heap.size ≤ (wr.alloc (.cells #[.int .i64 (u[k] * z)] 3)).heap.size by rw [World.size_alloc]; exact Nat.le_succ_of_le HB.out.size)
      have hk' : k ≤ 1099511627776 := by omega
      go_wp2_with (at_builtin; refine list_app_int rfl _ _ rfl w.heap.size _ k (scaleL (u.take k) z) _ rfl (HW.out.alloc _) wr.heap.size rfl (heap_alloc_new wr _) hk' C3.out ?_; intro v' w1 hown1 hbel; have HO1 := Lib.hid hown1; have HB1 := Lib.hid ((HB.out.alloc HB.out.size _).trans hbel); clear hown1 hbel)
      refine ⟨⟨k + 1, by omega, by go_num, ?_, HB1.out⟩, by simp [RowKit.intOf]; omega⟩
      have h := HO1.out
      unfold scaleL
      rw [ZT.out]
      exact h
    · obtain rfl : k = u.length := by omega
      clear hbr how
      go_wp2
      go_ret
      refine ⟨⟨_, rfl, ?_⟩, HB.out⟩
      have h := OwnV.of_owns HW.out
      rw [List.take_length] at h
      exact h


theorem sp_joined (c : UInt8) : ∀ (a : List UInt8) (r : List (List UInt8)), (∀ x ∈ a :: r, ∀ y ∈ x, y ≠ c) → sp c (Lib.join (a :: r) [c]) = a :: r
  | a, [], h => by
    rw [join_one]
    exact sp_none c a (h a (by simp))
  | a, b :: r, h => by
    have ih := sp_joined c b r (fun x hx => h x (by simp only [List.mem_cons] at hx ⊢; exact .inr hx))
    have e : Lib.join (a :: b :: r) [c] = a ++ c :: Lib.join (b :: r) [c] := by
      rw [join_cons, join_cons]; simp [joinTail]
    rw [e, sp_first c _ a (h a (by simp)), ih]
theorem itoa_no_comma (n : Int) : ∀ y ∈ itoa n, y ≠ 44 := by
  intro y hy e
  subst e
  by_cases h : n < 0
  · obtain ⟨u, rfl⟩ : ∃ u : Nat, n = -(u : Int) := ⟨n.natAbs, by omega⟩
    rw [itoa_neg u (by omega)] at hy
    rcases List.mem_cons.1 hy with h | h
    · exact absurd h (by decide)
    · have := dig_dec u _ h; unfold isDig at this; simp at this
  · obtain ⟨u, rfl⟩ : ∃ u : Nat, n = (u : Int) := ⟨n.toNat, by omega⟩
    rw [itoa_nonneg] at hy
    have := dig_dec u _ hy; unfold isDig at this; simp at this
theorem parts_text {v : List Int} (h : v ≠ []) : parts 44 (textL v) = numerals v := by
  obtain ⟨x, r, rfl⟩ : ∃ x r, v = x :: r := by cases v with | nil => exact absurd rfl h | cons x r => exact ⟨x, r, rfl⟩
  unfold textL jn parts
  have e : (numerals (x :: r)).map (fun s => s.data.toList) = itoa x :: r.map itoa := by
    simp [numerals, numeral]
  rw [e, sp_joined]
  · simp [numerals, numeral]
  · intro y hy
    rcases List.mem_cons.1 hy with rfl | hy
    · exact itoa_no_comma _
    · obtain ⟨z, _, rfl⟩ := List.mem_map.1 hy
      exact itoa_no_comma _
theorem rdS_numeral (n : Int) (h : n.natAbs < 10 ^ 12) : rdS (numeral n) = (n, true) := by
  unfold rdS numeral
  exact rdI_yes (by simpa using ⟨rfl, h⟩)
theorem fsts_numerals : ∀ (v : List Int), (∀ x ∈ v, x.natAbs < 10 ^ 12) → fsts (numerals v) = v ∧ oks (numerals v) = true
  | [], _ => ⟨rfl, rfl⟩
  | x :: r, h => by
    have ih := fsts_numerals r (fun y hy => h y (by simp [hy]))
    have hx := rdS_numeral x (h x (by simp))
    have e1 : fsts (numerals (x :: r)) = (rdS (numeral x)).1 :: fsts (numerals r) := rfl
    have e2 : oks (numerals (x :: r)) = ((rdS (numeral x)).2 && oks (numerals r)) := rfl
    rw [e1, e2, hx, ih.1, ih.2]; exact ⟨rfl, rfl⟩
theorem bd_mem {v : List Int} {n : Int} (h : Bd v n) : ∀ x ∈ v, -n ≤ x ∧ x ≤ n := by
  intro x hx
  obtain ⟨k, hk, rfl⟩ := List.getElem_of_mem hx
  exact h k hk
/-- A vector is parsed from its text. -/
theorem pars_text {v : List Int} (h : isV v = true) : parsV (textV v) = (v, true) := by
  obtain ⟨h1, h2, h3⟩ := isV_t h
  have hne : v ≠ [] := by intro e; subst e; simp at h1
  have hb := bd_mem (small_bd h3)
  obtain ⟨f1, f2⟩ := fsts_numerals v (fun x hx => by have := hb x hx; omega)
  unfold parsV parsP textV
  rw [if_pos h, parts_text hne, if_pos f2, f1]
  exact if_pos h
theorem rdI_nil : rdI [] = (0, false) := rdI_no (fun n hn => by
  have h := hn.1
  by_cases hneg : n < 0
  · obtain ⟨u, rfl⟩ : ∃ u : Nat, n = -(u : Int) := ⟨n.natAbs, by omega⟩
    rw [itoa_neg u (by omega)] at h; cases h
  · obtain ⟨u, rfl⟩ : ∃ u : Nat, n = (u : Int) := ⟨n.toNat, by omega⟩
    rw [itoa_nonneg] at h; exact dec_ne_nil u h.symm)
theorem pars_none {v : List Int} (h : ¬ isV v = true) : parsV (textV v) = ([], false) := by
  unfold parsV textV
  rw [if_neg h]
  have e : parts 44 [] = [⟨#[]⟩] := rfl
  rw [e]
  refine parsP_not ?_
  have h2 : oks [⟨#[]⟩] = ((rdS ⟨#[]⟩).2 && true) := rfl
  rw [h2]
  have h3 : rdS ⟨#[]⟩ = (0, false) := rdI_nil
  rw [h3]; rfl
theorem dvd_allG {v : List Int} {d : Int} (h : ∀ x ∈ v, d ∣ x) : d ∣ allG v := by
  have key : ∀ (v : List Int) (g : Int), d ∣ g → (∀ x ∈ v, d ∣ x) → d ∣ v.foldl gcdI g := by
    intro v
    induction v with
    | nil => intro g hg _; exact hg
    | cons y r ih =>
      intro g hg hv
      exact ih _ (Int.dvd_coe_gcd hg (hv y (by simp))) (fun x hx => hv x (by simp [hx]))
  exact key v 0 (Int.dvd_zero _) h
theorem scale_prim {v : List Int} (h : 0 < allG v) : scaleL (primL v) (allG v) = v := by
  have hm : max (allG v) 1 = allG v := by omega
  unfold scaleL primL
  rw [hm, List.map_map]
  conv => rhs; rw [← List.map_id v]
  refine List.map_congr_left fun x hx => ?_
  exact Int.tdiv_mul_cancel (allG_dvd v x hx)
theorem allG_prim {v : List Int} (h : 0 < allG v) : allG (primL v) = 1 := by
  have h0 := allG_nonneg (primL v)
  have hd : allG (primL v) * allG v ∣ allG v := by
    refine dvd_allG fun x hx => ?_
    have hm : max (allG v) 1 = allG v := by omega
    have h1 : allG (primL v) ∣ x.tdiv (allG v) := allG_dvd (primL v) _ (by unfold primL; rw [hm]; exact List.mem_map.2 ⟨x, hx, rfl⟩)
    have h2 := Int.mul_dvd_mul_right (allG v) h1
    rwa [Int.tdiv_mul_cancel (allG_dvd v x hx)] at h2
  have h1 : allG (primL v) ∣ 1 := by
    have e : allG (primL v) * allG v ∣ 1 * allG v := by rw [Int.one_mul]; exact hd
    exact Int.dvd_of_mul_dvd_mul_right (by omega) e
  have := Int.le_of_dvd (by omega) h1
  by_cases hz : allG (primL v) = 0
  · rw [hz] at h1; simp at h1
  · omega
end Go.Proofs.YtmogncpkdkdodaaGreatDoor
