/- The drawing of lists of integers. -/
import Derived.Test.YtjijgagdaolkcaaGreatMad
import Derived.Test.YtjijgagdaolkcaaGreatMah
namespace Go.Proofs.YtjijgagdaolkcaaGreat
open Go.RowKit Go.Lib

theorem CurAt.belowB {base B : Nat} {w w' : World} {p : Nat} (h : CurAt base w p) (hb : Below B w w') (hp : p < B) : CurAt base w' p := by
  obtain ⟨h0, a, c, zs, i, h, hpp, hl, hi, hz, ho⟩ := h
  refine ⟨h0, a, c, zs, i, h, by rw [hb.block p hp]; exact hpp, hl, hi, hz, fun hn => ?_⟩
  obtain ⟨b, off, e, hbb, hx⟩ := ho hn
  refine ⟨b, off, e, hbb, fun j z hj => ?_⟩
  rw [hb.cell (p := ⟨b, off + j, none⟩) (by show b < _; omega)]
  exact hx j z hj
theorem Kept.of_grown {w w' : World} {p : Nat} (h : w.grownBy w' (some p)) : Kept p (p + 1) w w' :=
  ⟨h.os, h.tape, h.output, h.size, fun k hk ho => h.block k hk (fun e => by cases e; omega)⟩
theorem owns_kept {w w' : World} {base lo hi : Nat} {e : TypeId} {v : Value} {n : Nat} {xs : List Value} (h : w.ownsRow base e 1 v n xs) (hk : Kept lo hi w w') (hd : hi ≤ base) : w'.ownsRow base e 1 v n xs := by
  refine ⟨h.1, ?_⟩
  rcases h.2 with h0 | ⟨g, cap, cur, h1, h2, h3, h4⟩
  · exact .inl h0
  · exact .inr ⟨g, cap, cur, h1, h2, by rw [hk.block g (lt_of_heap h3) (by omega)]; exact h3, h4⟩

/-- A list was drawn: it lies in a row of its own; of what was there the cursor alone has turned. -/
def DrewL (base p : Nat) (w : World) (P : List Int → Prop) (e : Ending) (w' : World) : Prop :=
  (∃ v zs, e = .returned v ∧ P zs ∧ OwnV 3 w.heap.size w'.heap.size w' v (intVals zs)) ∧ CurAt base w' p ∧ Kept p (p + 1) w w'
theorem bd_snoc {zs : List Int} {n x : Int} (h : Bd zs n) (h1 : -n ≤ x) (h2 : x ≤ n) : Bd (zs ++ [x]) n := by
  intro k hk
  rw [List.length_append] at hk
  by_cases hlt : k < zs.length
  · rw [List.getElem_append_left hlt]; exact h k hlt
  · simp only [List.length_singleton] at hk
    have : k = zs.length := by omega
    subst this
    simp; omega

set_option maxRecDepth 100000 in
set_option maxHeartbeats 800000 in
theorem d_draw (base p n : Nat) (s : Int) (hn : n ≤ 1048576) (hs0 : 0 ≤ s) (hs : s ≤ 1000000) (w : World) (hc : CurAt base w p) :
    Calls Tryz.prog 43 #[.pointer (some ⟨p, 0, none⟩), .int .i64 n, .int .i64 s] w (DrewL base p w (fun zs => zs.length = n ∧ Bd zs s)) := by
  have hp := hc.lt
  have HC := Lib.hid hc
  clear hc
  go_enter Tryz.func43, Tryz.ntmps43
  go_wp2
  go_loopw [7, 8] (fun o i wr => ∃ (k : Nat) (zs : List Int), k ≤ n ∧ i = .int .i64 k ∧ zs.length = k ∧ Bd zs s ∧ wr.ownsRow w.heap.size 3 1 o k (intVals zs) ∧ CurAt base wr p ∧ Kept p (p + 1) w wr) (fun _ i _ => n - (RowKit.intOf i).toNat)
  case atStart => exact ⟨0, [], Nat.zero_le _, rfl, rfl, (fun k h => absurd h (Nat.not_lt_zero _)), owns_none (Nat.le_refl _), HC.out.below ((Below.refl _ _).alloc (Nat.le_refl _) _), Kept.of_below ((Below.refl _ _).alloc (Nat.le_refl _) _)⟩
  case round =>
    obtain ⟨k, zs, hk, rfl, hlen, hbd, how, hcur, hkp⟩ := hrel
    have HL := Lib.hid hlen
    have HD := Lib.hid hbd
    have HW := Lib.hid how
    have HU := Lib.hid hcur
    have HK := Lib.hid hkp
    clear hlen hbd how hcur hkp
    by_cases hlt : k < n
    · have hk' : k ≤ 1099511627776 := by omega
      go_wp2_with fail
      refine (draw_below base p _ _ HU.out (by omega) (by omega)).mono ?_
      rintro e w1 ⟨⟨v, rfl, x, rfl, h0, h1⟩, hc1, hg1⟩
      have x1 : 0 ≤ x := h0
      have x2 : x ≤ 2 * s := by omega
      have HU1 := Lib.hid hc1
      have HW1 := Lib.hid (owns_kept HW.out (Kept.of_grown hg1) hp)
      have HK1 := Lib.hid (HK.out.trans (Kept.of_grown hg1))
      clear hc1 hg1 h0 h1
      have C3 := Lib.hid (show w.heap.size ≤ (w1.alloc (.cells #[.int .i64 (x - s)] 3)).heap.size by rw [World.size_alloc]; exact Nat.le_succ_of_le HK1.out.size)
      go_wp2_with (at_builtin; refine list_app_int rfl _ _ rfl w.heap.size _ k zs _ rfl (HW1.out.alloc _) w1.heap.size rfl (heap_alloc_new w1 _) hk' C3.out ?_; intro v' w2 hown2 hbel2; have HO2 := Lib.hid hown2; have HB2 := Lib.hid hbel2; clear hown2 hbel2)
      have hb3 := (((Below.refl w.heap.size w1).alloc HK1.out.size _).trans HB2.out)
      refine ⟨⟨k + 1, zs ++ [x - s], by omega, by go_num, by rw [List.length_append, HL.out]; rfl, bd_snoc HD.out (by omega) (by omega), HO2.out, HU1.out.belowB hb3 hp, ?_⟩, by simp [RowKit.intOf]; omega⟩
      exact HK1.out.andB hb3
    · obtain rfl : k = n := by omega
      go_wp2
      go_ret
      exact ⟨⟨_, zs, rfl, ⟨HL.out, HD.out⟩, OwnV.of_owns HW.out⟩, HU.out, HK.out⟩

theorem d_once (base p : Nat) (n : Int) (w : World) (hc : CurAt base w p) (hn : 0 < n) (hm : n ≤ 4611686018427387904) :
    Calls Tryz.prog 40 #[.pointer (some ⟨p, 0, none⟩), .int .i64 n] w fun e w' => (∃ b : Bool, e = .returned (.bool b)) ∧ CurAt base w' p ∧ Kept p (p + 1) w w' := by
  have HC := Lib.hid hc
  clear hc
  go_enter Tryz.func40, Tryz.ntmps40
  go_wp2_with fail
  refine (draw_below base p _ _ HC.out hn hm).mono ?_
  rintro e w1 ⟨⟨v, rfl, x, rfl, h0, h1⟩, hc1, hg1⟩
  have HU1 := Lib.hid hc1
  have HK1 := Lib.hid (Kept.of_grown hg1)
  clear hc1 hg1
  go_wp2_with fail
  go_ret
  exact ⟨⟨_, rfl⟩, HU1.out, HK1.out⟩

theorem w64_of_bd {zs : List Int} {n : Int} (h : Bd zs n) (hn : n ≤ 9223372036854775807) : ∀ (k : Nat) (hk : k < zs.length), -9223372036854775808 ≤ zs[k] ∧ zs[k] ≤ 9223372036854775807 := fun k hk => by
  have := h k hk; omega
/-- At most five numbers of the machine's size. -/
def Few (zs : List Int) : Prop := zs.length ≤ 5 ∧ ∀ (k : Nat) (hk : k < zs.length), -9223372036854775808 ≤ zs[k] ∧ zs[k] ≤ 9223372036854775807
theorem few_set {zs : List Int} {x : Int} (h : Few zs) (h1 : -9223372036854775808 ≤ x) (h2 : x ≤ 9223372036854775807) (j : Nat) : Few (zs.set j x) := by
  refine ⟨by rw [List.length_set]; exact h.1, fun k hk => ?_⟩
  rw [List.length_set] at hk
  rw [List.getElem_set]
  split
  · exact ⟨h1, h2⟩
  · exact h.2 k hk
theorem few_app {zs : List Int} (h : Few zs) (h3 : zs.length ≤ 3) : Few (zs ++ [1, 2]) := by
  refine ⟨by rw [List.length_append]; simp; omega, fun k hk => ?_⟩
  by_cases hlt : k < zs.length
  · rw [List.getElem_append_left hlt]; exact h.2 k hlt
  · rw [List.getElem_append_right (by omega)]
    have hq : k - zs.length < ([1, 2] : List Int).length := by rw [List.length_append] at hk; simp at hk ⊢; omega
    have hm : ([1, 2] : List Int)[k - zs.length] ∈ ([1, 2] : List Int) := List.getElem_mem hq
    generalize ([1, 2] : List Int)[k - zs.length] = t at hm ⊢
    simp only [List.mem_cons, List.not_mem_nil, or_false] at hm
    omega
theorem intVals_set (zs : List Int) (j : Nat) (x : Int) : intVals (zs.set j x) = (intVals zs).set j (.int .i64 x) := by simp [intVals, List.map_set]
theorem pick_six {v : Value} (hv : v ∈ [Value.int .i64 1000, .int .i64 1001, .int .i64 (-1000), .int .i64 (-1001), .int .i64 (-9223372036854775808), .int .i64 9223372036854775807]) : ∃ x : Int, v = .int .i64 x ∧ -9223372036854775808 ≤ x ∧ x ≤ 9223372036854775807 := by
  simp only [List.mem_cons, List.not_mem_nil, or_false] at hv
  rcases hv with h | h | h | h | h | h <;> exact ⟨_, h, by omega, by omega⟩

/-- A cursor, made by this call. -/
theorem draw_new' (a : Option Addr) (c : Nat) (zs : List Int) (w0 w : World) (hbw : Below w0.heap.size w0 w) (hc : CodeIn w0 a zs) :
    Calls Tryz.prog 22 #[.slice a zs.length c] w fun e w' => (∃ p, e = .returned (.pointer (some ⟨p, 0, none⟩)) ∧ w.heap.size ≤ p ∧ CurAt w.heap.size w' p) ∧ Below w.heap.size w w' := by
  have hc' : CodeIn w a zs := by
    obtain ⟨h1, h2, h3⟩ := hc
    refine ⟨h1, h2, fun h => ?_⟩
    obtain ⟨b, off, e, hb, hx⟩ := h3 h
    exact ⟨b, off, e, Nat.lt_of_lt_of_le hb hbw.size, fun j z hj => by rw [hbw.cell (p := ⟨b, off + j, none⟩) hb]; exact hx j z hj⟩
  exact (draw_new a c zs w w (Below.refl _ _) hc').mono fun e w' ⟨⟨p, he, hcur⟩, hb⟩ => ⟨⟨p, he, hcur.1, hcur⟩, hb⟩
end Go.Proofs.YtjijgagdaolkcaaGreat
