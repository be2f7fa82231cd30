/- The drawing of matrices. -/
import Derived.Test.YtjijgagdaolkcaaGreatDrawVec
import Derived.Test.YtjijgagdaolkcaaGreatMal
import Derived.Test.YtjijgagdaolkcaaGreatMab
import Derived.Test.YtjijgagdaolkcaaGreatOrd
namespace Go.Proofs.YtjijgagdaolkcaaGreat
open Go Go.RowKit Go.Lib

/-- A slice of slices was drawn: it and its rows lie in blocks of their own; of what was there the cursor alone has turned. -/
def DrewM (base p : Nat) (w : World) (P : List (List Int) → Prop) (e : Ending) (w' : World) : Prop :=
  (∃ v zss, e = .returned v ∧ P zss ∧ OwR 27 3 w.heap.size w'.heap.size w' v zss) ∧ CurAt base w' p ∧ Kept p (p + 1) w w'
/-- Rows of n numbers that are at most s. -/
def RowsB (zss : List (List Int)) (n : Nat) (s : Int) : Prop := ∀ zs, zs ∈ zss → zs.length = n ∧ Bd zs s
theorem RowsB.snoc {zss : List (List Int)} {n : Nat} {s : Int} (h : RowsB zss n s) {zs : List Int} (h1 : zs.length = n) (h2 : Bd zs s) : RowsB (zss ++ [zs]) n s := by
  intro q hq
  rcases List.mem_append.1 hq with hq | hq
  · exact h q hq
  · rw [List.mem_singleton] at hq; rw [hq]; exact ⟨h1, h2⟩

set_option maxRecDepth 100000 in
set_option maxHeartbeats 800000 in
theorem d_mat (base p n : Nat) (s : Int) (hn : n ≤ 1048576) (hs0 : 0 ≤ s) (hs : s ≤ 1000000) (w : World) (hc : CurAt base w p) :
    Calls Tryz.prog 53 #[.pointer (some ⟨p, 0, none⟩), .int .i64 n, .int .i64 s] w (DrewM base p w (fun zss => zss.length = n ∧ RowsB zss n s)) := by
  have hp := hc.lt
  have HC := Lib.hid hc
  clear hc
  go_enter Tryz.func53, Tryz.ntmps53
  go_wp2
  go_loopw [7, 8] (fun o i wr => ∃ (k : Nat) (zss : List (List Int)), k ≤ n ∧ i = .int .i64 k ∧ zss.length = k ∧ RowsB zss n s ∧ OwR 27 3 w.heap.size wr.heap.size wr o zss ∧ CurAt base wr p ∧ Kept p (p + 1) w wr) (fun _ i _ => n - (RowKit.intOf i).toNat)
  case atStart => exact ⟨0, [], Nat.zero_le _, rfl, rfl, (fun zs h => by cases h), owr_empty (Nat.le_refl _), HC.out.below ((Below.refl _ _).alloc (Nat.le_refl _) _), Kept.of_below ((Below.refl _ _).alloc (Nat.le_refl _) _)⟩
  case round =>
    obtain ⟨k, zss, hk, rfl, hlen, hbd, how, hcur, hkp⟩ := hrel
    have HL := Lib.hid hlen
    have HD := Lib.hid hbd
    have HW := Lib.hid how
    have HU := Lib.hid hcur
    have HK := Lib.hid hkp
    clear hlen hbd how hcur hkp
    by_cases hlt : k < n
    · have hk' : k ≤ 1099511627776 := by omega
      go_wp2_with fail
      refine (d_draw base p n s hn hs0 hs _ HU.out).mono ?_
      rintro e w1 ⟨⟨v, zs, rfl, ⟨hl1, hb1⟩, ho1⟩, hc1, hk1⟩
      obtain ⟨va, vc, rfl, -⟩ := ho1.sl.shape
      have HL1 := Lib.hid hl1
      have HD1 := Lib.hid hb1
      have HO1 := Lib.hid ho1
      have HU1 := Lib.hid hc1
      have HW1 := Lib.hid (HW.out.kept hk1 (.inr (by omega)))
      have HK1 := Lib.hid (HK.out.trans hk1)
      have S1 := Lib.hid (show w.heap.size ≤ wr.heap.size from HK.out.size)
      have S2 := Lib.hid hk1.size
      clear hl1 hb1 ho1 hc1 hk1
      go_wp2_with (at_builtin; go_loud (refine list_app_row2 rfl _ _ rfl w.heap.size wr.heap.size _ _ zss zs rfl (HW1.out.below ((Below.refl _ _).alloc (Nat.le_refl _) _)) ((HO1.out.below ((Below.refl _ _).alloc (Nat.le_refl _) _)).mono (Nat.le_refl _) (by rw [World.size_alloc]; omega)) w1.heap.size rfl (heap_alloc_new w1 _) (by have := HL.out; omega) S1.out (by have := S2.out; rw [World.size_alloc]; omega) ?_; intro g cap w2 hown2 hbel2 _ _; have HO2 := Lib.hid hown2; have HB2 := Lib.hid hbel2; clear hown2 hbel2))
      have hb3 := (((Below.refl w.heap.size w1).alloc HK1.out.size _).trans HB2.out)
      refine ⟨⟨k + 1, zss ++ [zs], by omega, by go_num, by rw [List.length_append, HL.out]; rfl, HD.out.snoc HL1.out HD1.out, HO2.out, HU1.out.belowB hb3 hp, ?_⟩, by simp [RowKit.intOf]; omega⟩
      exact HK1.out.andB hb3
    · obtain rfl : k = n := by omega
      go_wp2
      go_ret
      exact ⟨⟨_, zss, rfl, ⟨HL.out, HD.out⟩, HW.out⟩, HU.out, HK.out⟩
end Go.Proofs.YtjijgagdaolkcaaGreat
