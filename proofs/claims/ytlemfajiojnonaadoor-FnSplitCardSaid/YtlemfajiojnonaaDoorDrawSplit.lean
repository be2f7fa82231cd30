/- DrawSplitByte: a short text and a byte. -/
import Derived.Test.YtlemfajiojnonaaDoorDrawStr
import Derived.Test.YtlemfajiojnonaaDoorDrawInt
namespace Go.Proofs.YtlemfajiojnonaaDoor
open Go.RowKit Go.Lib

theorem below_of_grown {B : Nat} {w w' : World} {p : Nat} (hp : B ≤ p) (hB : B ≤ w.heap.size) (h : w.grownBy w' (some p)) : Below B w w' :=
  (Below.refl _ _).grown h hB (fun k hk => by cases hk; exact hp)

set_option maxRecDepth 100000 in
set_option maxHeartbeats 800000 in
theorem draw_split (a : Option Addr) (c : Nat) (zs : List Int) (w : World) (hc : CodeIn w a zs) :
    Calls Tryd.prog 17 #[.slice a zs.length c] w fun e w' => (∃ (s : ByteArray) (x : UInt8), e = .returned (.tuple #[.string s, .int .u8 x.toNat]) ∧ s.size ≤ 1000) ∧ Below w.heap.size w w' := by
  have HC := Lib.hid hc
  clear hc
  go_enter Tryd.func17, Tryd.ntmps17
  go_wp2_with fail
  refine (draw_new a c zs w _ (Below.refl _ _) HC.out).mono ?_
  rintro e w1 ⟨⟨p, rfl, hcur⟩, hb1⟩
  have HU := Lib.hid hcur
  have HB := Lib.hid hb1
  clear hcur hb1
  go_wp2_with fail
  refine (draw_pick w.heap.size p w1.heap.size [.string ⟨#[]⟩, .string ⟨#[97]⟩, .string ⟨#[97, 44, 98]⟩, .string ⟨#[44]⟩, .string ⟨#[97, 44, 44, 98, 44]⟩, .string ⟨#[97, 10, 98, 10]⟩] _ (HU.out.below ((Below.refl _ _).alloc (Nat.le_refl _) _)) (by decide) (by decide) (Nat.ne_of_gt HU.out.lt) (heap_alloc_new w1 _)).mono ?_
  rintro e w2 ⟨⟨v, rfl, hv⟩, hc2, hg2⟩
  obtain ⟨s, rfl, hs⟩ : ∃ s : ByteArray, v = .string s ∧ s.size ≤ 1000 := by
    simp only [List.mem_cons, List.not_mem_nil, or_false] at hv
    rcases hv with h | h | h | h | h | h <;> exact ⟨_, h, by decide⟩
  have hb2 := (HB.out.alloc HB.out.size _).trans (below_of_grown HU.out.1 (by rw [World.size_alloc]; exact Nat.le_succ_of_le HB.out.size) hg2)
  have HU2 := Lib.hid hc2
  have HB2 := Lib.hid hb2
  clear hc2 hg2 hb2 hv
  go_wp2_with fail
  refine (draw_pick_int w.heap.size p w2.heap.size [.int .i64 44, .int .i64 10] _ (HU2.out.below ((Below.refl _ _).alloc (Nat.le_refl _) _)) (by decide) (by decide) (Nat.ne_of_gt HU2.out.lt) (heap_alloc_new w2 _)).mono ?_
  rintro e w3 ⟨⟨v, rfl, hv⟩, hc3, hg3⟩
  have hb3 := (HB2.out.alloc HB2.out.size _).trans (below_of_grown HU2.out.1 (by rw [World.size_alloc]; exact Nat.le_succ_of_le HB2.out.size) hg3)
  have HB3 := Lib.hid hb3
  clear hc3 hg3 hb3
  simp only [List.mem_cons, List.not_mem_nil, or_false] at hv
  rcases hv with rfl | rfl
  · go_wp2_with fail
    go_ret2
    exact ⟨⟨s, 44, rfl, hs⟩, HB3.out⟩
  · go_wp2_with fail
    go_ret2
    exact ⟨⟨s, 10, rfl, hs⟩, HB3.out⟩
end Go.Proofs.YtlemfajiojnonaaDoor
