/- DrawFormatInt, DrawParseNumber: an integer; a text. -/
import Derived.Test.YtlemfajiojnonaaDoorDrawStr
import Derived.Test.YtlemfajiojnonaaDoorDrawInt
import Derived.Test.YtlemfajiojnonaaDoorFi
import Derived.Lib.ItoaLen
namespace Go.Proofs.YtlemfajiojnonaaDoor
open Go.RowKit Go.Lib

theorem below_of_grown' {B : Nat} {w w' : World} {p : Nat} (hp : B ≤ p) (hB : B ≤ w.heap.size) (h : w.grownBy w' (some p)) : Below B w w' :=
  (Below.refl _ _).grown h hB (fun k hk => by cases hk; exact hp)
theorem grown_alloc (w : World) (o : Obj) (r : Option Nat) : w.grownBy (w.alloc o) r :=
  ⟨rfl, rfl, rfl, by rw [World.size_alloc]; exact Nat.le_succ _, fun k hk _ => Below.heap_alloc w o k hk⟩
def wholes : List Value := [.int .i64 0, .int .i64 1, .int .i64 (-1), .int .i64 9, .int .i64 10, .int .i64 999999, .int .i64 1000000, .int .i64 999999999999, .int .i64 1000000000000, .int .i64 (-999999999999), .int .i64 9223372036854775807, .int .i64 (-9223372036854775808)]
theorem wholes_in (v : Value) (h : v ∈ wholes) : IsIn (-9223372036854775808) 9223372036854775807 v := by
  unfold wholes at h
  simp only [List.mem_cons, List.not_mem_nil, or_false] at h
  rcases h with h | h | h | h | h | h | h | h | h | h | h | h <;> exact ⟨_, h, by decide, by decide⟩

def texts : List Value := [.string ⟨#[]⟩, .string ⟨#[48, 48]⟩, .string ⟨#[48, 49]⟩, .string ⟨#[45, 49]⟩, .string ⟨#[43, 49]⟩, .string ⟨#[120]⟩, .string ⟨#[57, 57, 57, 57, 57, 57]⟩, .string ⟨#[49, 48, 48, 48, 48, 48, 48]⟩, .string ⟨#[45, 48]⟩, .string ⟨#[45]⟩, .string ⟨#[32, 49]⟩, .string ⟨#[49, 32]⟩]
theorem texts_in (v : Value) (h : v ∈ texts) : ∃ s : ByteArray, v = .string s ∧ s.size ≤ 1000 := by
  unfold texts at h
  simp only [List.mem_cons, List.not_mem_nil, or_false] at h
  rcases h with h | h | h | h | h | h | h | h | h | h | h | h <;> exact ⟨_, h, by decide⟩

set_option maxRecDepth 100000 in
set_option maxHeartbeats 800000 in
theorem draw_whole (base p : Nat) (w : World) (hc : CurAt base w p) :
    Calls Tryd.prog 25 #[.pointer (some ⟨p, 0, none⟩)] w (Drawn base p w (IsIn (-9223372036854775808) 9223372036854775807)) := by
  have HC := Lib.hid hc
  clear hc
  go_enter Tryd.func25, Tryd.ntmps25
  go_wp2_with fail
  refine (draw_below base p 3 _ HC.out (by decide) (by decide)).mono ?_
  rintro e w1 ⟨⟨v, rfl, x, rfl, h0, h1⟩, hc1, hg1⟩
  have HC1 := Lib.hid hc1
  have HG1 := Lib.hid hg1
  clear hc1 hg1
  have hx : x = 0 ∨ x = 1 ∨ x = 2 := by omega
  clear h0 h1
  rcases hx with rfl | rfl | rfl
  · go_wp2_with fail
    refine (draw_pick_int base p w1.heap.size wholes _ (HC1.out.below ((Below.refl _ _).alloc (Nat.le_refl _) _)) (by decide) (by decide) (Nat.ne_of_gt HC1.out.lt) (heap_alloc_new w1 _)).mono ?_
    rintro e w2 ⟨⟨v, rfl, hv⟩, hc2, hg2⟩
    have HV := Lib.hid (wholes_in v hv)
    have HC2 := Lib.hid hc2
    have HG2 := Lib.hid ((HG1.out.trans (grown_alloc w1 _ _)).trans hg2)
    clear hv hc2 hg2
    go_wp2_with fail
    go_ret
    exact ⟨⟨_, rfl, HV.out⟩, HC2.out, HG2.out⟩
  · go_wp2_with fail
    refine (draw_below base p 1000000 _ HC1.out (by decide) (by decide)).mono ?_
    rintro e w2 ⟨⟨v, rfl, y, rfl, h2, h3⟩, hc2, hg2⟩
    have HC2 := Lib.hid hc2
    have HG2 := Lib.hid (HG1.out.trans hg2)
    clear hc2 hg2
    go_wp2_with fail
    go_ret
    exact ⟨⟨_, rfl, y - 500000, rfl, by omega, by omega⟩, HC2.out, HG2.out⟩
  · go_wp2_with fail
    refine (draw_below base p 20 _ HC1.out (by decide) (by decide)).mono ?_
    rintro e w2 ⟨⟨v, rfl, y, rfl, h2, h3⟩, hc2, hg2⟩
    have HC2 := Lib.hid hc2
    have HG2 := Lib.hid (HG1.out.trans hg2)
    clear hc2 hg2
    go_wp2_with fail
    go_ret
    exact ⟨⟨_, rfl, y, rfl, by omega, by omega⟩, HC2.out, HG2.out⟩

set_option maxRecDepth 100000 in
set_option maxHeartbeats 400000 in
theorem draw_once (base p : Nat) (n : Int) (w : World) (hc : CurAt base w p) (hn : 0 < n) (hm : n ≤ 4611686018427387904) :
    Calls Tryd.prog 30 #[.pointer (some ⟨p, 0, none⟩), .int .i64 n] w (Drawn base p w (fun v => ∃ b : Bool, v = .bool b)) := by
  have HC := Lib.hid hc
  clear hc
  go_enter Tryd.func30, Tryd.ntmps30
  go_wp2_with fail
  refine (draw_below base p n _ HC.out hn hm).mono ?_
  rintro e w1 ⟨⟨v, rfl, x, rfl, h0, h1⟩, hc1, hg1⟩
  have HC1 := Lib.hid hc1
  have HG1 := Lib.hid hg1
  clear hc1 hg1
  go_wp2_with fail
  go_ret
  exact ⟨⟨_, rfl, _, rfl⟩, HC1.out, HG1.out⟩

set_option maxRecDepth 100000 in
set_option maxHeartbeats 400000 in
theorem draw_format (a : Option Addr) (c : Nat) (zs : List Int) (w : World) (hc : CodeIn w a zs) :
    Calls Tryd.prog 10 #[.slice a zs.length c] w fun e w' => (∃ v, e = .returned v ∧ IsIn (-9223372036854775808) 9223372036854775807 v) ∧ Below w.heap.size w w' := by
  have HC := Lib.hid hc
  clear hc
  go_enter Tryd.func10, Tryd.ntmps10
  go_wp2_with fail
  refine (draw_new a c zs w _ (Below.refl _ _) HC.out).mono ?_
  rintro e w1 ⟨⟨p, rfl, hcur⟩, hb1⟩
  have HU := Lib.hid hcur
  have HB := Lib.hid hb1
  clear hcur hb1
  go_wp2_with fail
  refine (draw_whole w.heap.size p _ HU.out).mono ?_
  rintro e w2 ⟨⟨v, rfl, hv⟩, hc2, hg2⟩
  have HV := Lib.hid hv
  have HB2 := Lib.hid (HB.out.trans (below_of_grown' HU.out.1 HB.out.size hg2))
  clear hv hc2 hg2
  go_wp2_with fail
  go_ret
  exact ⟨⟨_, rfl, HV.out⟩, HB2.out⟩

set_option maxRecDepth 100000 in
set_option maxHeartbeats 800000 in
theorem draw_number (a : Option Addr) (c : Nat) (zs : List Int) (w : World) (hc : CodeIn w a zs) :
    Calls Tryd.prog 14 #[.slice a zs.length c] w fun e w' => (∃ s : ByteArray, e = .returned (.string s) ∧ s.size ≤ 1000) ∧ Below w.heap.size w w' := by
  have HC := Lib.hid hc
  clear hc
  go_enter Tryd.func14, Tryd.ntmps14
  go_wp2_with fail
  refine (draw_new a c zs w _ (Below.refl _ _) HC.out).mono ?_
  rintro e w1 ⟨⟨p, rfl, hcur⟩, hb1⟩
  have HU := Lib.hid hcur
  have HB := Lib.hid hb1
  clear hcur hb1
  go_wp2_with fail
  refine (draw_once w.heap.size p 2 _ HU.out (by decide) (by decide)).mono ?_
  rintro e w2 ⟨⟨v, rfl, b, rfl⟩, hc2, hg2⟩
  have HU2 := Lib.hid hc2
  have HB2 := Lib.hid (HB.out.trans (below_of_grown' HU.out.1 HB.out.size hg2))
  clear hc2 hg2
  cases b
  · go_wp2_with fail
    refine (draw_pick w.heap.size p w2.heap.size texts _ (HU2.out.below ((Below.refl _ _).alloc (Nat.le_refl _) _)) (by decide) (by decide) (Nat.ne_of_gt HU2.out.lt) (heap_alloc_new w2 _)).mono ?_
    rintro e w3 ⟨⟨v, rfl, hv⟩, hc3, hg3⟩
    obtain ⟨s, rfl, hs⟩ := texts_in v hv
    have HB3 := Lib.hid ((HB2.out.alloc HB2.out.size _).trans (below_of_grown' HU2.out.1 (by rw [World.size_alloc]; exact Nat.le_succ_of_le HB2.out.size) hg3))
    clear hv hc3 hg3
    go_wp2_with fail
    go_ret
    exact ⟨⟨_, rfl, hs⟩, HB3.out⟩
  · go_wp2_with fail
    refine (draw_whole w.heap.size p _ HU2.out).mono ?_
    rintro e w3 ⟨⟨v, rfl, x, rfl, h0, h1⟩, hc3, hg3⟩
    have HB3 := Lib.hid (HB2.out.trans (below_of_grown' HU2.out.1 HB2.out.size hg3))
    clear hc3 hg3
    go_wp2_with fail
    refine (fi_any x h0 h1 _).mono ?_
    rintro e w4 ⟨rfl, hb4⟩
    have HB4 := Lib.hid (HB3.out.trans (hb4.mono HB3.out.size))
    have HL := Lib.hid (itoa_length_le x h0 h1)
    clear hb4
    go_wp2_with fail
    go_ret
    exact ⟨⟨_, rfl, Nat.le_trans (by rw [← list_len]; exact HL.out) (by decide)⟩, HB4.out⟩
end Go.Proofs.YtlemfajiojnonaaDoor
