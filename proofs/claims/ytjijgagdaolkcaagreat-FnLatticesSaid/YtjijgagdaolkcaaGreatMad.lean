/- The drawing of inputs from bytes: whatever is drawn lies in its range. -/
import Derived.Test.YtjijgagdaolkcaaGreatMab
import Derived.Test.YtjijgagdaolkcaaGreatProg
import Derived.BigQuiet
import Derived.Deep.QuietTactic
import Derived.WalkLawsBesides
import Derived.Laws.Bits64
import Derived.Maps.AppendAt
import Derived.Deep.AppendLies
import Derived.IntWalk
namespace Go.Proofs.YtjijgagdaolkcaaGreat
open Go.RowKit Go.Lib

/-- Block p is a cursor over bytes that lie below 'base'. -/
def CurAt (base : Nat) (w : World) (p : Nat) : Prop := base ≤ p ∧ ∃ (a : Option Addr) (c : Nat) (zs : List Int) (i : Nat) (h : Int),
  w.heap[p]? = some (.cells #[.slice a zs.length c, .int .i64 i, .int .i64 h] 72 (0, 0)) ∧ zs.length ≤ 1048576 ∧ i ≤ zs.length ∧ (∀ z ∈ zs, 0 ≤ z ∧ z ≤ 255) ∧
  (0 < zs.length → ∃ b off : Nat, a = some ⟨b, off, none⟩ ∧ b < base ∧ ∀ (j : Nat) z, zs[j]? = some z → w.cell? ⟨b, off + j, none⟩ = some (.int .u8 z))

theorem CurAt.lt {base : Nat} {w : World} {p : Nat} (h : CurAt base w p) : p < w.heap.size := by
  obtain ⟨_, a, c, zs, i, h, hp, _⟩ := h
  by_cases hh : p < w.heap.size
  · exact hh
  · rw [Array.getElem?_eq_none (by omega)] at hp; cases hp
theorem CurAt.below {base : Nat} {w w' : World} {p : Nat} (h : CurAt base w p) (hb : Below w.heap.size w w') : CurAt base w' p := by
  have hlt := h.lt
  obtain ⟨h0, a, c, zs, i, h, hp, hl, hi, hz, ho⟩ := h
  refine ⟨h0, a, c, zs, i, h, by rw [hb.block p hlt]; exact hp, hl, hi, hz, fun hn => ?_⟩
  obtain ⟨b, off, e, hbb, hx⟩ := ho hn
  refine ⟨b, off, e, hbb, fun j z hj => ?_⟩
  rw [hb.cell (p := ⟨b, off + j, none⟩) (by show b < _; omega)]
  exact hx j z hj
theorem and_mask (x : Int) (m : Nat) (hm : m < 9223372036854775808) : 0 ≤ bits .and .i64 x m ∧ bits .and .i64 x m ≤ m := by
  have h1 : (BitVec.ofInt 64 x &&& BitVec.ofInt 64 (m : Int)).toNat ≤ m := by
    rw [BitVec.toNat_and]
    refine Nat.le_trans Nat.and_le_right ?_
    rw [BitVec.ofInt_natCast, BitVec.toNat_ofNat]
    exact Nat.mod_le _ _
  have h2 : bits .and .i64 x m = ((BitVec.ofInt 64 x &&& BitVec.ofInt 64 (m : Int)).toNat : Int) := by
    change IntKind.i64.wrap ((BitVec.ofInt 64 x &&& BitVec.ofInt 64 (m : Int)).toNat : Int) = _
    rw [IntKind.wrap_i64]; omega
  rw [h2]; omega

/-- What a draw leaves: the cursor, and all other blocks. -/
def Drawn (base p : Nat) (w : World) (P : Value → Prop) (e : Ending) (w' : World) : Prop := (∃ v, e = .returned v ∧ P v) ∧ CurAt base w' p ∧ w.grownBy w' (some p)

theorem cur_set {base p : Nat} {w w' : World} (hb : base ≤ p) {a : Option Addr} {c : Nat} {zs : List Int} {i : Nat} {h : Int}
    (hl : zs.length ≤ 1048576) (hi : i ≤ zs.length) (hz : ∀ z ∈ zs, 0 ≤ z ∧ z ≤ 255)
    (ho : 0 < zs.length → ∃ b off : Nat, a = some ⟨b, off, none⟩ ∧ b < base ∧ ∀ (j : Nat) z, zs[j]? = some z → w.cell? ⟨b, off + j, none⟩ = some (.int .u8 z))
    (hp : w'.heap[p]? = some (.cells #[.slice a zs.length c, .int .i64 i, .int .i64 h] 72 (0, 0))) (hlt : p < w.heap.size) (hg : w.grownBy w' (some p)) : CurAt base w' p := by
  refine ⟨hb, a, c, zs, i, h, hp, hl, hi, hz, fun h0 => ?_⟩
  obtain ⟨b, off, e, hbb, hx⟩ := ho h0
  refine ⟨b, off, e, hbb, fun j z hj => ?_⟩
  rw [hg.cell_far ⟨b, off + j, none⟩ (by show b < _; omega) (by simp; omega)]
  exact hx j z hj
theorem heap_set (w : World) (p j : Nat) (cur : Array Value) (t : TypeId) (u : Value) (h : w.heap[p]? = some (.cells cur t (0, 0))) : (w.setCell ⟨p, j, none⟩ u).heap[p]? = some (.cells (cur.setIfInBounds j u) t (0, 0)) :=
  heap_setCell_same w p j cur t u h
theorem grown_setj (w : World) (p j : Nat) (u : Value) : w.grownBy (w.setCell ⟨p, j, none⟩ u) (some p) :=
  ⟨rfl, rfl, rfl, by simp, fun k _ hk => heap_setCell_other w ⟨p, j, none⟩ k u (fun e => hk (by simp [e]))⟩
theorem grown_drewN {w w' : World} {r : Option Nat} (h : w.grownBy w' r) (n : Nat) : w.grownBy (w'.drewN n) r := ⟨h.os, h.tape, h.output, h.size, h.block⟩
theorem ret_val {a : Value} {P : Value → Prop} {b : Value} (h : a = b) (hp : P b) : ∃ v, Ending.returned a = .returned v ∧ P v := ⟨a, rfl, by rw [h]; exact hp⟩
def IsIn (lo hi : Int) (v : Value) : Prop := ∃ x : Int, v = .int .i64 x ∧ lo ≤ x ∧ x ≤ hi

set_option maxRecDepth 100000 in
set_option maxHeartbeats 800000 in
theorem draw_byte (base p : Nat) (w : World) (hc : CurAt base w p) :
    Calls Tryz.prog 77 #[.pointer (some ⟨p, 0, none⟩)] w (Drawn base p w (IsIn 0 255)) := by
  obtain ⟨hb, a, c, zs, i, h, hp, hl, hi, hz, ho⟩ := hc
  have hlt : p < w.heap.size := by
    by_cases hh : p < w.heap.size
    · exact hh
    · rw [Array.getElem?_eq_none (by omega)] at hp; cases hp
  have c0 : w.cell? ⟨p, 0, none⟩ = some (.slice a zs.length c) := by rw [cell_of_row w p 0 _ _ _ hp]; rfl
  have c1 : w.cell? ⟨p, 1, none⟩ = some (.int .i64 i) := by rw [cell_of_row w p 1 _ _ _ hp]; rfl
  have c2 : w.cell? ⟨p, 2, none⟩ = some (.int .i64 h) := by rw [cell_of_row w p 2 _ _ _ hp]; rfl
  have f1 : w.frozen? ⟨p, 1, none⟩ = false := frozen_of_row w p 1 _ _ hp
  have f2 : w.frozen? ⟨p, 2, none⟩ = false := frozen_of_row w p 2 _ _ hp
  have HP := Lib.hid hp
  have HO := Lib.hid ho
  have HZ := Lib.hid hz
  clear hp ho hz
  by_cases he : i < zs.length
  · obtain ⟨b, off, rfl, hbb, hx⟩ := HO.out (by omega)
    have hcell := hx i _ (List.getElem?_eq_getElem he)
    have hzz := HZ.out _ (List.getElem_mem he)
    have hne : b ≠ p := by omega
    clear hx
    go_enter Tryz.func77, Tryz.ntmps77
    go_wp2
    go_quiet (fail)
    generalize bits BinOp.and IntKind.i64 _ _ = x0
    go_wp2
    go_quiet (fail)
    go_wp2
    go_quiet (fail)
    have hm := and_mask (wrap64 (x0 + zs[i])) 255 (by omega)
    generalize bits BinOp.and IntKind.i64 _ _ = x1 at hm ⊢
    go_wp2
    go_ret
    refine ⟨⟨_, rfl, x1, rfl, hm.1, hm.2⟩, ?_, ?_⟩
    · exact cur_set (w := w) hb hl (i := i + 1) (by omega) HZ.out HO.out (heap_set _ p 1 _ _ _ (heap_set w p 2 _ _ _ HP.out)) hlt (World.grownBy.trans (grown_drewN (grown_setj w p 2 _) _) (grown_setj _ p 1 _))
    · exact World.grownBy.trans (grown_drewN (grown_setj w p 2 _) _) (grown_setj _ p 1 _)
  · obtain rfl : i = zs.length := by omega
    go_enter Tryz.func77, Tryz.ntmps77
    go_wp2
    go_quiet (fail)
    have hm := and_mask (bits BinOp.xor IntKind.i64 (wrap64 (wrap64 (h * 6364136223846793005) + 1442695040888963407) / 8589934592)
              (wrap64 (wrap64 (h * 6364136223846793005) + 1442695040888963407) / 35184372088832)) 255 (by omega)
    generalize bits BinOp.and IntKind.i64 _ _ = x0 at hm ⊢
    go_wp2
    go_quiet (fail)
    go_wp2
    go_ret
    refine ⟨⟨_, rfl, x0, rfl, hm.1, hm.2⟩, ?_, ?_⟩
    · exact cur_set (w := w) hb hl (i := zs.length) (Nat.le_refl _) HZ.out HO.out (heap_set w p 2 _ _ _ HP.out) hlt (grown_drewN (grown_drewN (grown_setj w p 2 _) _) _)
    · exact grown_drewN (grown_drewN (grown_setj w p 2 _) _) _

theorem Drawn.trans {base p : Nat} {w w1 w2 : World} {P : Value → Prop} {e : Ending} (hg : w.grownBy w1 (some p)) (h : Drawn base p w1 P e w2) : Drawn base p w P e w2 :=
  ⟨h.1, h.2.1, hg.trans h.2.2⟩
theorem cur_new {base : Nat} {w : World} (hb : base ≤ w.heap.size) {a : Option Addr} {c : Nat} {zs : List Int} {h : Int}
    (hl : zs.length ≤ 1048576) (hz : ∀ z ∈ zs, 0 ≤ z ∧ z ≤ 255)
    (ho : 0 < zs.length → ∃ b off : Nat, a = some ⟨b, off, none⟩ ∧ b < base ∧ ∀ (j : Nat) z, zs[j]? = some z → w.cell? ⟨b, off + j, none⟩ = some (.int .u8 z)) :
    CurAt base (w.alloc (.cells #[.slice a zs.length c, .int .i64 0, .int .i64 h] 72)) w.heap.size := by
  refine ⟨hb, a, c, zs, 0, h, heap_alloc_new w _, hl, Nat.zero_le _, hz, fun h0 => ?_⟩
  obtain ⟨b, off, e, hbb, hx⟩ := ho h0
  refine ⟨b, off, e, hbb, fun j z hj => ?_⟩
  have hbel : Below w.heap.size w (w.alloc (.cells #[.slice a zs.length c, .int .i64 0, .int .i64 h] 72)) := (Below.refl _ _).alloc (Nat.le_refl _) _
  rw [hbel.cell (p := ⟨b, off + j, none⟩) (by show b < _; omega)]
  exact hx j z hj
theorem mod_in {x n : Int} (_hx : 0 ≤ x) (hn : 0 < n) : 0 ≤ x % n ∧ x % n ≤ n - 1 := ⟨Int.emod_nonneg _ (by omega), by have := Int.emod_lt_of_pos x hn; omega⟩

set_option maxRecDepth 100000 in
set_option maxHeartbeats 800000 in
theorem draw_below_small (base p : Nat) (n : Int) (w : World) (hc : CurAt base w p) (hn : 0 < n) (hm : n ≤ 256) :
    Calls Tryz.prog 42 #[.pointer (some ⟨p, 0, none⟩), .int .i64 n] w (Drawn base p w (IsIn 0 (n - 1))) := by
  go_enter Tryz.func42, Tryz.ntmps42
  go_wp2_with fail
  refine (draw_byte base p _ hc).mono ?_
  rintro e w1 ⟨⟨v, rfl, x, rfl, h0, h1⟩, hc1, hg1⟩
  have HC := Lib.hid hc1
  have HG := Lib.hid hg1
  clear hc1 hg1
  go_wp2_with fail
  go_ret
  exact ⟨⟨_, rfl, x % n, rfl, (mod_in h0 hn).1, (mod_in h0 hn).2⟩, HC.out, HG.out⟩

set_option maxRecDepth 100000 in
set_option maxHeartbeats 800000 in
theorem draw_below_great (base p : Nat) (n : Int) (w : World) (hc : CurAt base w p) (hn : 256 < n) (hm : n ≤ 4611686018427387904) :
    Calls Tryz.prog 42 #[.pointer (some ⟨p, 0, none⟩), .int .i64 n] w (Drawn base p w (IsIn 0 (n - 1))) := by
  go_enter Tryz.func42, Tryz.ntmps42
  go_wp2_with fail
  refine (draw_byte base p _ hc).mono ?_
  rintro e w1 ⟨⟨v, rfl, x, rfl, h0, h1⟩, hc1, hg1⟩
  have HC := Lib.hid hc1
  have HG := Lib.hid hg1
  clear hc1 hg1
  go_wp2_with fail
  refine (draw_byte base p _ HC.out).mono ?_
  rintro e w2 ⟨⟨v, rfl, y, rfl, h2, h3⟩, hc1, hg1⟩
  have HC2 := Lib.hid hc1
  have HG2 := Lib.hid (HG.out.trans hg1)
  clear hc1 hg1
  go_wp2_with fail
  refine (draw_byte base p _ HC2.out).mono ?_
  rintro e w3 ⟨⟨v, rfl, z, rfl, h4, h5⟩, hc1, hg1⟩
  have HC3 := Lib.hid hc1
  have HG3 := Lib.hid (HG2.out.trans hg1)
  clear hc1 hg1
  go_wp2_with fail
  refine (draw_byte base p _ HC3.out).mono ?_
  rintro e w4 ⟨⟨v, rfl, u, rfl, h6, h7⟩, hc1, hg1⟩
  have HC4 := Lib.hid hc1
  have HG4 := Lib.hid (HG3.out.trans hg1)
  clear hc1 hg1
  go_wp2_with fail
  go_ret
  have hs : 0 ≤ x * 16777216 + y * 65536 + z * 256 + u := by omega
  exact ⟨⟨_, rfl, (x * 16777216 + y * 65536 + z * 256 + u) % n, rfl, (mod_in hs (by omega)).1, (mod_in hs (by omega)).2⟩, HC4.out, HG4.out⟩

/-- A number below n. -/
theorem draw_below (base p : Nat) (n : Int) (w : World) (hc : CurAt base w p) (hn : 0 < n) (hm : n ≤ 4611686018427387904) :
    Calls Tryz.prog 42 #[.pointer (some ⟨p, 0, none⟩), .int .i64 n] w (Drawn base p w (IsIn 0 (n - 1))) := by
  by_cases h : n ≤ 256
  · exact draw_below_small base p n w hc hn h
  · exact draw_below_great base p n w hc (by omega) hm

/-- A cursor over bytes that came in. -/
def CodeIn (w : World) (a : Option Addr) (zs : List Int) : Prop :=
  zs.length ≤ 1048576 ∧ (∀ z ∈ zs, 0 ≤ z ∧ z ≤ 255) ∧ (0 < zs.length → ∃ b off : Nat, a = some ⟨b, off, none⟩ ∧ b < w.heap.size ∧ ∀ (j : Nat) z, zs[j]? = some z → w.cell? ⟨b, off + j, none⟩ = some (.int .u8 z))

set_option maxRecDepth 100000 in
set_option maxHeartbeats 800000 in
theorem draw_new (a : Option Addr) (c : Nat) (zs : List Int) (w0 w : World) (hbw : Below w0.heap.size w0 w) (hc : CodeIn w0 a zs) :
    Calls Tryz.prog 22 #[.slice a zs.length c] w fun e w' => (∃ p, e = .returned (.pointer (some ⟨p, 0, none⟩)) ∧ CurAt w0.heap.size w' p) ∧ Below w.heap.size w w' := by
  obtain ⟨hl, hz, ho⟩ := hc
  have HO := Lib.hid ho
  have HZ := Lib.hid hz
  have HB := Lib.hid hbw
  clear ho hz hbw
  go_enter Tryz.func22, Tryz.ntmps22
  go_wp2
  go_loop [3, 4] (fun h i => ∃ (k : Nat) (z : Int), k ≤ zs.length ∧ i = .int .i64 k ∧ h = .int .i64 z) (fun _ i => zs.length - (RowKit.intOf i).toNat)
  case atStart => exact ⟨0, _, Nat.zero_le _, rfl, rfl⟩
  case round =>
    obtain ⟨k, z, hk, rfl, rfl⟩ := hrel
    by_cases hlt : k < zs.length
    · by_cases h4 : k < 4000
      · obtain ⟨b, off, rfl, hbb, hx⟩ := HO.out (by omega)
        have hcell := hx k _ (List.getElem?_eq_getElem hlt)
        rw [← HB.out.cell (p := ⟨b, off + k, none⟩) hbb] at hcell
        have hzz := HZ.out _ (List.getElem_mem hlt)
        clear hx
        go_wp2
        exact ⟨⟨k + 1, _, by omega, by go_num, rfl⟩, by simp [RowKit.intOf]; omega⟩
      · go_wp2
        go_ret
        exact ⟨⟨w.heap.size, rfl, cur_new HB.out.size hl HZ.out (fun h0 => by
          obtain ⟨b, off, e, hbb, hx⟩ := HO.out h0
          exact ⟨b, off, e, hbb, fun j z hj => by rw [HB.out.cell (p := ⟨b, off + j, none⟩) hbb]; exact hx j z hj⟩)⟩, (Below.refl _ _).alloc (Nat.le_refl _) _⟩
    · obtain rfl : k = zs.length := by omega
      go_wp2
      go_ret
      exact ⟨⟨w.heap.size, rfl, cur_new HB.out.size hl HZ.out (fun h0 => by
        obtain ⟨b, off, e, hbb, hx⟩ := HO.out h0
        exact ⟨b, off, e, hbb, fun j z hj => by rw [HB.out.cell (p := ⟨b, off + j, none⟩) hbb]; exact hx j z hj⟩)⟩, (Below.refl _ _).alloc (Nat.le_refl _) _⟩
end Go.Proofs.YtjijgagdaolkcaaGreat
/- A draw out of a list. -/
namespace Go.Proofs.YtjijgagdaolkcaaGreat
open Go.RowKit Go.Lib

set_option maxRecDepth 100000 in
set_option maxHeartbeats 800000 in
theorem draw_pick_int (base p L : Nat) (xs : List Value) (w : World) (hc : CurAt base w p) (hn : 0 < xs.length) (hm : xs.length ≤ 1048576) (hL : L ≠ p) (hx : w.heap[L]? = some (.cells xs.toArray 3 (0, 0))) :
    Calls Tryz.prog 54 #[.pointer (some ⟨p, 0, none⟩), .slice (some ⟨L, 0, none⟩) xs.length xs.length] w (Drawn base p w (fun v => v ∈ xs)) := by
  have hlt : L < w.heap.size := by
    by_cases hh : L < w.heap.size
    · exact hh
    · rw [Array.getElem?_eq_none (by omega)] at hx; cases hx
  have HX := Lib.hid hx
  clear hx
  go_enter Tryz.func54, Tryz.ntmps54
  go_wp2_with fail
  refine (draw_below base p _ _ hc (by omega) (by omega)).mono ?_
  rintro e w1 ⟨⟨v, rfl, x, rfl, h0, h1⟩, hc1, hg1⟩
  obtain ⟨i, rfl⟩ : ∃ i : Nat, x = i := ⟨x.toNat, by omega⟩
  have hi : i < xs.length := by omega
  have hcell : w1.cell? ⟨L, i, none⟩ = some xs[i] := by
    rw [hg1.cell_far ⟨L, i, none⟩ hlt (by simpa using hL), cell_of_row w L i _ _ _ HX.out]
    simp [hi]
  obtain ⟨u, hu⟩ : ∃ u, u = xs[i] := ⟨_, rfl⟩
  rw [← hu] at hcell
  have hmem : u ∈ xs := by rw [hu]; exact List.getElem_mem hi
  have HM := Lib.hid hmem
  have HC := Lib.hid hc1
  have HG := Lib.hid hg1
  clear hc1 hg1 hu hmem
  go_wp2_with fail
  go_ret
  exact ⟨⟨_, rfl, HM.out⟩, HC.out, HG.out⟩
end Go.Proofs.YtjijgagdaolkcaaGreat
