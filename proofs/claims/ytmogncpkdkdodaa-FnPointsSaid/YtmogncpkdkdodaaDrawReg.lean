/- Drawn halves and regions. -/
import Derived.Test.YtmogncpkdkdodaaDrawVec
import Derived.Test.YtmogncpkdkdodaaMao
import Derived.Test.YtmogncpkdkdodaaMah
import Derived.Test.YtmogncpkdkdodaaMab
namespace Go.Proofs.Ytmogncpkdkdodaa
open Go Go.RowKit Go.Lib

/-- A half was drawn. -/
def DrewHv (base p : Nat) (w : World) (P : Hf → Prop) (e : Ending) (w' : World) : Prop :=
  (∃ v h, e = .returned v ∧ P h ∧ OwHv w.heap.size w'.heap.size w' v h) ∧ CurAt base w' p ∧ Kept p (p + 1) w w'

set_option maxRecDepth 100000 in
set_option maxHeartbeats 1600000 in
theorem d_half (base p n : Nat) (hn1 : 1 ≤ n) (hn : n ≤ 3) (w : World) (hc : CurAt base w p) :
    Calls Try.prog 124 #[.pointer (some ⟨p, 0, none⟩), .int .i64 n] w (DrewHv base p w (fun h => h.1.length = n ∧ Bd h.1 3 ∧ -2 ≤ h.2 ∧ h.2 ≤ 8)) := by
  have hp := hc.lt
  have HB0 := Lib.hid (below1 w (.cells #[.slice none 0 0, .int .i64 0] 48))
  have KB0 := Lib.hid (Bk.new w #[.slice none 0 0, .int .i64 0] 48)
  have HC := Lib.hid (hc.below HB0.out)
  clear hc
  go_enter Try.func124, Try.ntmps124
  go_wp2_with fail
  refine (d_draw base p n 3 (by omega) (by omega) (by omega) _ HC.out).mono ?_
  rintro e w1 ⟨⟨v, zs, rfl, ⟨hl, hbd⟩, ho⟩, hc1, hk1⟩
  obtain ⟨g, cap, rfl, hg1, hg2⟩ := ho.form (by rw [intVals_len]; omega)
  subst hl
  rw [intVals_len] at ho ⊢
  have hgw : w.heap.size + 1 ≤ g := by simpa using hg1
  have HU1 := Lib.hid hc1
  have HK1 := Lib.hid ((Kept.of_below (lo := p) (hi := p + 1) HB0.out).trans hk1)
  have KB1 := Lib.hid (KB0.out.kept hk1 (.inr (by omega)))
  have HO1 := Lib.hid ho
  have HD := Lib.hid hbd
  have hl0 : 0 < zs.length := by omega
  clear hc1 hk1 ho hg1
  go_wp2_with fail
  refine (s_all zs 3 (by omega) (by omega) HD.out _ _ HO1.out.sl).mono ?_
  rintro e w2 ⟨rfl, hb⟩
  have HU2 := Lib.hid (HU1.out.below hb)
  have HK2 := Lib.hid (HK1.out.then_below hb)
  have KB2 := Lib.hid (KB1.out.below hb)
  have HO2 := Lib.hid ((HO1.out.below hb).mono (lo' := w.heap.size + 1) (by simp) hb.size)
  clear hb
  by_cases h0 : allG zs = 0
  · rw [h0]
    have ho2 := HO2.out.owns
    rw [intVals_len] at ho2
    obtain ⟨old, hmine⟩ : ∃ old : Int, w2.cell? ⟨g, 0, none⟩ = some (.int .i64 old) := ⟨_, by rw [ho2.cellAt 0 (by omega)]; exact intVals_get zs 0 hl0⟩
    have hfree := ho2.frozenAt 0
    have hs := (ho2.stored 0 (.int .i64 1)).1
    rw [← intVals_set] at hs
    have hb3 := (Below.refl (w.heap.size + 1) w2).setCell (p := ⟨g, 0, none⟩) hgw (.int .i64 1)
    have hb30 := (Below.refl w.heap.size w2).setCell (p := ⟨g, 0, none⟩) (by show w.heap.size ≤ g; omega) (.int .i64 1)
    have HU3 := Lib.hid (HU2.out.belowB hb30 hp)
    have HK3 := Lib.hid (HK2.out.andB hb30)
    have KB3 := Lib.hid (KB2.out.since hb3 (Nat.lt_succ_self _))
    have HO3 := Lib.hid (show OwnV 3 (w.heap.size + 1) (w2.setCell ⟨g, 0, none⟩ (.int .i64 1)).heap.size (w2.setCell ⟨g, 0, none⟩ (.int .i64 1)) (.slice (some ⟨g, 0, none⟩) zs.length cap) (intVals (zs.set 0 1)) from OwnV.of_owns hs)
    have HD3 := Lib.hid (show Bd (zs.set 0 1) 3 from fun k hk => by
      rw [List.getElem_set]
      split
      · omega
      · exact HD.out k (by simpa using hk))
    clear ho2 hs hb3 hb30
    go_wp2_with fail
    refine (draw_below base p 11 _ HU3.out (by omega) (by omega)).mono ?_
    rintro e w4 ⟨⟨v4, rfl, y, rfl, y0, y1⟩, hc4, hg4⟩
    have hk4 := Kept.of_grown hg4
    have HU4 := Lib.hid hc4
    have HK4 := Lib.hid (HK3.out.trans hk4)
    have KB4 := Lib.hid (KB3.out.kept hk4 (.inr (by omega)))
    have HO4 := Lib.hid ((HO3.out.kept hk4 (.inr (by omega))).mono (Nat.le_refl _) hk4.size)
    clear hc4 hg4 hk4
    obtain ⟨⟨m0, m1⟩, mf0, mf1⟩ := KB4.out.two
    go_wp2
    have hbe := ((Below.refl w.heap.size w4).setCell (p := ⟨w.heap.size, 0, none⟩) (Nat.le_refl _) (.slice (some ⟨g, 0, none⟩) zs.length cap)).setCell (p := ⟨w.heap.size, 1, none⟩) (Nat.le_refl _) (.int .i64 (y - 2))
    refine bodyPost_ret (v := .agg #[.slice (some ⟨g, 0, none⟩) zs.length cap, .int .i64 (y - 2)]) ?_ rfl ⟨⟨_, (zs.set 0 1, y - 2), rfl, ⟨by simp, HD3.out, by simp only; omega, by simp only; omega⟩, _, rfl, ?_⟩, HU4.out.belowB hbe hp, HK4.out.andB hbe⟩
    · simp [results, Try.results124, go_sem, m0, m1]
    · exact (HO4.out.kept (((Kept.refl w.heap.size (w.heap.size + 1) w4).setCell (p := ⟨w.heap.size, 0, none⟩) (Nat.le_refl _) (Nat.lt_succ_self _) _).setCell (p := ⟨w.heap.size, 1, none⟩) (Nat.le_refl _) (Nat.lt_succ_self _) _) (.inr (Nat.le_refl _))).mono (Nat.le_succ _) (by simp [World.setCell])
  · have hq : (allG zs == 0) = false := by rw [beq_eq_false_iff_ne]; exact h0
    have HU3 := HU2
    have HK3 := HK2
    have KB3 := KB2
    have HO3 := HO2
    go_wp2_with fail
    refine (draw_below base p 11 _ HU3.out (by omega) (by omega)).mono ?_
    rintro e w4 ⟨⟨v4, rfl, y, rfl, y0, y1⟩, hc4, hg4⟩
    have hk4 := Kept.of_grown hg4
    have HU4 := Lib.hid hc4
    have HK4 := Lib.hid (HK3.out.trans hk4)
    have KB4 := Lib.hid (KB3.out.kept hk4 (.inr (by omega)))
    have HO4 := Lib.hid ((HO3.out.kept hk4 (.inr (by omega))).mono (Nat.le_refl _) hk4.size)
    clear hc4 hg4 hk4
    obtain ⟨⟨m0, m1⟩, mf0, mf1⟩ := KB4.out.two
    go_wp2
    have hbe := ((Below.refl w.heap.size w4).setCell (p := ⟨w.heap.size, 0, none⟩) (Nat.le_refl _) (.slice (some ⟨g, 0, none⟩) zs.length cap)).setCell (p := ⟨w.heap.size, 1, none⟩) (Nat.le_refl _) (.int .i64 (y - 2))
    refine bodyPost_ret (v := .agg #[.slice (some ⟨g, 0, none⟩) zs.length cap, .int .i64 (y - 2)]) ?_ rfl ⟨⟨_, (zs, y - 2), rfl, ⟨rfl, HD.out, by simp only; omega, by simp only; omega⟩, _, rfl, ?_⟩, HU4.out.belowB hbe hp, HK4.out.andB hbe⟩
    · simp [results, Try.results124, go_sem, m0, m1]
    · exact (HO4.out.kept (((Kept.refl w.heap.size (w.heap.size + 1) w4).setCell (p := ⟨w.heap.size, 0, none⟩) (Nat.le_refl _) (Nat.lt_succ_self _) _).setCell (p := ⟨w.heap.size, 1, none⟩) (Nat.le_refl _) (Nat.lt_succ_self _) _) (.inr (Nat.le_refl _))).mono (Nat.le_succ _) (by simp [World.setCell])
end Go.Proofs.Ytmogncpkdkdodaa
