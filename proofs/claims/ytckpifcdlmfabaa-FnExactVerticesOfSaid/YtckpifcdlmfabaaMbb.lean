/- The program's meetingPoint. -/
import Derived.Test.YtckpifcdlmfabaaVxR
import Derived.Test.YtckpifcdlmfabaaMat
import Derived.Test.YtckpifcdlmfabaaMba
import Derived.Test.YtckpifcdlmfabaaMaj
import Derived.Test.YtckpifcdlmfabaaMac
import Derived.Test.YtckpifcdlmfabaaMao
namespace Go.Proofs.Ytckpifcdlmfabaa
open Go Go.RowKit Go.Lib

/-- What a function that answers a rational point and whether it is there leaves. -/
def MetH (w : World) (r : Hf × Bool) (e : Ending) (w' : World) : Prop := (∃ v, e = .returned (.tuple #[v, .bool r.2]) ∧ OwHv w.heap.size w'.heap.size w' v r.1) ∧ Below w.heap.size w w'
theorem met_mk {w : World} {r r' : Hf × Bool} {e : Ending} {w' : World} (h : r' = r) (g : MetH w r e w') : MetH w r' e w' := by subst h; exact g
def metQ (D : Int) (R : Hf) : Hf × Bool := if D = 0 then (([], 0), false) else (R, true)
theorem metQ_zero (R : Hf) : metQ 0 R = (([], 0), false) := if_pos rfl
theorem metQ_some {D : Int} (R : Hf) (h : D ≠ 0) : metQ D R = (R, true) := if_neg h
theorem calls_gen {P : Program} {f : FuncId} {args : Array Value} {w : World} {Q : Ending → World → Prop} (h : ∀ W, W = w → Calls P f args W Q) : Calls P f args w Q := h w rfl
theorem wgenv {P : Program} {c : Code} {Q : Exit → Act → World → Prop} {a : Act} {w : World} (h : ∀ W, W = w → Code.wp P c Q a W) : Code.wp P c Q a w := h w rfl
theorem Bk.c3v {w : World} {b : Nat} {x y z : Value} {T : TypeId} (h : Bk w b #[x, y, z] T) : w.cell? ⟨b, 0, none⟩ = some x ∧ w.cell? ⟨b, 1, none⟩ = some y ∧ w.cell? ⟨b, 2, none⟩ = some z := ⟨h.cell 0 rfl, h.cell 1 rfl, h.cell 2 rfl⟩
set_option maxRecDepth 100000 in
set_option maxHeartbeats 8000000 in
theorem i_meet1_p (a00 a01 a02 b0 : Int) (g c : Nat) (R : Hf) (D N0 : Int) (w : World) (hgl : g < w.heap.size)
    (hc : w.cell? ⟨g, 0, none⟩ = some (.int .i64 a00) ∧ w.cell? ⟨g, 1, none⟩ = some (.int .i64 a01) ∧ w.cell? ⟨g, 2, none⟩ = some (.int .i64 a02) ∧ w.cell? ⟨g, 3, none⟩ = some (.int .i64 b0))
    (hD : ∀ W : World, Calls Try.prog 98 #[.agg #[.int .i64 a00, .int .i64 a01, .int .i64 a02, .int .i64 0, .int .i64 1, .int .i64 0, .int .i64 0, .int .i64 0, .int .i64 1]] W (Quiet W (.int .i64 D)))
    (hN0 : ∀ W : World, Calls Try.prog 98 #[.agg #[.int .i64 b0, .int .i64 a01, .int .i64 a02, .int .i64 0, .int .i64 1, .int .i64 0, .int .i64 0, .int .i64 0, .int .i64 1]] W (Quiet W (.int .i64 N0)))
    (hR : D ≠ 0 → ∀ (V : Value) (W : World), Sl W V (intVals [N0]) → Calls Try.prog 100 #[V, .int .i64 D] W (MadeHv W R)) :
    Calls Try.prog 51 #[.slice (some ⟨g, 0, none⟩) 1 c] w (MetH w (metQ D R)) := by
  have HC := Lib.hid hc
  have HD := Lib.hid hD
  have HN0 := Lib.hid hN0
  have HR := Lib.hid hR
  obtain ⟨i0, hi, hz0, hz1, hz2⟩ := info_parts info_int'
  have HI := Lib.hid (And.intro hi (And.intro hz0 (And.intro hz1 hz2)))
  have B0 := Lib.hid (below1 w (.cells #[.slice none 0 0, .int .i64 0] 63))
  have K0 := Lib.hid (Bk.new w #[.slice none 0 0, .int .i64 0] 63)
  clear hc hD hR hi hz0 hz1 hz2 hN0
  go_enter Try.func51, Try.ntmps51
  go_wp2_with fail
  refine (i_grid0 _).mono ?_
  rintro e w1 ⟨rfl, hb⟩
  have B1 := Lib.hid (B0.out.trans (hb.mono B0.out.size))
  have K1 := Lib.hid (K0.out.below hb)
  have hs1 : w.heap.size + 1 ≤ w1.heap.size := K1.out.lt
  have hgl1 : g < w1.heap.size := by omega
  have hgn0 : ¬ g = w1.heap.size := by omega
  have hgl2 : g < w1.heap.size + 1 := by omega
  have hgl3 : g < w1.heap.size + 1 + 1 := by omega
  have hgl4 : g < w1.heap.size + 1 + 1 + 1 := by omega
  have hgl5 : g < w1.heap.size + 1 + 1 + 1 + 1 := by omega
  have hgn1 : ¬ g = w1.heap.size + 1 := by omega
  have hgn2 : ¬ g = w1.heap.size + 1 + 1 := by omega
  have hgn3 : ¬ g = w1.heap.size + 1 + 1 + 1 := by omega
  have hgn4 : ¬ g = w1.heap.size + 1 + 1 + 1 + 1 := by omega
  obtain ⟨c0, c1, c2, c3⟩ := HC.out
  rw [← B1.out.cell (p := ⟨g, 0, none⟩) hgl] at c0
  rw [← B1.out.cell (p := ⟨g, 1, none⟩) hgl] at c1
  rw [← B1.out.cell (p := ⟨g, 2, none⟩) hgl] at c2
  rw [← B1.out.cell (p := ⟨g, 3, none⟩) hgl] at c3
  clear hb
  go_wp2_with fail
  refine wp_loop_rounds 2 ?_
  rw [rounds_succ]
  go_wp2
  go_region
  go_wp2_with fail
  rw [rounds_succ]
  go_wp2_with fail
  refine calls_gen ?_
  intro W hW
  have BW := Lib.hid (show Below w1.heap.size w1 W by rw [hW]; repeat (first | with_reducible exact Below.refl _ _ | refine Below.drew ?_ | refine Below.alloc ?_ (by simp <;> omega) _))
  have GW := Lib.hid (show G9 W w1.heap.size 104 a00 a01 a02 0 1 0 0 0 1 by rw [hW]; exact (((G9.new w1 104 a00 a01 a02 0 1 0 0 0 1).allocd _).allocd _))
  have NW := Lib.hid (show Bk W (w1.heap.size + 1) #[.int .i64 b0, .int .i64 0, .int .i64 0] 57 by rw [hW]; exact ((Bk.newAt (by simp) #[.int .i64 b0, .int .i64 0, .int .i64 0] 57).alloc _))
  clear hW
  refine (HD.out _).mono ?_
  rintro e w2 ⟨rfl, hb⟩
  have B2 := Lib.hid ((B1.out.trans (BW.out.mono B1.out.size)).trans (hb.mono (Nat.le_trans B1.out.size BW.out.size)))
  have K2 := Lib.hid ((K1.out.below BW.out).below hb)
  have G2 := Lib.hid (GW.out.below hb)
  have N2 := Lib.hid (NW.out.below hb)
  have hs2 : w1.heap.size + 2 ≤ w2.heap.size := N2.out.lt
  clear hb BW GW NW K1
  by_cases d0 : D = 0
  · subst d0
    obtain ⟨⟨r0, r1⟩, rf0, rf1⟩ := K2.out.two
    go_wp2
    have hkp := ((Kept.refl w.heap.size (w.heap.size + 1) w2).setCell (p := ⟨w.heap.size, 0, none⟩) (Nat.le_refl _) (Nat.lt_succ_self _) (.slice none 0 0)).setCell (p := ⟨w.heap.size, 1, none⟩) (Nat.le_refl _) (Nat.lt_succ_self _) (.int .i64 0)
    exact bodyPost_ret (v := .tuple #[.agg #[.slice none 0 0, .int .i64 0], .bool false]) (by simp [results, Try.results51, go_sem, r0, r1]) rfl (met_mk (metQ_zero R) ⟨⟨_, rfl, ⟨_, rfl, OwnV.nil⟩⟩, (B2.out.setCell (p := ⟨w.heap.size, 0, none⟩) (Nat.le_refl _) _).setCell (p := ⟨w.heap.size, 1, none⟩) (Nat.le_refl _) _⟩)
  have de : (D == 0) = false := by rw [beq_eq_false_iff_ne]; exact d0
  go_wp2_with (at_make; refine wpList_make_full _ rfl _ _ 46 rfl w2.heap.size 3 i0 _ 1 Try.underlying46 HI.out.1 HI.out.2.1 HI.out.2.2.1 .i64 .i64 _ _ 1 rfl rfl rfl rfl (by rw [HI.out.2.2.2]; omega) (by unfold maxLen; omega) (Nat.le_refl _) ?_; intro w3 hown hgrow)
  have hb : Below w2.heap.size w2 w3 := (Below.refl _ _).grown hgrow (Nat.le_refl _) (fun _ h => by cases h)
  rw [show (Value.int .i64 0).cells = #[Value.int .i64 0] from rfl, toList_madeCells_one] at hown
  have O3 := Lib.hid (show w3.ownsRow w2.heap.size 3 1 (.slice (some ⟨w2.heap.size, 0, none⟩) 1 1) 1 (intVals [0]) from hown)
  have B3 := Lib.hid (B2.out.trans (hb.mono B2.out.size))
  have K3 := Lib.hid (K2.out.below hb)
  have G3 := Lib.hid (G2.out.below hb)
  have N3 := Lib.hid (N2.out.below hb)
  have hs3 : w2.heap.size < w3.heap.size := (hown.lt _ rfl).2
  clear hown hgrow hb K2 G2 N2
  have hww : w.heap.size < w2.heap.size := by omega
  refine wp_loop_rounds 2 ?_
  try rw [rounds_succ]
  obtain ⟨⟨k0, k1, k2⟩, ⟨k3, k4, k5⟩, k6, k7, k8⟩ := G3.out.cells
  obtain ⟨n0, n1, n2⟩ := N3.out.c3v
  go_wp2_with fail
  refine (i_wcol0 a00 a01 a02 0 1 0 0 0 1 b0 0 0 _).mono ?_
  rintro e w4 ⟨rfl, hb⟩
  have B4 := Lib.hid (B3.out.trans (hb.mono B3.out.size))
  have K4 := Lib.hid (K3.out.below hb)
  have G4 := Lib.hid (G3.out.below hb)
  have N4 := Lib.hid (N3.out.below hb)
  have O4 := Lib.hid (owns_below O3.out hb)
  clear hb k0 k1 k2 k3 k4 k5 k6 k7 k8 n0 n1 n2 K3 G3 N3 O3
  go_wp2_with fail
  refine (HN0.out _).mono ?_
  rintro e w5 ⟨rfl, hb⟩
  have B5 := Lib.hid (B4.out.trans (hb.mono B4.out.size))
  have K5 := Lib.hid (K4.out.below hb)
  have G5 := Lib.hid (G4.out.below hb)
  have N5 := Lib.hid (N4.out.below hb)
  have ho := owns_below O4.out hb
  have hmine := ho.cellAt 0 (by omega)
  rw [show (intVals [0])[0]? = some (.int .i64 0) from rfl] at hmine
  have hfree := ho.frozenAt 0
  have ST := Lib.hid (show (w5.setCell ⟨w2.heap.size, 0, none⟩ (.int .i64 N0)).ownsRow w2.heap.size 3 1 (.slice (some ⟨w2.heap.size, 0, none⟩) 1 1) 1 (intVals [N0]) from (ho.stored 0 (.int .i64 N0)).1)
  clear hb ho K4 G4 N4 O4
  go_wp2_with fail
  clear hmine hfree
  refine wgenv ?_
  intro w6 hw
  have B6 := Lib.hid (show Below w.heap.size w w6 by rw [hw]; exact B5.out.setCell (p := ⟨w2.heap.size, 0, none⟩) (Nat.le_of_lt hww) _)
  have K6 := Lib.hid (show Bk w6 w.heap.size #[.slice none 0 0, .int .i64 0] 63 by rw [hw]; exact K5.out.other (by show w2.heap.size ≠ _; omega) _)
  have G6 := Lib.hid (show G9 w6 w1.heap.size 104 a00 a01 a02 0 1 0 0 0 1 by rw [hw]; exact G5.out.other (by show w2.heap.size ≠ _; omega) _)
  have N6 := Lib.hid (show Bk w6 (w1.heap.size + 1) #[.int .i64 b0, .int .i64 0, .int .i64 0] 57 by rw [hw]; exact N5.out.other (by show w2.heap.size ≠ _; omega) _)
  have O6 := Lib.hid (show w6.ownsRow w2.heap.size 3 1 (.slice (some ⟨w2.heap.size, 0, none⟩) 1 1) 1 (intVals [N0]) by rw [hw]; exact ST.out)
  clear hw ST K5 G5 N5
  try rw [rounds_succ]
  go_wp2_with fail
  refine (HR.out d0 _ _ (Sl.of_owns O6.out)).mono ?_
  rintro e w20 ⟨⟨v, rfl, V, rfl, ho⟩, hb⟩
  obtain ⟨va, vc, rfl, _⟩ := ho.shape1
  have B20 := Lib.hid (B6.out.trans (hb.mono B6.out.size))
  obtain ⟨⟨r0, r1⟩, rf0, rf1⟩ := (K6.out.below hb).two
  have HO := Lib.hid ho
  have hlt := K6.out.lt
  clear hb ho
  go_wp2
  have hkp := ((Kept.refl w.heap.size (w.heap.size + 1) w20).setCell (p := ⟨w.heap.size, 0, none⟩) (Nat.le_refl _) (Nat.lt_succ_self _) (.slice va (intVals R.1).length vc)).setCell (p := ⟨w.heap.size, 1, none⟩) (Nat.le_refl _) (Nat.lt_succ_self _) (.int .i64 R.2)
  refine bodyPost_ret (v := .tuple #[.agg #[.slice va (intVals R.1).length vc, .int .i64 R.2], .bool true]) (by simp [results, Try.results51, go_sem, r0, r1]) rfl (met_mk (metQ_some R d0) ⟨⟨_, rfl, ⟨_, rfl, ?_⟩⟩, (B20.out.setCell (p := ⟨w.heap.size, 0, none⟩) (Nat.le_refl _) _).setCell (p := ⟨w.heap.size, 1, none⟩) (Nat.le_refl _) _⟩)
  exact (HO.out.kept hkp (.inr (by omega))).mono (by omega) (by simp [World.setCell])

set_option maxRecDepth 100000 in
set_option maxHeartbeats 8000000 in
theorem i_meet2_p (a00 a01 a02 a10 a11 a12 b0 b1 : Int) (g c : Nat) (R : Hf) (D N0 N1 : Int) (w : World) (hgl : g < w.heap.size)
    (hc : w.cell? ⟨g, 0, none⟩ = some (.int .i64 a00) ∧ w.cell? ⟨g, 1, none⟩ = some (.int .i64 a01) ∧ w.cell? ⟨g, 2, none⟩ = some (.int .i64 a02) ∧ w.cell? ⟨g, 3, none⟩ = some (.int .i64 b0) ∧ w.cell? ⟨g, 4, none⟩ = some (.int .i64 a10) ∧ w.cell? ⟨g, 5, none⟩ = some (.int .i64 a11) ∧ w.cell? ⟨g, 6, none⟩ = some (.int .i64 a12) ∧ w.cell? ⟨g, 7, none⟩ = some (.int .i64 b1))
    (hD : ∀ W : World, Calls Try.prog 98 #[.agg #[.int .i64 a00, .int .i64 a01, .int .i64 a02, .int .i64 a10, .int .i64 a11, .int .i64 a12, .int .i64 0, .int .i64 0, .int .i64 1]] W (Quiet W (.int .i64 D)))
    (hN0 : ∀ W : World, Calls Try.prog 98 #[.agg #[.int .i64 b0, .int .i64 a01, .int .i64 a02, .int .i64 b1, .int .i64 a11, .int .i64 a12, .int .i64 0, .int .i64 0, .int .i64 1]] W (Quiet W (.int .i64 N0)))
    (hN1 : ∀ W : World, Calls Try.prog 98 #[.agg #[.int .i64 a00, .int .i64 b0, .int .i64 a02, .int .i64 a10, .int .i64 b1, .int .i64 a12, .int .i64 0, .int .i64 0, .int .i64 1]] W (Quiet W (.int .i64 N1)))
    (hR : D ≠ 0 → ∀ (V : Value) (W : World), Sl W V (intVals [N0, N1]) → Calls Try.prog 100 #[V, .int .i64 D] W (MadeHv W R)) :
    Calls Try.prog 51 #[.slice (some ⟨g, 0, none⟩) 2 c] w (MetH w (metQ D R)) := by
  have HC := Lib.hid hc
  have HD := Lib.hid hD
  have HN0 := Lib.hid hN0
  have HN1 := Lib.hid hN1
  have HR := Lib.hid hR
  obtain ⟨i0, hi, hz0, hz1, hz2⟩ := info_parts info_int'
  have HI := Lib.hid (And.intro hi (And.intro hz0 (And.intro hz1 hz2)))
  have B0 := Lib.hid (below1 w (.cells #[.slice none 0 0, .int .i64 0] 63))
  have K0 := Lib.hid (Bk.new w #[.slice none 0 0, .int .i64 0] 63)
  clear hc hD hR hi hz0 hz1 hz2 hN0 hN1
  go_enter Try.func51, Try.ntmps51
  go_wp2_with fail
  refine (i_grid0 _).mono ?_
  rintro e w1 ⟨rfl, hb⟩
  have B1 := Lib.hid (B0.out.trans (hb.mono B0.out.size))
  have K1 := Lib.hid (K0.out.below hb)
  have hs1 : w.heap.size + 1 ≤ w1.heap.size := K1.out.lt
  have hgl1 : g < w1.heap.size := by omega
  have hgn0 : ¬ g = w1.heap.size := by omega
  have hgl2 : g < w1.heap.size + 1 := by omega
  have hgl3 : g < w1.heap.size + 1 + 1 := by omega
  have hgl4 : g < w1.heap.size + 1 + 1 + 1 := by omega
  have hgl5 : g < w1.heap.size + 1 + 1 + 1 + 1 := by omega
  have hgn1 : ¬ g = w1.heap.size + 1 := by omega
  have hgn2 : ¬ g = w1.heap.size + 1 + 1 := by omega
  have hgn3 : ¬ g = w1.heap.size + 1 + 1 + 1 := by omega
  have hgn4 : ¬ g = w1.heap.size + 1 + 1 + 1 + 1 := by omega
  obtain ⟨c0, c1, c2, c3, c4, c5, c6, c7⟩ := HC.out
  rw [← B1.out.cell (p := ⟨g, 0, none⟩) hgl] at c0
  rw [← B1.out.cell (p := ⟨g, 1, none⟩) hgl] at c1
  rw [← B1.out.cell (p := ⟨g, 2, none⟩) hgl] at c2
  rw [← B1.out.cell (p := ⟨g, 3, none⟩) hgl] at c3
  rw [← B1.out.cell (p := ⟨g, 4, none⟩) hgl] at c4
  rw [← B1.out.cell (p := ⟨g, 5, none⟩) hgl] at c5
  rw [← B1.out.cell (p := ⟨g, 6, none⟩) hgl] at c6
  rw [← B1.out.cell (p := ⟨g, 7, none⟩) hgl] at c7
  clear hb
  go_wp2_with fail
  refine wp_loop_rounds 3 ?_
  rw [rounds_succ]
  go_wp2
  go_region
  go_wp2_with fail
  rw [rounds_succ]
  go_wp2
  go_region
  go_wp2_with fail
  rw [rounds_succ]
  go_wp2_with fail
  refine calls_gen ?_
  intro W hW
  have BW := Lib.hid (show Below w1.heap.size w1 W by rw [hW]; repeat (first | with_reducible exact Below.refl _ _ | refine Below.drew ?_ | refine Below.alloc ?_ (by simp <;> omega) _))
  have GW := Lib.hid (show G9 W w1.heap.size 104 a00 a01 a02 a10 a11 a12 0 0 1 by rw [hW]; exact ((((G9.new w1 104 a00 a01 a02 a10 a11 a12 0 0 1).allocd _).allocd _).allocd _))
  have NW := Lib.hid (show Bk W (w1.heap.size + 1) #[.int .i64 b0, .int .i64 b1, .int .i64 0] 57 by rw [hW]; exact (((Bk.newAt (by simp) #[.int .i64 b0, .int .i64 b1, .int .i64 0] 57).alloc _).alloc _))
  clear hW
  refine (HD.out _).mono ?_
  rintro e w2 ⟨rfl, hb⟩
  have B2 := Lib.hid ((B1.out.trans (BW.out.mono B1.out.size)).trans (hb.mono (Nat.le_trans B1.out.size BW.out.size)))
  have K2 := Lib.hid ((K1.out.below BW.out).below hb)
  have G2 := Lib.hid (GW.out.below hb)
  have N2 := Lib.hid (NW.out.below hb)
  have hs2 : w1.heap.size + 2 ≤ w2.heap.size := N2.out.lt
  clear hb BW GW NW K1
  by_cases d0 : D = 0
  · subst d0
    obtain ⟨⟨r0, r1⟩, rf0, rf1⟩ := K2.out.two
    go_wp2
    have hkp := ((Kept.refl w.heap.size (w.heap.size + 1) w2).setCell (p := ⟨w.heap.size, 0, none⟩) (Nat.le_refl _) (Nat.lt_succ_self _) (.slice none 0 0)).setCell (p := ⟨w.heap.size, 1, none⟩) (Nat.le_refl _) (Nat.lt_succ_self _) (.int .i64 0)
    exact bodyPost_ret (v := .tuple #[.agg #[.slice none 0 0, .int .i64 0], .bool false]) (by simp [results, Try.results51, go_sem, r0, r1]) rfl (met_mk (metQ_zero R) ⟨⟨_, rfl, ⟨_, rfl, OwnV.nil⟩⟩, (B2.out.setCell (p := ⟨w.heap.size, 0, none⟩) (Nat.le_refl _) _).setCell (p := ⟨w.heap.size, 1, none⟩) (Nat.le_refl _) _⟩)
  have de : (D == 0) = false := by rw [beq_eq_false_iff_ne]; exact d0
  go_wp2_with (at_make; refine wpList_make_full _ rfl _ _ 46 rfl w2.heap.size 3 i0 _ 1 Try.underlying46 HI.out.1 HI.out.2.1 HI.out.2.2.1 .i64 .i64 _ _ 2 rfl rfl rfl rfl (by rw [HI.out.2.2.2]; omega) (by unfold maxLen; omega) (Nat.le_refl _) ?_; intro w3 hown hgrow)
  have hb : Below w2.heap.size w2 w3 := (Below.refl _ _).grown hgrow (Nat.le_refl _) (fun _ h => by cases h)
  rw [show (Value.int .i64 0).cells = #[Value.int .i64 0] from rfl, toList_madeCells_one] at hown
  have O3 := Lib.hid (show w3.ownsRow w2.heap.size 3 1 (.slice (some ⟨w2.heap.size, 0, none⟩) 2 2) 2 (intVals [0, 0]) from hown)
  have B3 := Lib.hid (B2.out.trans (hb.mono B2.out.size))
  have K3 := Lib.hid (K2.out.below hb)
  have G3 := Lib.hid (G2.out.below hb)
  have N3 := Lib.hid (N2.out.below hb)
  have hs3 : w2.heap.size < w3.heap.size := (hown.lt _ rfl).2
  clear hown hgrow hb K2 G2 N2
  have hww : w.heap.size < w2.heap.size := by omega
  refine wp_loop_rounds 3 ?_
  try rw [rounds_succ]
  obtain ⟨⟨k0, k1, k2⟩, ⟨k3, k4, k5⟩, k6, k7, k8⟩ := G3.out.cells
  obtain ⟨n0, n1, n2⟩ := N3.out.c3v
  go_wp2_with fail
  refine (i_wcol0 a00 a01 a02 a10 a11 a12 0 0 1 b0 b1 0 _).mono ?_
  rintro e w4 ⟨rfl, hb⟩
  have B4 := Lib.hid (B3.out.trans (hb.mono B3.out.size))
  have K4 := Lib.hid (K3.out.below hb)
  have G4 := Lib.hid (G3.out.below hb)
  have N4 := Lib.hid (N3.out.below hb)
  have O4 := Lib.hid (owns_below O3.out hb)
  clear hb k0 k1 k2 k3 k4 k5 k6 k7 k8 n0 n1 n2 K3 G3 N3 O3
  go_wp2_with fail
  refine (HN0.out _).mono ?_
  rintro e w5 ⟨rfl, hb⟩
  have B5 := Lib.hid (B4.out.trans (hb.mono B4.out.size))
  have K5 := Lib.hid (K4.out.below hb)
  have G5 := Lib.hid (G4.out.below hb)
  have N5 := Lib.hid (N4.out.below hb)
  have ho := owns_below O4.out hb
  have hmine := ho.cellAt 0 (by omega)
  rw [show (intVals [0, 0])[0]? = some (.int .i64 0) from rfl] at hmine
  have hfree := ho.frozenAt 0
  have ST := Lib.hid (show (w5.setCell ⟨w2.heap.size, 0, none⟩ (.int .i64 N0)).ownsRow w2.heap.size 3 1 (.slice (some ⟨w2.heap.size, 0, none⟩) 2 2) 2 (intVals [N0, 0]) from (ho.stored 0 (.int .i64 N0)).1)
  clear hb ho K4 G4 N4 O4
  go_wp2_with fail
  clear hmine hfree
  refine wgenv ?_
  intro w6 hw
  have B6 := Lib.hid (show Below w.heap.size w w6 by rw [hw]; exact B5.out.setCell (p := ⟨w2.heap.size, 0, none⟩) (Nat.le_of_lt hww) _)
  have K6 := Lib.hid (show Bk w6 w.heap.size #[.slice none 0 0, .int .i64 0] 63 by rw [hw]; exact K5.out.other (by show w2.heap.size ≠ _; omega) _)
  have G6 := Lib.hid (show G9 w6 w1.heap.size 104 a00 a01 a02 a10 a11 a12 0 0 1 by rw [hw]; exact G5.out.other (by show w2.heap.size ≠ _; omega) _)
  have N6 := Lib.hid (show Bk w6 (w1.heap.size + 1) #[.int .i64 b0, .int .i64 b1, .int .i64 0] 57 by rw [hw]; exact N5.out.other (by show w2.heap.size ≠ _; omega) _)
  have O6 := Lib.hid (show w6.ownsRow w2.heap.size 3 1 (.slice (some ⟨w2.heap.size, 0, none⟩) 2 2) 2 (intVals [N0, 0]) by rw [hw]; exact ST.out)
  clear hw ST K5 G5 N5
  try rw [rounds_succ]
  obtain ⟨⟨k0, k1, k2⟩, ⟨k3, k4, k5⟩, k6, k7, k8⟩ := G6.out.cells
  obtain ⟨n0, n1, n2⟩ := N6.out.c3v
  go_wp2_with fail
  refine (i_wcol1 a00 a01 a02 a10 a11 a12 0 0 1 b0 b1 0 _).mono ?_
  rintro e w7 ⟨rfl, hb⟩
  have B7 := Lib.hid (B6.out.trans (hb.mono B6.out.size))
  have K7 := Lib.hid (K6.out.below hb)
  have G7 := Lib.hid (G6.out.below hb)
  have N7 := Lib.hid (N6.out.below hb)
  have O7 := Lib.hid (owns_below O6.out hb)
  clear hb k0 k1 k2 k3 k4 k5 k6 k7 k8 n0 n1 n2 K6 G6 N6 O6
  go_wp2_with fail
  refine (HN1.out _).mono ?_
  rintro e w8 ⟨rfl, hb⟩
  have B8 := Lib.hid (B7.out.trans (hb.mono B7.out.size))
  have K8 := Lib.hid (K7.out.below hb)
  have G8 := Lib.hid (G7.out.below hb)
  have N8 := Lib.hid (N7.out.below hb)
  have ho := owns_below O7.out hb
  have hmine := ho.cellAt 1 (by omega)
  rw [show (intVals [N0, 0])[1]? = some (.int .i64 0) from rfl] at hmine
  have hfree := ho.frozenAt 1
  have ST := Lib.hid (show (w8.setCell ⟨w2.heap.size, 1, none⟩ (.int .i64 N1)).ownsRow w2.heap.size 3 1 (.slice (some ⟨w2.heap.size, 0, none⟩) 2 2) 2 (intVals [N0, N1]) from (ho.stored 1 (.int .i64 N1)).1)
  clear hb ho K7 G7 N7 O7
  go_wp2_with fail
  clear hmine hfree
  refine wgenv ?_
  intro w9 hw
  have B9 := Lib.hid (show Below w.heap.size w w9 by rw [hw]; exact B8.out.setCell (p := ⟨w2.heap.size, 1, none⟩) (Nat.le_of_lt hww) _)
  have K9 := Lib.hid (show Bk w9 w.heap.size #[.slice none 0 0, .int .i64 0] 63 by rw [hw]; exact K8.out.other (by show w2.heap.size ≠ _; omega) _)
  have G9 := Lib.hid (show G9 w9 w1.heap.size 104 a00 a01 a02 a10 a11 a12 0 0 1 by rw [hw]; exact G8.out.other (by show w2.heap.size ≠ _; omega) _)
  have N9 := Lib.hid (show Bk w9 (w1.heap.size + 1) #[.int .i64 b0, .int .i64 b1, .int .i64 0] 57 by rw [hw]; exact N8.out.other (by show w2.heap.size ≠ _; omega) _)
  have O9 := Lib.hid (show w9.ownsRow w2.heap.size 3 1 (.slice (some ⟨w2.heap.size, 0, none⟩) 2 2) 2 (intVals [N0, N1]) by rw [hw]; exact ST.out)
  clear hw ST K8 G8 N8
  try rw [rounds_succ]
  go_wp2_with fail
  refine (HR.out d0 _ _ (Sl.of_owns O9.out)).mono ?_
  rintro e w20 ⟨⟨v, rfl, V, rfl, ho⟩, hb⟩
  obtain ⟨va, vc, rfl, _⟩ := ho.shape1
  have B20 := Lib.hid (B9.out.trans (hb.mono B9.out.size))
  obtain ⟨⟨r0, r1⟩, rf0, rf1⟩ := (K9.out.below hb).two
  have HO := Lib.hid ho
  have hlt := K9.out.lt
  clear hb ho
  go_wp2
  have hkp := ((Kept.refl w.heap.size (w.heap.size + 1) w20).setCell (p := ⟨w.heap.size, 0, none⟩) (Nat.le_refl _) (Nat.lt_succ_self _) (.slice va (intVals R.1).length vc)).setCell (p := ⟨w.heap.size, 1, none⟩) (Nat.le_refl _) (Nat.lt_succ_self _) (.int .i64 R.2)
  refine bodyPost_ret (v := .tuple #[.agg #[.slice va (intVals R.1).length vc, .int .i64 R.2], .bool true]) (by simp [results, Try.results51, go_sem, r0, r1]) rfl (met_mk (metQ_some R d0) ⟨⟨_, rfl, ⟨_, rfl, ?_⟩⟩, (B20.out.setCell (p := ⟨w.heap.size, 0, none⟩) (Nat.le_refl _) _).setCell (p := ⟨w.heap.size, 1, none⟩) (Nat.le_refl _) _⟩)
  exact (HO.out.kept hkp (.inr (by omega))).mono (by omega) (by simp [World.setCell])

set_option maxRecDepth 100000 in
set_option maxHeartbeats 8000000 in
theorem i_meet3_p (a00 a01 a02 a10 a11 a12 a20 a21 a22 b0 b1 b2 : Int) (g c : Nat) (R : Hf) (D N0 N1 N2 : Int) (w : World) (hgl : g < w.heap.size)
    (hc : w.cell? ⟨g, 0, none⟩ = some (.int .i64 a00) ∧ w.cell? ⟨g, 1, none⟩ = some (.int .i64 a01) ∧ w.cell? ⟨g, 2, none⟩ = some (.int .i64 a02) ∧ w.cell? ⟨g, 3, none⟩ = some (.int .i64 b0) ∧ w.cell? ⟨g, 4, none⟩ = some (.int .i64 a10) ∧ w.cell? ⟨g, 5, none⟩ = some (.int .i64 a11) ∧ w.cell? ⟨g, 6, none⟩ = some (.int .i64 a12) ∧ w.cell? ⟨g, 7, none⟩ = some (.int .i64 b1) ∧ w.cell? ⟨g, 8, none⟩ = some (.int .i64 a20) ∧ w.cell? ⟨g, 9, none⟩ = some (.int .i64 a21) ∧ w.cell? ⟨g, 10, none⟩ = some (.int .i64 a22) ∧ w.cell? ⟨g, 11, none⟩ = some (.int .i64 b2))
    (hD : ∀ W : World, Calls Try.prog 98 #[.agg #[.int .i64 a00, .int .i64 a01, .int .i64 a02, .int .i64 a10, .int .i64 a11, .int .i64 a12, .int .i64 a20, .int .i64 a21, .int .i64 a22]] W (Quiet W (.int .i64 D)))
    (hN0 : ∀ W : World, Calls Try.prog 98 #[.agg #[.int .i64 b0, .int .i64 a01, .int .i64 a02, .int .i64 b1, .int .i64 a11, .int .i64 a12, .int .i64 b2, .int .i64 a21, .int .i64 a22]] W (Quiet W (.int .i64 N0)))
    (hN1 : ∀ W : World, Calls Try.prog 98 #[.agg #[.int .i64 a00, .int .i64 b0, .int .i64 a02, .int .i64 a10, .int .i64 b1, .int .i64 a12, .int .i64 a20, .int .i64 b2, .int .i64 a22]] W (Quiet W (.int .i64 N1)))
    (hN2 : ∀ W : World, Calls Try.prog 98 #[.agg #[.int .i64 a00, .int .i64 a01, .int .i64 b0, .int .i64 a10, .int .i64 a11, .int .i64 b1, .int .i64 a20, .int .i64 a21, .int .i64 b2]] W (Quiet W (.int .i64 N2)))
    (hR : D ≠ 0 → ∀ (V : Value) (W : World), Sl W V (intVals [N0, N1, N2]) → Calls Try.prog 100 #[V, .int .i64 D] W (MadeHv W R)) :
    Calls Try.prog 51 #[.slice (some ⟨g, 0, none⟩) 3 c] w (MetH w (metQ D R)) := by
  have HC := Lib.hid hc
  have HD := Lib.hid hD
  have HN0 := Lib.hid hN0
  have HN1 := Lib.hid hN1
  have HN2 := Lib.hid hN2
  have HR := Lib.hid hR
  obtain ⟨i0, hi, hz0, hz1, hz2⟩ := info_parts info_int'
  have HI := Lib.hid (And.intro hi (And.intro hz0 (And.intro hz1 hz2)))
  have B0 := Lib.hid (below1 w (.cells #[.slice none 0 0, .int .i64 0] 63))
  have K0 := Lib.hid (Bk.new w #[.slice none 0 0, .int .i64 0] 63)
  clear hc hD hR hi hz0 hz1 hz2 hN0 hN1 hN2
  go_enter Try.func51, Try.ntmps51
  go_wp2_with fail
  refine (i_grid0 _).mono ?_
  rintro e w1 ⟨rfl, hb⟩
  have B1 := Lib.hid (B0.out.trans (hb.mono B0.out.size))
  have K1 := Lib.hid (K0.out.below hb)
  have hs1 : w.heap.size + 1 ≤ w1.heap.size := K1.out.lt
  have hgl1 : g < w1.heap.size := by omega
  have hgn0 : ¬ g = w1.heap.size := by omega
  have hgl2 : g < w1.heap.size + 1 := by omega
  have hgl3 : g < w1.heap.size + 1 + 1 := by omega
  have hgl4 : g < w1.heap.size + 1 + 1 + 1 := by omega
  have hgl5 : g < w1.heap.size + 1 + 1 + 1 + 1 := by omega
  have hgn1 : ¬ g = w1.heap.size + 1 := by omega
  have hgn2 : ¬ g = w1.heap.size + 1 + 1 := by omega
  have hgn3 : ¬ g = w1.heap.size + 1 + 1 + 1 := by omega
  have hgn4 : ¬ g = w1.heap.size + 1 + 1 + 1 + 1 := by omega
  obtain ⟨c0, c1, c2, c3, c4, c5, c6, c7, c8, c9, c10, c11⟩ := HC.out
  rw [← B1.out.cell (p := ⟨g, 0, none⟩) hgl] at c0
  rw [← B1.out.cell (p := ⟨g, 1, none⟩) hgl] at c1
  rw [← B1.out.cell (p := ⟨g, 2, none⟩) hgl] at c2
  rw [← B1.out.cell (p := ⟨g, 3, none⟩) hgl] at c3
  rw [← B1.out.cell (p := ⟨g, 4, none⟩) hgl] at c4
  rw [← B1.out.cell (p := ⟨g, 5, none⟩) hgl] at c5
  rw [← B1.out.cell (p := ⟨g, 6, none⟩) hgl] at c6
  rw [← B1.out.cell (p := ⟨g, 7, none⟩) hgl] at c7
  rw [← B1.out.cell (p := ⟨g, 8, none⟩) hgl] at c8
  rw [← B1.out.cell (p := ⟨g, 9, none⟩) hgl] at c9
  rw [← B1.out.cell (p := ⟨g, 10, none⟩) hgl] at c10
  rw [← B1.out.cell (p := ⟨g, 11, none⟩) hgl] at c11
  clear hb
  go_wp2_with fail
  refine wp_loop_rounds 4 ?_
  rw [rounds_succ]
  go_wp2
  go_region
  go_wp2_with fail
  rw [rounds_succ]
  go_wp2
  go_region
  go_wp2_with fail
  rw [rounds_succ]
  go_wp2
  go_region
  go_wp2_with fail
  rw [rounds_succ]
  go_wp2_with fail
  refine calls_gen ?_
  intro W hW
  have BW := Lib.hid (show Below w1.heap.size w1 W by rw [hW]; repeat (first | with_reducible exact Below.refl _ _ | refine Below.drew ?_ | refine Below.alloc ?_ (by simp <;> omega) _))
  have GW := Lib.hid (show G9 W w1.heap.size 104 a00 a01 a02 a10 a11 a12 a20 a21 a22 by rw [hW]; exact (((((G9.new w1 104 a00 a01 a02 a10 a11 a12 a20 a21 a22).allocd _).allocd _).allocd _).allocd _))
  have NW := Lib.hid (show Bk W (w1.heap.size + 1) #[.int .i64 b0, .int .i64 b1, .int .i64 b2] 57 by rw [hW]; exact ((((Bk.newAt (by simp) #[.int .i64 b0, .int .i64 b1, .int .i64 b2] 57).alloc _).alloc _).alloc _))
  clear hW
  refine (HD.out _).mono ?_
  rintro e w2 ⟨rfl, hb⟩
  have B2 := Lib.hid ((B1.out.trans (BW.out.mono B1.out.size)).trans (hb.mono (Nat.le_trans B1.out.size BW.out.size)))
  have K2 := Lib.hid ((K1.out.below BW.out).below hb)
  have G2 := Lib.hid (GW.out.below hb)
  have N2 := Lib.hid (NW.out.below hb)
  have hs2 : w1.heap.size + 2 ≤ w2.heap.size := N2.out.lt
  clear hb BW GW NW K1
  by_cases d0 : D = 0
  · subst d0
    obtain ⟨⟨r0, r1⟩, rf0, rf1⟩ := K2.out.two
    go_wp2
    have hkp := ((Kept.refl w.heap.size (w.heap.size + 1) w2).setCell (p := ⟨w.heap.size, 0, none⟩) (Nat.le_refl _) (Nat.lt_succ_self _) (.slice none 0 0)).setCell (p := ⟨w.heap.size, 1, none⟩) (Nat.le_refl _) (Nat.lt_succ_self _) (.int .i64 0)
    exact bodyPost_ret (v := .tuple #[.agg #[.slice none 0 0, .int .i64 0], .bool false]) (by simp [results, Try.results51, go_sem, r0, r1]) rfl (met_mk (metQ_zero R) ⟨⟨_, rfl, ⟨_, rfl, OwnV.nil⟩⟩, (B2.out.setCell (p := ⟨w.heap.size, 0, none⟩) (Nat.le_refl _) _).setCell (p := ⟨w.heap.size, 1, none⟩) (Nat.le_refl _) _⟩)
  have de : (D == 0) = false := by rw [beq_eq_false_iff_ne]; exact d0
  go_wp2_with (at_make; refine wpList_make_full _ rfl _ _ 46 rfl w2.heap.size 3 i0 _ 1 Try.underlying46 HI.out.1 HI.out.2.1 HI.out.2.2.1 .i64 .i64 _ _ 3 rfl rfl rfl rfl (by rw [HI.out.2.2.2]; omega) (by unfold maxLen; omega) (Nat.le_refl _) ?_; intro w3 hown hgrow)
  have hb : Below w2.heap.size w2 w3 := (Below.refl _ _).grown hgrow (Nat.le_refl _) (fun _ h => by cases h)
  rw [show (Value.int .i64 0).cells = #[Value.int .i64 0] from rfl, toList_madeCells_one] at hown
  have O3 := Lib.hid (show w3.ownsRow w2.heap.size 3 1 (.slice (some ⟨w2.heap.size, 0, none⟩) 3 3) 3 (intVals [0, 0, 0]) from hown)
  have B3 := Lib.hid (B2.out.trans (hb.mono B2.out.size))
  have K3 := Lib.hid (K2.out.below hb)
  have G3 := Lib.hid (G2.out.below hb)
  have N3 := Lib.hid (N2.out.below hb)
  have hs3 : w2.heap.size < w3.heap.size := (hown.lt _ rfl).2
  clear hown hgrow hb K2 G2 N2
  have hww : w.heap.size < w2.heap.size := by omega
  refine wp_loop_rounds 4 ?_
  try rw [rounds_succ]
  obtain ⟨⟨k0, k1, k2⟩, ⟨k3, k4, k5⟩, k6, k7, k8⟩ := G3.out.cells
  obtain ⟨n0, n1, n2⟩ := N3.out.c3v
  go_wp2_with fail
  refine (i_wcol0 a00 a01 a02 a10 a11 a12 a20 a21 a22 b0 b1 b2 _).mono ?_
  rintro e w4 ⟨rfl, hb⟩
  have B4 := Lib.hid (B3.out.trans (hb.mono B3.out.size))
  have K4 := Lib.hid (K3.out.below hb)
  have G4 := Lib.hid (G3.out.below hb)
  have N4 := Lib.hid (N3.out.below hb)
  have O4 := Lib.hid (owns_below O3.out hb)
  clear hb k0 k1 k2 k3 k4 k5 k6 k7 k8 n0 n1 n2 K3 G3 N3 O3
  go_wp2_with fail
  refine (HN0.out _).mono ?_
  rintro e w5 ⟨rfl, hb⟩
  have B5 := Lib.hid (B4.out.trans (hb.mono B4.out.size))
  have K5 := Lib.hid (K4.out.below hb)
  have G5 := Lib.hid (G4.out.below hb)
  have N5 := Lib.hid (N4.out.below hb)
  have ho := owns_below O4.out hb
  have hmine := ho.cellAt 0 (by omega)
  rw [show (intVals [0, 0, 0])[0]? = some (.int .i64 0) from rfl] at hmine
  have hfree := ho.frozenAt 0
  have ST := Lib.hid (show (w5.setCell ⟨w2.heap.size, 0, none⟩ (.int .i64 N0)).ownsRow w2.heap.size 3 1 (.slice (some ⟨w2.heap.size, 0, none⟩) 3 3) 3 (intVals [N0, 0, 0]) from (ho.stored 0 (.int .i64 N0)).1)
  clear hb ho K4 G4 N4 O4
  go_wp2_with fail
  clear hmine hfree
  refine wgenv ?_
  intro w6 hw
  have B6 := Lib.hid (show Below w.heap.size w w6 by rw [hw]; exact B5.out.setCell (p := ⟨w2.heap.size, 0, none⟩) (Nat.le_of_lt hww) _)
  have K6 := Lib.hid (show Bk w6 w.heap.size #[.slice none 0 0, .int .i64 0] 63 by rw [hw]; exact K5.out.other (by show w2.heap.size ≠ _; omega) _)
  have G6 := Lib.hid (show G9 w6 w1.heap.size 104 a00 a01 a02 a10 a11 a12 a20 a21 a22 by rw [hw]; exact G5.out.other (by show w2.heap.size ≠ _; omega) _)
  have N6 := Lib.hid (show Bk w6 (w1.heap.size + 1) #[.int .i64 b0, .int .i64 b1, .int .i64 b2] 57 by rw [hw]; exact N5.out.other (by show w2.heap.size ≠ _; omega) _)
  have O6 := Lib.hid (show w6.ownsRow w2.heap.size 3 1 (.slice (some ⟨w2.heap.size, 0, none⟩) 3 3) 3 (intVals [N0, 0, 0]) by rw [hw]; exact ST.out)
  clear hw ST K5 G5 N5
  try rw [rounds_succ]
  obtain ⟨⟨k0, k1, k2⟩, ⟨k3, k4, k5⟩, k6, k7, k8⟩ := G6.out.cells
  obtain ⟨n0, n1, n2⟩ := N6.out.c3v
  go_wp2_with fail
  refine (i_wcol1 a00 a01 a02 a10 a11 a12 a20 a21 a22 b0 b1 b2 _).mono ?_
  rintro e w7 ⟨rfl, hb⟩
  have B7 := Lib.hid (B6.out.trans (hb.mono B6.out.size))
  have K7 := Lib.hid (K6.out.below hb)
  have G7 := Lib.hid (G6.out.below hb)
  have N7 := Lib.hid (N6.out.below hb)
  have O7 := Lib.hid (owns_below O6.out hb)
  clear hb k0 k1 k2 k3 k4 k5 k6 k7 k8 n0 n1 n2 K6 G6 N6 O6
  go_wp2_with fail
  refine (HN1.out _).mono ?_
  rintro e w8 ⟨rfl, hb⟩
  have B8 := Lib.hid (B7.out.trans (hb.mono B7.out.size))
  have K8 := Lib.hid (K7.out.below hb)
  have G8 := Lib.hid (G7.out.below hb)
  have N8 := Lib.hid (N7.out.below hb)
  have ho := owns_below O7.out hb
  have hmine := ho.cellAt 1 (by omega)
  rw [show (intVals [N0, 0, 0])[1]? = some (.int .i64 0) from rfl] at hmine
  have hfree := ho.frozenAt 1
  have ST := Lib.hid (show (w8.setCell ⟨w2.heap.size, 1, none⟩ (.int .i64 N1)).ownsRow w2.heap.size 3 1 (.slice (some ⟨w2.heap.size, 0, none⟩) 3 3) 3 (intVals [N0, N1, 0]) from (ho.stored 1 (.int .i64 N1)).1)
  clear hb ho K7 G7 N7 O7
  go_wp2_with fail
  clear hmine hfree
  refine wgenv ?_
  intro w9 hw
  have B9 := Lib.hid (show Below w.heap.size w w9 by rw [hw]; exact B8.out.setCell (p := ⟨w2.heap.size, 1, none⟩) (Nat.le_of_lt hww) _)
  have K9 := Lib.hid (show Bk w9 w.heap.size #[.slice none 0 0, .int .i64 0] 63 by rw [hw]; exact K8.out.other (by show w2.heap.size ≠ _; omega) _)
  have G9 := Lib.hid (show G9 w9 w1.heap.size 104 a00 a01 a02 a10 a11 a12 a20 a21 a22 by rw [hw]; exact G8.out.other (by show w2.heap.size ≠ _; omega) _)
  have N9 := Lib.hid (show Bk w9 (w1.heap.size + 1) #[.int .i64 b0, .int .i64 b1, .int .i64 b2] 57 by rw [hw]; exact N8.out.other (by show w2.heap.size ≠ _; omega) _)
  have O9 := Lib.hid (show w9.ownsRow w2.heap.size 3 1 (.slice (some ⟨w2.heap.size, 0, none⟩) 3 3) 3 (intVals [N0, N1, 0]) by rw [hw]; exact ST.out)
  clear hw ST K8 G8 N8
  try rw [rounds_succ]
  obtain ⟨⟨k0, k1, k2⟩, ⟨k3, k4, k5⟩, k6, k7, k8⟩ := G9.out.cells
  obtain ⟨n0, n1, n2⟩ := N9.out.c3v
  go_wp2_with fail
  refine (i_wcol2 a00 a01 a02 a10 a11 a12 a20 a21 a22 b0 b1 b2 _).mono ?_
  rintro e w10 ⟨rfl, hb⟩
  have B10 := Lib.hid (B9.out.trans (hb.mono B9.out.size))
  have K10 := Lib.hid (K9.out.below hb)
  have G10 := Lib.hid (G9.out.below hb)
  have N10 := Lib.hid (N9.out.below hb)
  have O10 := Lib.hid (owns_below O9.out hb)
  clear hb k0 k1 k2 k3 k4 k5 k6 k7 k8 n0 n1 n2 K9 G9 N9 O9
  go_wp2_with fail
  refine (HN2.out _).mono ?_
  rintro e w11 ⟨rfl, hb⟩
  have B11 := Lib.hid (B10.out.trans (hb.mono B10.out.size))
  have K11 := Lib.hid (K10.out.below hb)
  have G11 := Lib.hid (G10.out.below hb)
  have N11 := Lib.hid (N10.out.below hb)
  have ho := owns_below O10.out hb
  have hmine := ho.cellAt 2 (by omega)
  rw [show (intVals [N0, N1, 0])[2]? = some (.int .i64 0) from rfl] at hmine
  have hfree := ho.frozenAt 2
  have ST := Lib.hid (show (w11.setCell ⟨w2.heap.size, 2, none⟩ (.int .i64 N2)).ownsRow w2.heap.size 3 1 (.slice (some ⟨w2.heap.size, 0, none⟩) 3 3) 3 (intVals [N0, N1, N2]) from (ho.stored 2 (.int .i64 N2)).1)
  clear hb ho K10 G10 N10 O10
  go_wp2_with fail
  clear hmine hfree
  refine wgenv ?_
  intro w12 hw
  have B12 := Lib.hid (show Below w.heap.size w w12 by rw [hw]; exact B11.out.setCell (p := ⟨w2.heap.size, 2, none⟩) (Nat.le_of_lt hww) _)
  have K12 := Lib.hid (show Bk w12 w.heap.size #[.slice none 0 0, .int .i64 0] 63 by rw [hw]; exact K11.out.other (by show w2.heap.size ≠ _; omega) _)
  have G12 := Lib.hid (show G9 w12 w1.heap.size 104 a00 a01 a02 a10 a11 a12 a20 a21 a22 by rw [hw]; exact G11.out.other (by show w2.heap.size ≠ _; omega) _)
  have N12 := Lib.hid (show Bk w12 (w1.heap.size + 1) #[.int .i64 b0, .int .i64 b1, .int .i64 b2] 57 by rw [hw]; exact N11.out.other (by show w2.heap.size ≠ _; omega) _)
  have O12 := Lib.hid (show w12.ownsRow w2.heap.size 3 1 (.slice (some ⟨w2.heap.size, 0, none⟩) 3 3) 3 (intVals [N0, N1, N2]) by rw [hw]; exact ST.out)
  clear hw ST K11 G11 N11
  try rw [rounds_succ]
  go_wp2_with fail
  refine (HR.out d0 _ _ (Sl.of_owns O12.out)).mono ?_
  rintro e w20 ⟨⟨v, rfl, V, rfl, ho⟩, hb⟩
  obtain ⟨va, vc, rfl, _⟩ := ho.shape1
  have B20 := Lib.hid (B12.out.trans (hb.mono B12.out.size))
  obtain ⟨⟨r0, r1⟩, rf0, rf1⟩ := (K12.out.below hb).two
  have HO := Lib.hid ho
  have hlt := K12.out.lt
  clear hb ho
  go_wp2
  have hkp := ((Kept.refl w.heap.size (w.heap.size + 1) w20).setCell (p := ⟨w.heap.size, 0, none⟩) (Nat.le_refl _) (Nat.lt_succ_self _) (.slice va (intVals R.1).length vc)).setCell (p := ⟨w.heap.size, 1, none⟩) (Nat.le_refl _) (Nat.lt_succ_self _) (.int .i64 R.2)
  refine bodyPost_ret (v := .tuple #[.agg #[.slice va (intVals R.1).length vc, .int .i64 R.2], .bool true]) (by simp [results, Try.results51, go_sem, r0, r1]) rfl (met_mk (metQ_some R d0) ⟨⟨_, rfl, ⟨_, rfl, ?_⟩⟩, (B20.out.setCell (p := ⟨w.heap.size, 0, none⟩) (Nat.le_refl _) _).setCell (p := ⟨w.heap.size, 1, none⟩) (Nat.le_refl _) _⟩)
  exact (HO.out.kept hkp (.inr (by omega))).mono (by omega) (by simp [World.setCell])
end Go.Proofs.Ytckpifcdlmfabaa
/- The program's meetingPoint of up to three halves. -/
namespace Go.Proofs.Ytckpifcdlmfabaa
open Go Go.RowKit Go.Lib

theorem det_small {m : List (List Int)} (h : Sq 3 200 m) : -48000000 ≤ detL m ∧ detL m ≤ 48000000 := by
  obtain ⟨a, b, c, d, e, f, g, i, j, rfl, ha, hb, hc, hd, he, hf, hg, hi, hj⟩ := sq3 h
  have p1 := det_part2 ha (cross_bd2 he hj hf hi)
  have p2 := det_part2 hb (cross_bd2 hf hg hd hj)
  have p3 := det_part2 hc (cross_bd2 hd hi he hg)
  simp only [detL]
  omega

set_option maxRecDepth 100000 in
set_option maxHeartbeats 1600000 in
theorem i_meet1 (x00 b0 : Int) (g c lo hi : Nat) (w : World) (hv : OwF 59 lo hi w (.slice (some ⟨g, 0, none⟩) 1 c) [([x00], b0)])
    (ex00 : -200 ≤ x00 ∧ x00 ≤ 200) (eb0 : -200 ≤ b0 ∧ b0 ≤ 200) :
    Calls Try.prog 51 #[.slice (some ⟨g, 0, none⟩) 1 c] w (MetH w (solveQ [([x00], b0)])) := by
  obtain ⟨g0, h0, -, -, gl0, -, ⟨p00, p01, p02, p03⟩, -⟩ := hv.at 0 (by simp) rfl
  simp only [Option.some.injEq, Addr.mk.injEq, and_true] at h0
  subst h0
  have hz : -200 ≤ (0 : Int) ∧ (0 : Int) ≤ 200 := by omega
  have ho : -200 ≤ (1 : Int) ∧ (1 : Int) ≤ 200 := by omega
  have SD : Sq 3 200 [[x00, 0, 0], [0, 1, 0], [0, 0, 1]] := sq3_mk (bd3 ex00 hz hz) (bd3 hz ho hz) (bd3 hz hz ho)
  have S0 : Sq 3 200 [[b0, 0, 0], [0, 1, 0], [0, 0, 1]] := sq3_mk (bd3 eb0 hz hz) (bd3 hz ho hz) (bd3 hz hz ho)
  have ED : detL [[x00, 0, 0], [0, 1, 0], [0, 0, 1]] = denQ [([x00], b0)] := by simp [denQ, normL, detL]
  have E0 : detL [[b0, 0, 0], [0, 1, 0], [0, 0, 1]] = detL (colM [([x00], b0)] 0) := by simp [colM, detL]
  have EN : numQ [([x00], b0)] = [detL [[b0, 0, 0], [0, 1, 0], [0, 0, 1]]] := by rw [E0]; rfl
  have ES : solveQ [([x00], b0)] = metQ (denQ [([x00], b0)]) (redQ (numQ [([x00], b0)]) (denQ [([x00], b0)])) := rfl
  have bD := det_small SD
  have q0 := det_small S0
  rw [ES]
  rw [ED] at bD
  refine i_meet1_p x00 0 0 b0 g c _ (denQ [([x00], b0)]) (detL [[b0, 0, 0], [0, 1, 0], [0, 0, 1]]) w gl0 ⟨p00, p01, p02, p03⟩ (fun W => by rw [← ED]; exact i_det2 x00 0 0 0 1 0 0 0 1 SD W) (fun W => i_det2 b0 0 0 0 1 0 0 0 1 S0 W) (fun hd V W hV => i_reduced _ _ (by rw [EN]; simp) hd (by rw [EN]; simp) ?_ (by omega) V W (by rw [EN]; exact hV))
  rw [EN]
  intro i hi
  simp only [List.length_cons, List.length_nil] at hi
  have hi2 : i = 0 := by omega
  subst hi2
  simp only [List.getElem_cons_zero]; omega

set_option maxRecDepth 100000 in
set_option maxHeartbeats 1600000 in
theorem i_meet2 (x00 x01 x10 x11 b0 b1 : Int) (g c lo hi : Nat) (w : World) (hv : OwF 59 lo hi w (.slice (some ⟨g, 0, none⟩) 2 c) [([x00, x01], b0), ([x10, x11], b1)])
    (ex00 : -200 ≤ x00 ∧ x00 ≤ 200) (ex01 : -200 ≤ x01 ∧ x01 ≤ 200) (ex10 : -200 ≤ x10 ∧ x10 ≤ 200) (ex11 : -200 ≤ x11 ∧ x11 ≤ 200) (eb0 : -200 ≤ b0 ∧ b0 ≤ 200) (eb1 : -200 ≤ b1 ∧ b1 ≤ 200) :
    Calls Try.prog 51 #[.slice (some ⟨g, 0, none⟩) 2 c] w (MetH w (solveQ [([x00, x01], b0), ([x10, x11], b1)])) := by
  obtain ⟨g0, h0, -, -, gl0, -, ⟨p00, p01, p02, p03⟩, -⟩ := hv.at 0 (by simp) rfl
  simp only [Option.some.injEq, Addr.mk.injEq, and_true] at h0
  subst h0
  obtain ⟨g1, h1, -, -, gl1, -, ⟨p10, p11, p12, p13⟩, -⟩ := hv.at 1 (by simp) rfl
  simp only [Option.some.injEq, Addr.mk.injEq, and_true] at h1
  subst h1
  have hz : -200 ≤ (0 : Int) ∧ (0 : Int) ≤ 200 := by omega
  have ho : -200 ≤ (1 : Int) ∧ (1 : Int) ≤ 200 := by omega
  have SD : Sq 3 200 [[x00, x01, 0], [x10, x11, 0], [0, 0, 1]] := sq3_mk (bd3 ex00 ex01 hz) (bd3 ex10 ex11 hz) (bd3 hz hz ho)
  have S0 : Sq 3 200 [[b0, x01, 0], [b1, x11, 0], [0, 0, 1]] := sq3_mk (bd3 eb0 ex01 hz) (bd3 eb1 ex11 hz) (bd3 hz hz ho)
  have S1 : Sq 3 200 [[x00, b0, 0], [x10, b1, 0], [0, 0, 1]] := sq3_mk (bd3 ex00 eb0 hz) (bd3 ex10 eb1 hz) (bd3 hz hz ho)
  have ED : detL [[x00, x01, 0], [x10, x11, 0], [0, 0, 1]] = denQ [([x00, x01], b0), ([x10, x11], b1)] := by simp [denQ, normL, detL]; grind
  have E0 : detL [[b0, x01, 0], [b1, x11, 0], [0, 0, 1]] = detL (colM [([x00, x01], b0), ([x10, x11], b1)] 0) := by simp [colM, detL]; grind
  have E1 : detL [[x00, b0, 0], [x10, b1, 0], [0, 0, 1]] = detL (colM [([x00, x01], b0), ([x10, x11], b1)] 1) := by simp [colM, detL]; grind
  have EN : numQ [([x00, x01], b0), ([x10, x11], b1)] = [detL [[b0, x01, 0], [b1, x11, 0], [0, 0, 1]], detL [[x00, b0, 0], [x10, b1, 0], [0, 0, 1]]] := by rw [E0, E1]; rfl
  have ES : solveQ [([x00, x01], b0), ([x10, x11], b1)] = metQ (denQ [([x00, x01], b0), ([x10, x11], b1)]) (redQ (numQ [([x00, x01], b0), ([x10, x11], b1)]) (denQ [([x00, x01], b0), ([x10, x11], b1)])) := rfl
  have bD := det_small SD
  have q0 := det_small S0
  have q1 := det_small S1
  rw [ES]
  rw [ED] at bD
  refine i_meet2_p x00 x01 0 x10 x11 0 b0 b1 g c _ (denQ [([x00, x01], b0), ([x10, x11], b1)]) (detL [[b0, x01, 0], [b1, x11, 0], [0, 0, 1]]) (detL [[x00, b0, 0], [x10, b1, 0], [0, 0, 1]]) w gl0 ⟨p00, p01, p02, p03, p10, p11, p12, p13⟩ (fun W => by rw [← ED]; exact i_det2 x00 x01 0 x10 x11 0 0 0 1 SD W) (fun W => i_det2 b0 x01 0 b1 x11 0 0 0 1 S0 W) (fun W => i_det2 x00 b0 0 x10 b1 0 0 0 1 S1 W) (fun hd V W hV => i_reduced _ _ (by rw [EN]; simp) hd (by rw [EN]; simp) ?_ (by omega) V W (by rw [EN]; exact hV))
  rw [EN]
  intro i hi
  simp only [List.length_cons, List.length_nil] at hi
  have hi2 : i = 0 ∨ i = 1 := by omega
  rcases hi2 with rfl | rfl
  · simp only [List.getElem_cons_zero, List.getElem_cons_succ]; omega
  · simp only [List.getElem_cons_zero, List.getElem_cons_succ]; omega

set_option maxRecDepth 100000 in
set_option maxHeartbeats 1600000 in
theorem i_meet3 (x00 x01 x02 x10 x11 x12 x20 x21 x22 b0 b1 b2 : Int) (g c lo hi : Nat) (w : World) (hv : OwF 59 lo hi w (.slice (some ⟨g, 0, none⟩) 3 c) [([x00, x01, x02], b0), ([x10, x11, x12], b1), ([x20, x21, x22], b2)])
    (ex00 : -200 ≤ x00 ∧ x00 ≤ 200) (ex01 : -200 ≤ x01 ∧ x01 ≤ 200) (ex02 : -200 ≤ x02 ∧ x02 ≤ 200) (ex10 : -200 ≤ x10 ∧ x10 ≤ 200) (ex11 : -200 ≤ x11 ∧ x11 ≤ 200) (ex12 : -200 ≤ x12 ∧ x12 ≤ 200) (ex20 : -200 ≤ x20 ∧ x20 ≤ 200) (ex21 : -200 ≤ x21 ∧ x21 ≤ 200) (ex22 : -200 ≤ x22 ∧ x22 ≤ 200) (eb0 : -200 ≤ b0 ∧ b0 ≤ 200) (eb1 : -200 ≤ b1 ∧ b1 ≤ 200) (eb2 : -200 ≤ b2 ∧ b2 ≤ 200) :
    Calls Try.prog 51 #[.slice (some ⟨g, 0, none⟩) 3 c] w (MetH w (solveQ [([x00, x01, x02], b0), ([x10, x11, x12], b1), ([x20, x21, x22], b2)])) := by
  obtain ⟨g0, h0, -, -, gl0, -, ⟨p00, p01, p02, p03⟩, -⟩ := hv.at 0 (by simp) rfl
  simp only [Option.some.injEq, Addr.mk.injEq, and_true] at h0
  subst h0
  obtain ⟨g1, h1, -, -, gl1, -, ⟨p10, p11, p12, p13⟩, -⟩ := hv.at 1 (by simp) rfl
  simp only [Option.some.injEq, Addr.mk.injEq, and_true] at h1
  subst h1
  obtain ⟨g2, h2, -, -, gl2, -, ⟨p20, p21, p22, p23⟩, -⟩ := hv.at 2 (by simp) rfl
  simp only [Option.some.injEq, Addr.mk.injEq, and_true] at h2
  subst h2
  have hz : -200 ≤ (0 : Int) ∧ (0 : Int) ≤ 200 := by omega
  have ho : -200 ≤ (1 : Int) ∧ (1 : Int) ≤ 200 := by omega
  have SD : Sq 3 200 [[x00, x01, x02], [x10, x11, x12], [x20, x21, x22]] := sq3_mk (bd3 ex00 ex01 ex02) (bd3 ex10 ex11 ex12) (bd3 ex20 ex21 ex22)
  have S0 : Sq 3 200 [[b0, x01, x02], [b1, x11, x12], [b2, x21, x22]] := sq3_mk (bd3 eb0 ex01 ex02) (bd3 eb1 ex11 ex12) (bd3 eb2 ex21 ex22)
  have S1 : Sq 3 200 [[x00, b0, x02], [x10, b1, x12], [x20, b2, x22]] := sq3_mk (bd3 ex00 eb0 ex02) (bd3 ex10 eb1 ex12) (bd3 ex20 eb2 ex22)
  have S2 : Sq 3 200 [[x00, x01, b0], [x10, x11, b1], [x20, x21, b2]] := sq3_mk (bd3 ex00 ex01 eb0) (bd3 ex10 ex11 eb1) (bd3 ex20 ex21 eb2)
  have ED : detL [[x00, x01, x02], [x10, x11, x12], [x20, x21, x22]] = denQ [([x00, x01, x02], b0), ([x10, x11, x12], b1), ([x20, x21, x22], b2)] := by simp [denQ, normL, detL]
  have E0 : detL [[b0, x01, x02], [b1, x11, x12], [b2, x21, x22]] = detL (colM [([x00, x01, x02], b0), ([x10, x11, x12], b1), ([x20, x21, x22], b2)] 0) := by simp [colM, detL]
  have E1 : detL [[x00, b0, x02], [x10, b1, x12], [x20, b2, x22]] = detL (colM [([x00, x01, x02], b0), ([x10, x11, x12], b1), ([x20, x21, x22], b2)] 1) := by simp [colM, detL]
  have E2 : detL [[x00, x01, b0], [x10, x11, b1], [x20, x21, b2]] = detL (colM [([x00, x01, x02], b0), ([x10, x11, x12], b1), ([x20, x21, x22], b2)] 2) := by simp [colM, detL]
  have EN : numQ [([x00, x01, x02], b0), ([x10, x11, x12], b1), ([x20, x21, x22], b2)] = [detL [[b0, x01, x02], [b1, x11, x12], [b2, x21, x22]], detL [[x00, b0, x02], [x10, b1, x12], [x20, b2, x22]], detL [[x00, x01, b0], [x10, x11, b1], [x20, x21, b2]]] := by rw [E0, E1, E2]; rfl
  have ES : solveQ [([x00, x01, x02], b0), ([x10, x11, x12], b1), ([x20, x21, x22], b2)] = metQ (denQ [([x00, x01, x02], b0), ([x10, x11, x12], b1), ([x20, x21, x22], b2)]) (redQ (numQ [([x00, x01, x02], b0), ([x10, x11, x12], b1), ([x20, x21, x22], b2)]) (denQ [([x00, x01, x02], b0), ([x10, x11, x12], b1), ([x20, x21, x22], b2)])) := rfl
  have bD := det_small SD
  have q0 := det_small S0
  have q1 := det_small S1
  have q2 := det_small S2
  rw [ES]
  rw [ED] at bD
  refine i_meet3_p x00 x01 x02 x10 x11 x12 x20 x21 x22 b0 b1 b2 g c _ (denQ [([x00, x01, x02], b0), ([x10, x11, x12], b1), ([x20, x21, x22], b2)]) (detL [[b0, x01, x02], [b1, x11, x12], [b2, x21, x22]]) (detL [[x00, b0, x02], [x10, b1, x12], [x20, b2, x22]]) (detL [[x00, x01, b0], [x10, x11, b1], [x20, x21, b2]]) w gl0 ⟨p00, p01, p02, p03, p10, p11, p12, p13, p20, p21, p22, p23⟩ (fun W => by rw [← ED]; exact i_det2 x00 x01 x02 x10 x11 x12 x20 x21 x22 SD W) (fun W => i_det2 b0 x01 x02 b1 x11 x12 b2 x21 x22 S0 W) (fun W => i_det2 x00 b0 x02 x10 b1 x12 x20 b2 x22 S1 W) (fun W => i_det2 x00 x01 b0 x10 x11 b1 x20 x21 b2 S2 W) (fun hd V W hV => i_reduced _ _ (by rw [EN]; simp) hd (by rw [EN]; simp) ?_ (by omega) V W (by rw [EN]; exact hV))
  rw [EN]
  intro i hi
  simp only [List.length_cons, List.length_nil] at hi
  have hi2 : i = 0 ∨ i = 1 ∨ i = 2 := by omega
  rcases hi2 with rfl | rfl | rfl
  · simp only [List.getElem_cons_zero, List.getElem_cons_succ]; omega
  · simp only [List.getElem_cons_zero, List.getElem_cons_succ]; omega
  · simp only [List.getElem_cons_zero, List.getElem_cons_succ]; omega

/-- What is known of halves that were chosen. -/
def ChOk (n : Nat) (ch : List Hf) : Prop := ch.length = n ∧ ∀ h ∈ ch, h.1.length = n ∧ Bd h.1 200 ∧ -200 ≤ h.2 ∧ h.2 ≤ 200
theorem i_meeting (n : Nat) (ch : List Hf) (h1 : 1 ≤ n) (h3 : n ≤ 3) (hc : ChOk n ch) (g c lo hi : Nat) (w : World) (hv : OwF 59 lo hi w (.slice (some ⟨g, 0, none⟩) ch.length c) ch) :
    Calls Try.prog 51 #[.slice (some ⟨g, 0, none⟩) ch.length c] w (MetH w (solveQ ch)) := by
  obtain ⟨hl, hm⟩ := hc
  have hn : n = 1 ∨ n = 2 ∨ n = 3 := by omega
  rcases hn with rfl | rfl | rfl
  · obtain ⟨u0, rfl⟩ := list1 hl
    obtain ⟨v0, b0⟩ := u0
    obtain ⟨l0, d0, c0⟩ := hm (v0, b0) (by simp)
    simp only at l0 d0 c0
    obtain ⟨x00, rfl⟩ := list1 l0
    have k0 := d0 0 (by simp)
    simp only [List.getElem_cons_zero] at k0
    exact i_meet1 x00 b0 g c lo hi w hv k0 c0
  · obtain ⟨u0, u1, rfl⟩ := list2 hl
    obtain ⟨v0, b0⟩ := u0
    obtain ⟨v1, b1⟩ := u1
    obtain ⟨l0, d0, c0⟩ := hm (v0, b0) (by simp)
    obtain ⟨l1, d1, c1⟩ := hm (v1, b1) (by simp)
    simp only at l0 d0 c0 l1 d1 c1
    obtain ⟨x00, x01, rfl⟩ := list2 l0
    obtain ⟨x10, x11, rfl⟩ := list2 l1
    have k00 := d0 0 (by simp)
    have k01 := d0 1 (by simp)
    have k10 := d1 0 (by simp)
    have k11 := d1 1 (by simp)
    simp only [List.getElem_cons_zero, List.getElem_cons_succ] at k00 k01 k10 k11
    exact i_meet2 x00 x01 x10 x11 b0 b1 g c lo hi w hv k00 k01 k10 k11 c0 c1
  · obtain ⟨u0, u1, u2, rfl⟩ := list3 hl
    obtain ⟨v0, b0⟩ := u0
    obtain ⟨v1, b1⟩ := u1
    obtain ⟨v2, b2⟩ := u2
    obtain ⟨l0, d0, c0⟩ := hm (v0, b0) (by simp)
    obtain ⟨l1, d1, c1⟩ := hm (v1, b1) (by simp)
    obtain ⟨l2, d2, c2⟩ := hm (v2, b2) (by simp)
    simp only at l0 d0 c0 l1 d1 c1 l2 d2 c2
    obtain ⟨x00, x01, x02, rfl⟩ := list3 l0
    obtain ⟨x10, x11, x12, rfl⟩ := list3 l1
    obtain ⟨x20, x21, x22, rfl⟩ := list3 l2
    have k00 := d0 0 (by simp)
    have k01 := d0 1 (by simp)
    have k02 := d0 2 (by simp)
    have k10 := d1 0 (by simp)
    have k11 := d1 1 (by simp)
    have k12 := d1 2 (by simp)
    have k20 := d2 0 (by simp)
    have k21 := d2 1 (by simp)
    have k22 := d2 2 (by simp)
    simp only [List.getElem_cons_zero, List.getElem_cons_succ] at k00 k01 k02 k10 k11 k12 k20 k21 k22
    exact i_meet3 x00 x01 x02 x10 x11 x12 x20 x21 x22 b0 b1 b2 g c lo hi w hv k00 k01 k02 k10 k11 k12 k20 k21 k22 c0 c1 c2
end Go.Proofs.Ytckpifcdlmfabaa
/- The model's l6Solve: where halves meet. -/
namespace Go.Proofs.Ytckpifcdlmfabaa
open Go Go.RowKit Go.Lib

/-- append(rows, row) where the row may be of any memory. -/
theorem list_app_slv {ops : Array Oper} {rest : List Oper} {o : Oper} {a : Act} {w : World} {Q : Exit → Act → World → Prop} (hgd : o.guard = none) (s x : Operand)
    (ho : o.op = .call { callee := .builtin .append, args := #[s, x], argTypes := #[38, 38] })
    (base : Nat) (v u : Value) (us : List Value) (hs : a.eval s = v) (hown : w.ownsRow base 46 1 v us.length us) (hu : u.oneCell' = true)
    (H : Nat) (hx : a.eval x = .slice (some ⟨H, 0, none⟩) 1 1) (hnew : w.heap[H]? = some (.cells #[u] 46 (0, 0)))
    (hn : us.length ≤ 1099511627776) (hbase : base ≤ w.heap.size)
    (h : ∀ g cap w', w'.ownsRow base 46 1 (.slice (some ⟨g, 0, none⟩) (us.length + 1) cap) (us.length + 1) (us ++ [u]) → Below base w w' → wpList Try.prog ops Q rest (a.put o.dst (.slice (some ⟨g, 0, none⟩) (us.length + 1) cap)) w') :
    wpList Try.prog ops Q (o :: rest) a w := by
  obtain ⟨i0, hi, hz0, hz1, hz2⟩ := info_parts info_row
  refine wpList_append_lies w hgd s x 38 ho base 46 i0 _ 1 24 Try.underlying38 hi hz0 hz1 hz2 rfl (by omega) v us.length us hs hown ⟨H, 0, none⟩ 1 1 [u] hx rfl (World.news_of_block (cs := #[u]) hnew) (fun q hq => by rw [List.mem_singleton.1 hq]; exact hu) (by omega) (by unfold maxLen; omega) (by omega) hbase w.heap.size rfl ?_
  intro g cap w' h1 h2 h3 h4
  refine h g cap w' h1 ((Below.refl base w).grown h2 hbase ?_)
  intro k hk
  exact (hown.lt k hk).1
/-- append(row, ys...) at a plain list of operations: the source any slice that reads as a list with a number at least. -/
theorem list_app_sv {ops : Array Oper} {rest : List Oper} {o : Oper} {a : Act} {w : World} {Q : Exit → Act → World → Prop} (hgd : o.guard = none) (s x : Operand)
    (ho : o.op = .call { callee := .builtin .append, args := #[s, x], argTypes := #[46, 46] })
    (base : Nat) (v : Value) (xs ys : List Int) (u : Value) (hs : a.eval s = v) (hown : w.ownsRow base 3 1 v xs.length (intVals xs))
    (hx : a.eval x = u) (hu : Sl w u (intVals ys)) (h0 : 0 < ys.length)
    (hn : xs.length + ys.length ≤ 1099511627776) (hbase : base ≤ w.heap.size)
    (h : ∀ g cap w', w'.ownsRow base 3 1 (.slice (some ⟨g, 0, none⟩) (xs ++ ys).length cap) (xs ++ ys).length (intVals (xs ++ ys)) → Below base w w' → wpList Try.prog ops Q rest (a.put o.dst (.slice (some ⟨g, 0, none⟩) (xs ++ ys).length cap)) w') :
    wpList Try.prog ops Q (o :: rest) a w := by
  obtain ⟨i0, hi, hz0, hz1, hz2⟩ := info_parts info_int'
  have happ : intVals (xs ++ ys) = intVals xs ++ intVals ys := by simp [intVals]
  obtain ⟨ad, c, rfl, _, hopen⟩ := hu.shape
  rw [intVals_len] at hopen hx hu
  obtain ⟨b, off, rfl, hc, hlt, hcell⟩ := hopen h0
  obtain ⟨hl, hc2⟩ := hu.addr
  refine wpList_append_own w hgd s x 46 ho base 3 i0 _ 1 8 Try.underlying46 hi hz0 hz1 hz2 rfl (by omega) v xs.length _ hs hown ⟨b, off, none⟩ ys.length c (intVals ys) hx (by rw [hl, Nat.mul_one]) hc2 (by intro q hq; obtain ⟨z, _, rfl⟩ := List.mem_map.1 hq; rfl) (by unfold maxLen; omega) (by omega) hbase ?_
  intro v' w' h1 h2 _
  have h1' : w'.ownsRow base 3 1 v' (xs ++ ys).length (intVals (xs ++ ys)) := by rw [happ, List.length_append]; exact h1
  obtain ⟨g, cap, e1⟩ := Go.Joins.ownsRow_form h1' (by rw [List.length_append]; omega)
  subst e1
  refine h g cap w' h1' ((Below.refl base w).grown h2 hbase ?_)
  intro k hk
  exact (hown.lt k hk).1
theorem ivals_set (zs : List Int) (j : Nat) (x : Int) : intVals (zs.set j x) = (intVals zs).set j (.int .i64 x) := by simp [intVals, List.map_set]
theorem sz_set (w : World) (p : Addr) (v : Value) : (w.setCell p v).heap.size = w.heap.size := by simp [World.setCell]
theorem bd_neg {v : List Int} {B : Int} (h : Bd v B) : Bd (scaleL v (-1)) B := by
  intro i hi
  simp only [scaleL, List.length_map] at hi
  simp only [scaleL, List.getElem_map]
  have := h i hi
  omega
theorem normL_take {ch : List Hf} {k : Nat} (h : k < ch.length) : normL (ch.take (k + 1)) = normL (ch.take k) ++ [ch[k].1] := by
  unfold normL
  rw [List.take_succ_eq_append_getElem h, List.map_append]; rfl
theorem colM_take {ch : List Hf} {c k : Nat} (h : k < ch.length) : colM (ch.take (k + 1)) c = colM (ch.take k) c ++ [ch[k].1.set c ch[k].2] := by
  unfold colM
  rw [List.take_succ_eq_append_getElem h, List.map_append]; rfl
theorem numQ_at {ch : List Hf} {k : Nat} (h : k < ch.length) : (numQ ch).take (k + 1) = (numQ ch).take k ++ [detL (colM ch k)] := by
  have hl : k < (numQ ch).length := by simp [numQ]; omega
  rw [List.take_succ_eq_append_getElem hl]
  congr 2
  simp [numQ]
theorem numQ_len (ch : List Hf) : (numQ ch).length = ch.length := by simp [numQ]
theorem norm_sq {n : Nat} {ch : List Hf} (h : ChOk n ch) : Sq n 200 (normL ch) := by
  refine ⟨by simp [normL, h.1], fun i hi => ?_⟩
  have hi' : i < ch.length := by simpa [normL] using hi
  have := h.2 ch[i] (List.getElem_mem hi')
  have e : (normL ch)[i] = ch[i].1 := by simp [normL]
  rw [e]; exact ⟨this.1, this.2.1⟩
theorem col_sq {n : Nat} {ch : List Hf} (h : ChOk n ch) (c : Nat) : Sq n 200 (colM ch c) := by
  refine ⟨by simp [colM, h.1], fun i hi => ?_⟩
  have hi' : i < ch.length := by simpa [colM] using hi
  have k := h.2 ch[i] (List.getElem_mem hi')
  have e : (colM ch c)[i] = ch[i].1.set c ch[i].2 := by simp [colM]
  rw [e]
  refine ⟨by rw [List.length_set]; exact k.1, fun j hj => ?_⟩
  rw [List.getElem_set]
  split
  · omega
  · exact k.2.1 j (by simpa using hj)
theorem sq_small {n : Nat} {m : List (List Int)} (h1 : 1 ≤ n) (h3 : n ≤ 3) (h : Sq n 200 m) : -48000000 ≤ detL m ∧ detL m ≤ 48000000 := by
  rw [← pad_det h1 h3 h]
  exact det_small (pad_sq (by omega) h1 h3 h)
theorem num_bd {n : Nat} {ch : List Hf} (h1 : 1 ≤ n) (h3 : n ≤ 3) (h : ChOk n ch) : Bd (numQ ch) 1000000000 := by
  intro i hi
  have e : (numQ ch)[i] = detL (colM ch i) := by simp [numQ]
  rw [e]
  have := sq_small h1 h3 (col_sq h i)
  omega

/-- What the first loop of l6Solve keeps: the rows that came so far. -/
def SlvI (w : World) (ch : List Hf) (M : Value) (k : Nat) (wr : World) : Prop :=
  ∃ us : List Value, us.length = k ∧ wr.ownsRow (w.heap.size + 1) 46 1 M k us ∧ (∀ (i : Nat) u, us[i]? = some u → ∃ h, ch[i]? = some h ∧ Sl w u (intVals h.1)) ∧ Below (w.heap.size + 1) (w.alloc (.cells #[.slice none 0 0, .int .i64 0] 63)) wr
theorem SlvI.rw {w : World} {ch : List Hf} {M : Value} {k : Nat} {wr : World} (hk : k ≤ ch.length) (h : SlvI w ch M k wr) : Rw wr M (normL (ch.take k)) := by
  obtain ⟨us, h1, h2, h3, h4⟩ := h
  refine ⟨us, by simp [normL, h1]; omega, Sl.of_owns h2, fun i u zs hu hz => ?_⟩
  obtain ⟨x, hx, hs⟩ := h3 i u hu
  have hik : i < k := by have := lt_of_get hu; omega
  have e : (normL (ch.take k))[i]? = some x.1 := by
    unfold normL
    rw [List.getElem?_map, List.getElem?_take_of_lt hik, hx]; rfl
  rw [e] at hz
  obtain rfl := Option.some.inj hz
  exact hs.below ((below1 w _).trans (h4.mono (by omega)))

set_option maxRecDepth 100000 in
set_option maxHeartbeats 6400000 in
theorem s_solve (n : Nat) (ch : List Hf) (h1 : 1 ≤ n) (h3 : n ≤ 3) (hc : ChOk n ch) (v : Value) (w : World) (hv : Hs w v ch) :
    Calls Try.prog 92 #[v] w (MetH w (solveQ ch)) := by
  have hl3 : ch.length ≤ 3 := by have := hc.1; omega
  have hl1 : 1 ≤ ch.length := by have := hc.1; omega
  have HL := Lib.hid hc.1
  have HV := Lib.hid hv
  have HCK := Lib.hid hc
  obtain ⟨a, c, rfl, hm⟩ := hv.shape
  unfold maxLen at hm
  have K0 := Lib.hid (Bk.new w #[.slice none 0 0, .int .i64 0] 63)
  have B0 := Lib.hid (below1 w (.cells #[.slice none 0 0, .int .i64 0] 63))
  clear hv hc
  go_enter Try.func92, Try.ntmps92
  go_wp2
  go_loopw [4, 5] (fun M i wr => ∃ k : Nat, k ≤ ch.length ∧ i = .int .i64 k ∧ SlvI w ch M k wr) (fun _ i _ => ch.length - (RowKit.intOf i).toNat)
  case atStart =>
    have h := owns_none (w := w.alloc (.cells #[.slice none 0 0, .int .i64 0] 63)) (base := w.heap.size + 1) (e := 46) (by rw [World.size_alloc]; exact Nat.le_refl _)
    rw [World.size_alloc] at h
    exact ⟨0, Nat.zero_le _, rfl, [], rfl, h, fun i u hu => by simp at hu, (below1 _ _).mono (by rw [World.size_alloc]; exact Nat.le_refl _)⟩
  case round =>
    obtain ⟨k, hk, rfl, hci⟩ := hrel
    have HC := Lib.hid hci
    clear hci
    by_cases hlt : k < ch.length
    · obtain ⟨us, q1, q2, q3, q4⟩ := HC.out
      have HQ4 := Lib.hid q4
      have hbw := (below1 w (.cells #[.slice none 0 0, .int .i64 0] 63)).trans (q4.mono (by omega))
      obtain ⟨b, off, y, rfl, _, hb2, hcell, hcell1, hsy⟩ := HV.out.half k hlt rfl
      rw [← hbw.cell (p := ⟨b, off + k * 2, none⟩) hb2] at hcell
      have HSY := Lib.hid hsy
      have HQ2 := Lib.hid q2
      have HQ3 := Lib.hid q3
      have i1 : (0 : Int) ≤ (k : Int) := by omega
      have i2 : (k : Int) < (ch.length : Int) := by omega
      obtain ⟨ya, yc, hye, _⟩ := hsy.shape
      subst hye
      have hyc : (Value.slice ya (intVals ch[k].1).length yc).oneCell' = true := rfl
      have hsz : w.heap.size + 1 ≤ wr.heap.size := by have := q4.size; simpa using this
      subst q1
      have C3 : w.heap.size + 1 ≤ (wr.alloc (.cells #[.slice ya (intVals ch[us.length].1).length yc] 46)).heap.size := by simp; omega
      clear q2 q3 q4 hbw hsy HC
      go_wp2_with (at_builtin; refine list_app_slv rfl _ _ rfl (w.heap.size + 1) _ _ us rfl (owns_below HQ2.out (below1 _ _)) hyc wr.heap.size rfl (heap_alloc_new wr _) (by omega) C3 ?_; intro g cap w2 hown hbel; have HO := Lib.hid hown; have HB := Lib.hid (((HQ4.out.trans ((below1 wr (.cells #[.slice ya (intVals ch[us.length].1).length yc] 46)).mono hsz))).trans hbel); clear hown hbel)
      refine ⟨⟨us.length + 1, by omega, by go_num, us ++ [.slice ya (intVals ch[us.length].1).length yc], by simp, HO.out, ?_, HB.out⟩, by simp [RowKit.intOf]; omega⟩
      intro i u hu
      by_cases hi : i < us.length
      · rw [List.getElem?_append_left hi] at hu; exact HQ3.out i u hu
      · rw [List.getElem?_append_right (by omega)] at hu
        have h0 : i - us.length < 1 := by have := lt_of_get hu; simpa using this
        have e0 : i = us.length := by omega
        subst e0
        simp only [Nat.sub_self, List.getElem?_cons_zero, Option.some.injEq] at hu
        subst hu
        exact ⟨ch[us.length], List.getElem?_eq_getElem hlt, HSY.out⟩
    · obtain rfl : k = ch.length := by omega
      have hrw := HC.out.rw (Nat.le_refl _)
      rw [List.take_length] at hrw
      have hK := K0.out.since ((HC.out).choose_spec.2.2.2) (Nat.lt_succ_self _)
      have hbw : Below w.heap.size w wr := (below1 w _).trans (((HC.out).choose_spec.2.2.2).mono (Nat.le_succ _))
      have BR := Lib.hid hbw
      have KR := Lib.hid hK
      have HNL := Lib.hid (show (normL ch).length = ch.length by simp [normL])
      obtain ⟨ma, mc, hme, hmm, _⟩ := hrw.shape
      rw [HNL.out] at hme hmm
      subst hme
      have RW := Lib.hid hrw
      clear hbw hK hrw HC
      go_wp2_with fail
      refine (s_det n 200 (normL ch) h1 h3 (by omega) (by omega) (norm_sq HCK.out) _ _ RW.out).mono ?_
      rintro e w1 ⟨rfl, hb⟩
      have B1 := Lib.hid (BR.out.trans (hb.mono BR.out.size))
      have K1 := Lib.hid (KR.out.below hb)
      have R1 := Lib.hid (RW.out.below hb)
      have hD := sq_small h1 h3 (norm_sq HCK.out)
      obtain ⟨d, hd⟩ : ∃ d : Int, detL (normL ch) = d := ⟨_, rfl⟩
      rw [hd] at hD
      rw [hd]
      have HDQ := Lib.hid (show denQ ch = d from hd)
      clear hd hb KR RW BR hk hlt
      by_cases d0 : d = 0
      · subst d0
        obtain ⟨⟨r0, r1⟩, rf0, rf1⟩ := K1.out.two
        have ES := Lib.hid (show solveQ ch = (([], 0), false) from if_pos HDQ.out)
        go_wp2
        exact bodyPost_ret (v := .tuple #[.agg #[.slice none 0 0, .int .i64 0], .bool false]) (by simp [results, Try.results92, go_sem, r0, r1]) rfl (met_mk ES.out ⟨⟨_, rfl, ⟨_, rfl, OwnV.nil⟩⟩, (B1.out.setCell (p := ⟨w.heap.size, 0, none⟩) (Nat.le_refl _) _).setCell (p := ⟨w.heap.size, 1, none⟩) (Nat.le_refl _) _⟩)
      have de : (d == 0) = false := by rw [beq_eq_false_iff_ne]; exact d0
      have hwl := K1.out.lt
      go_wp2
      go_loopw [7, 8] (fun N i wr => ∃ c : Nat, c ≤ ch.length ∧ i = .int .i64 c ∧ wr.ownsRow w1.heap.size 3 1 N c (intVals ((numQ ch).take c)) ∧ Below w1.heap.size w1 wr) (fun _ i _ => ch.length - (RowKit.intOf i).toNat)
      case atStart => exact ⟨0, Nat.zero_le _, rfl, owns_none (Nat.le_refl _), below1 _ _⟩
      case round =>
        obtain ⟨q, hq, rfl, how, hbr⟩ := hrel
        rename World => wo
        have HOW := Lib.hid how
        have HBO := Lib.hid hbr
        have RO := Lib.hid (R1.out.below hbr)
        clear how hbr
        by_cases hltq : q < ch.length
        · have j1 : (0 : Int) ≤ (q : Int) := by omega
          have j2 : (q : Int) < (ch.length : Int) := by omega
          go_wp2
          go_loopw [9, 10] (fun Pt i wr => ∃ k : Nat, k ≤ ch.length ∧ i = .int .i64 k ∧ OwR 46 3 wo.heap.size wr.heap.size wr Pt (colM (ch.take k) q) ∧ Below wo.heap.size wo wr) (fun _ i _ => ch.length - (RowKit.intOf i).toNat)
          case atStart => exact ⟨0, Nat.zero_le _, rfl, owr_empty (Nat.le_refl _), below1 _ _⟩
          case round =>
            obtain ⟨k, hk, rfl, hor, hbr⟩ := hrel
            rename World => wi
            have hclk : (colM (ch.take k) q).length = k := by simp [colM]; omega
            obtain ⟨pa, pc, hpe, _⟩ := hor.rw.shape
            rw [hclk] at hpe
            subst hpe
            have HOR := Lib.hid hor
            have HCL := Lib.hid hclk
            have HBI := Lib.hid hbr
            have RI := Lib.hid (RO.out.below hbr)
            have HAI := Lib.hid (B1.out.trans ((HBO.out.trans (HBI.out.mono HBO.out.size)).mono B1.out.size))
            clear hor hbr hclk
            by_cases hltk : k < ch.length
            · have i1 : (0 : Int) ≤ (k : Int) := by omega
              have i2 : (k : Int) < (ch.length : Int) := by omega
              skip
              obtain ⟨gb, go, u, e0, hlt0, hcell0, hs0⟩ := RI.out.row k (by rw [HNL.out]; exact hltk) rfl
              subst e0
              rw [show (normL ch)[k]'(by rw [HNL.out]; exact hltk) = ch[k].1 by simp [normL]] at hs0
              have HS0 := Lib.hid hs0
              obtain ⟨ua, uc, hue, _⟩ := hs0.shape
              subst hue
              obtain ⟨b, off, y, rfl, _, hb2, _, hcell1, _⟩ := HV.out.half k hltk rfl
              rw [← HAI.out.cell (p := ⟨b, off + k * 2 + 1, none⟩) hb2] at hcell1
              have hln := (HCK.out.2 ch[k] (List.getElem_mem hltk)).1
              have hll : 0 < ch[k].1.length := by omega
              have hl4 : ch[k].1.length ≤ 3 := by omega
              have hql : q < ch[k].1.length := by have := HL.out; omega
              have hqi : (q : Int) < (ch[k].1.length : Int) := by omega
              have CT := Lib.hid (colM_take (c := q) hltk)
              have LC : (colM (ch.take k) q).length ≤ 3 := by simp [colM]; omega
              have HLN := Lib.hid hln
              have hb2i : b < wi.heap.size := Nat.lt_of_lt_of_le hb2 HAI.out.size
              have HC1 := Lib.hid hcell1
              have C0 := Lib.hid (show (wi.heap.size ≤ (wi.alloc (.cells #[] 3)).heap.size) by rw [World.size_alloc]; exact Nat.le_succ _)
              have hbo := HBI.out.size
              clear hs0 hln hcell1
              go_wp2_with (first | (at_builtin; refine list_app_sv rfl _ _ rfl wi.heap.size _ [] ch[k].1 _ rfl (owns_none (Nat.le_refl _)) rfl (HS0.out.below (below1 _ _)) hll (by show 0 + ch[k].1.length ≤ _; omega) C0.out ?_; intro g cap w2 hown hbel; simp only [List.nil_append] at hown; have HB2 := Lib.hid ((below1 wi (.cells #[] 3)).trans hbel); have hgw := (hown.lt g rfl).1; have hgl := (hown.lt g rfl).2; have hmine := hown.cellAt q (by omega); rw [intVals_get _ q hql] at hmine; have hfree := hown.frozenAt q; have hst := (hown.stored q (.int .i64 ch[k].2)).1; rw [← ivals_set, show ch[k].1.length = (ch[k].1.set q ch[k].2).length by rw [List.length_set]] at hst; have hov := OwnV.of_owns hst; rw [show (ch[k].1.set q ch[k].2).length = ch[k].1.length by rw [List.length_set]] at hov; have OW3 := Lib.hid (show OwnV 3 wi.heap.size ((w2.setCell ⟨g, q, none⟩ (.int .i64 ch[k].2)).alloc (.cells #[.slice (some ⟨g, 0, none⟩) ch[k].1.length cap] 46)).heap.size ((w2.setCell ⟨g, q, none⟩ (.int .i64 ch[k].2)).alloc (.cells #[.slice (some ⟨g, 0, none⟩) ch[k].1.length cap] 46)) (.slice (some ⟨g, 0, none⟩) ch[k].1.length cap) (intVals (ch[k].1.set q ch[k].2)) from (hov.below (below1 _ _)).mono (Nat.le_refl _) (by rw [World.size_alloc]; exact Nat.le_succ _)); have hcell2 := (HB2.out.cell (p := ⟨b, off + k * 2 + 1, none⟩) hb2i).trans HC1.out; have HN3 := heap_alloc_new (w2.setCell ⟨g, q, none⟩ (.int .i64 ch[k].2)) (.cells #[.slice (some ⟨g, 0, none⟩) ch[k].1.length cap] 46); rw [sz_set] at HN3; replace HN3 := Lib.hid HN3; have C5 := Lib.hid (show wi.heap.size ≤ ((w2.setCell ⟨g, q, none⟩ (.int .i64 ch[k].2)).alloc (.cells #[.slice (some ⟨g, 0, none⟩) ch[k].1.length cap] 46)).heap.size by rw [World.size_alloc, sz_set]; have h9 := HB2.out.size; omega); have B5 := Lib.hid (show Below wi.heap.size wi ((w2.setCell ⟨g, q, none⟩ (.int .i64 ch[k].2)).alloc (.cells #[.slice (some ⟨g, 0, none⟩) ch[k].1.length cap] 46)) from (HB2.out.setCell (p := ⟨g, q, none⟩) hgw _).alloc (by rw [sz_set]; exact HB2.out.size) _); clear hown hbel hst hov) | (at_builtin; go_loud (refine list_app_row rfl _ _ rfl wo.heap.size wi.heap.size _ _ (colM (ch.take k) q) (ch[k].1.set q ch[k].2) rfl (HOR.out.kept (Kept.of_below (lo := wi.heap.size) (hi := wi.heap.size) B5.out) (.inl (Nat.le_refl _))) OW3.out w2.heap.size rfl HN3.out (by omega) hbo C5.out ?_; intro g2 cap2 w3 hown3 hbel3; have O3 := Lib.hid hown3; have B3 := Lib.hid (((HBI.out.trans (B5.out.mono hbo))).trans hbel3); clear hown3 hbel3)))
              refine ⟨⟨k + 1, by omega, by go_num, ?_, B3.out⟩, by simp [RowKit.intOf]; omega⟩
              rw [CT.out]
              exact O3.out
            · obtain rfl : k = ch.length := by omega
              have hrc : Rw wi (.slice pa ch.length pc) (colM ch q) := by have h := HOR.out.rw; rw [List.take_length] at h; exact h
              have RC := Lib.hid hrc
              have OW := Lib.hid (owns_below HOW.out HBI.out)
              have NS := Lib.hid (numQ_at hltq)
              have hw1i : w1.heap.size ≤ wi.heap.size := Nat.le_trans HBO.out.size HBI.out.size
              clear hrc
              go_wp2_with fail
              refine (s_det n 200 (colM ch q) h1 h3 (by omega) (by omega) (col_sq HCK.out q) _ _ RC.out).mono ?_
              rintro e w4 ⟨rfl, hb⟩
              have OW4 := Lib.hid (owns_below OW.out hb)
              have BI4 := Lib.hid ((HBO.out.trans (HBI.out.mono HBO.out.size)).trans (hb.mono hw1i))
              clear hb
              have C4 := Lib.hid (show w1.heap.size ≤ (w4.alloc (.cells #[.int .i64 (detL (colM ch q))] 3)).heap.size by rw [World.size_alloc]; exact Nat.le_succ_of_le BI4.out.size)
              go_wp2_with (at_builtin; refine list_app_int rfl _ _ rfl w1.heap.size _ q ((numQ ch).take q) (detL (colM ch q)) rfl (owns_below OW4.out (below1 _ _)) w4.heap.size rfl (heap_alloc_new w4 _) (by omega) C4.out ?_; intro v' w5 hown hbel; have O5 := Lib.hid hown; have B5 := Lib.hid ((BI4.out.alloc BI4.out.size _).trans hbel); clear hown hbel)
              refine ⟨⟨q + 1, by omega, by go_num, ?_, B5.out⟩, by simp [RowKit.intOf]; omega⟩
              rw [NS.out]
              exact O5.out
        · obtain rfl : q = ch.length := by omega
          have OWN := Lib.hid (show wo.ownsRow w1.heap.size 3 1 u7 ch.length (intVals (numQ ch)) by have h := HOW.out; rw [show (numQ ch).take ch.length = numQ ch by rw [List.take_of_length_le]; rw [numQ_len]; exact Nat.le_refl _] at h; exact h)
          have KA := Lib.hid (K1.out.below HBO.out)
          have BA := Lib.hid (B1.out.trans (HBO.out.mono B1.out.size))
          have NB := Lib.hid (num_bd h1 h3 HCK.out)
          have NL := Lib.hid (numQ_len ch)
          clear HOW
          by_cases hneg : d < 0
          · obtain ⟨d2, hd2⟩ : ∃ d2 : Int, -d = d2 := ⟨_, rfl⟩
            have hdw : IntKind.i64.wrap (-d) = -d := IntWalk.i64_in _ (by omega)
            go_wp2_with fail
            refine (s_scale (numQ ch) (by rw [NL.out]; omega) 1000000000 1 (-1) NB.out (by omega) (by omega) (by omega) _ _ (Sl.of_owns OWN.out)).mono ?_
            rintro e w5 ⟨⟨u5, rfl, ho⟩, hb⟩
            obtain ⟨num2, hn2⟩ : ∃ l, scaleL (numQ ch) (-1) = l := ⟨_, rfl⟩
            rw [hn2] at ho
            have TQ := Lib.hid (show turnQ (numQ ch) d = num2 by unfold turnQ; rw [if_pos hneg]; exact hn2)
            have HBD := Lib.hid (show Bd num2 1000000000 by rw [← hn2]; exact bd_neg NB.out)
            have DQ := Lib.hid (show (d.natAbs : Int) = d2 by omega)
            have HN2 := Lib.hid ho
            have hl23 : num2.length ≤ 3 := by rw [← hn2]; unfold scaleL; rw [List.length_map, NL.out]; exact hl3
            have BB := Lib.hid (BA.out.trans (hb.mono BA.out.size))
            have KB := Lib.hid (KA.out.below hb)
            have hd21 : d2 ≤ 48000000 := by omega
            have hd22 : 0 < d2 := by omega
            clear hn2 OWN ho hb BA KA
            go_wp2_with fail
            have hbn : Bd num2 1000000000 := HBD.out
            refine (s_all num2 1000000000 (by omega) (by omega) hbn _ _ HN2.out.sl).mono ?_
            rintro e w6 ⟨rfl, hb⟩
            have B6 := Lib.hid (BB.out.trans (hb.mono BB.out.size))
            have K6 := Lib.hid (KB.out.below hb)
            have HN6 := Lib.hid (HN2.out.below hb)
            have hag := allG_bd (show (0 : Int) ≤ 1000000000 by omega) hbn num2.length (Nat.le_refl _)
            rw [List.take_length] at hag
            have hag0 := allG_nonneg num2
            clear hb
            go_wp2_with fail
            refine (s_gcd (allG num2) d2 (by omega) (by omega) (by omega) (by omega) _).mono ?_
            rintro e wz ⟨rfl, hb⟩
            have B7 := Lib.hid (B6.out.trans (hb.mono B6.out.size))
            have K7 := Lib.hid (K6.out.below hb)
            have HN7 := Lib.hid (HN6.out.below hb)
            clear hb HN6 HN2 K6 KB
            obtain ⟨g, hg⟩ : ∃ g, gcdI (allG num2) d2 = g := ⟨_, rfl⟩
            have hg0 : g ≠ 0 := by
              intro h0
              have h9 := gcdI_rdvd (allG num2) d2
              rw [hg, h0] at h9
              have := Int.zero_dvd.1 h9
              omega
            have hge : (g == 0) = false := by rw [beq_eq_false_iff_ne]; exact hg0
            have hdq := tdiv_bdB 1000000000 (show -1000000000 ≤ d2 ∧ d2 ≤ 1000000000 by omega) hg0
            have hgw : IntKind.i64.wrap (d2.tdiv g) = d2.tdiv g := IntWalk.i64_in _ (by omega)
            rw [hg]
            have RP := Lib.hid (show redQ (numQ ch) d = (num2.map (fun x => x.tdiv g), d2.tdiv g) by unfold redQ; rw [TQ.out, DQ.out, hg])
            obtain ⟨na, nc, hne, hnm, hnop⟩ := HN7.out.sl.shape
            rw [intVals_len] at hnop hnm hne
            subst hne
            unfold maxLen at hnm
            have HOP := Lib.hid hnop
            clear hg hnop HN7
            go_wp2
            have N5 := Lib.hid (below1 wz (.cells #[.slice none 0 0, .int .i64 (d2.tdiv g)] 63))
            have HI := Lib.hid (show RedI w wz.heap.size (d2.tdiv g) (.slice none 0 0) [] (wz.alloc (.cells #[.slice none 0 0, .int .i64 (d2.tdiv g)] 63)) from ⟨K7.out.alloc _, Bk.new _ _ _, OwnV.nil, B7.out.trans (N5.out.mono B7.out.size), K7.out.lt⟩)
            have hwz : w.heap.size < wz.heap.size := K7.out.lt
            clear N5
            go_loopw [14] (fun i wr => ∃ (k : Nat) (V : Value), k ≤ num2.length ∧ i = .int .i64 k ∧ RedI w wz.heap.size (d2.tdiv g) V ((num2.take k).map (fun x => x.tdiv g)) wr ∧ Below wz.heap.size wz wr) (fun i _ => num2.length - (RowKit.intOf i).toNat)
            case atStart => exact ⟨0, _, Nat.zero_le _, rfl, HI.out, below1 _ _⟩
            case round =>
              obtain ⟨k, V, hk, rfl, hci, hbz⟩ := hrel
              rename World => w8
              have HC := Lib.hid hci
              have HBZ := Lib.hid hbz
              clear hci hbz
              obtain ⟨⟨l0, l1⟩, lf0, lf1⟩ := HC.out.2.1.two
              have hBl := HC.out.2.1.lt
              by_cases hlt : k < num2.length
              · obtain ⟨nb, no, rfl, hnc, hnlt, hx⟩ := HOP.out (by omega)
                have hcell := hx k _ (intVals_get num2 k hlt)
                rw [← HBZ.out.cell (p := ⟨nb, no + k, none⟩) hnlt] at hcell
                have i1 : (0 : Int) ≤ (k : Int) := by omega
                have i2 : (k : Int) < (num2.length : Int) := by omega
                have hq9 := tdiv_bdB 1000000000 (hbn k hlt) hg0
                have hlm : ((num2.take k).map (fun x => x.tdiv g)).length = k := by rw [List.length_map, List.length_take]; omega
                have MS := Lib.hid (show (num2.take (k + 1)).map (fun x => x.tdiv g) = (num2.take k).map (fun x => x.tdiv g) ++ [num2[k].tdiv g] by rw [List.take_succ_eq_append_getElem hlt, List.map_append]; rfl)
                obtain ⟨xs, hxs⟩ : ∃ xs, (num2.take k).map (fun x => x.tdiv g) = xs := ⟨_, rfl⟩
                rw [hxs] at MS hlm HC
                clear hxs hx
                generalize num2[k] = y at *
                have hyw : IntKind.i64.wrap (y.tdiv g) = y.tdiv g := IntWalk.i64_in _ (by omega)
                have hn8 : nb < w8.heap.size := Nat.lt_of_lt_of_le hnlt HBZ.out.size
                clear hq9
                go_wp2
                refine T_begin (z := fun k => 9 < k) (S := fun (w' : World) => w'.cell? ⟨wz.heap.size, 0, none⟩ = some V ∧ w'.cell? ⟨nb, no + k, none⟩ = some (.int .i64 y)) (by kernel_rfl) ?_
                show wpAnyT _ _ _ _ _ _ 12 _ _ _
                have hS0 := Lib.hid (show (fun (w' : World) => w'.cell? ⟨wz.heap.size, 0, none⟩ = some V ∧ w'.cell? ⟨nb, no + k, none⟩ = some (.int .i64 y)) _ from ⟨l0, hcell⟩)
                refine T_take (i := 0) (v := .pointer (some ⟨wz.heap.size, 0, none⟩)) rfl (by kernel_rfl) (by kernel_rfl) (by kernel_rfl) (by kernel_rfl) (fun _ _ _ h => h) hS0.out (by kernel_rfl) (fun w' hS' => by (try dsimp only at hS'); go_simp) ?_
                refine T_take (i := 1) (v := V) rfl (by kernel_rfl) (by kernel_rfl) (by kernel_rfl) (by kernel_rfl) (fun _ _ _ h => h) hS0.out (by kernel_rfl) (fun w' hS' => by (try dsimp only at hS'); go_simp) ?_
                refine T_take (i := 2) (v := .slice (some ⟨nb, no, none⟩) num2.length nc) rfl (by kernel_rfl) (by kernel_rfl) (by kernel_rfl) (by kernel_rfl) (fun _ _ _ h => h) hS0.out (by kernel_rfl) (fun w' hS' => by (try dsimp only at hS'); go_simp) ?_
                refine T_take (i := 3) (v := .int .i64 k) rfl (by kernel_rfl) (by kernel_rfl) (by kernel_rfl) (by kernel_rfl) (fun _ _ _ h => h) hS0.out (by kernel_rfl) (fun w' hS' => by (try dsimp only at hS'); go_simp) ?_
                refine T_take (i := 4) (v := .pointer (some ⟨nb, no + k, none⟩)) rfl (by kernel_rfl) (by kernel_rfl) (by kernel_rfl) (by kernel_rfl) (fun _ _ _ h => h) hS0.out (by kernel_rfl) (fun w' hS' => by (try dsimp only at hS'); go_simp) ?_
                refine T_take (i := 5) (v := .int .i64 y) rfl (by kernel_rfl) (by kernel_rfl) (by kernel_rfl) (by kernel_rfl) (fun _ _ _ h => h) hS0.out (by kernel_rfl) (fun w' hS' => by (try dsimp only at hS'); go_simp) ?_
                refine T_take (i := 6) (v := .int .i64 g) rfl (by kernel_rfl) (by kernel_rfl) (by kernel_rfl) (by kernel_rfl) (fun _ _ _ h => h) hS0.out (by kernel_rfl) (fun w' hS' => by (try dsimp only at hS'); go_simp) ?_
                refine T_take (i := 7) (v := .int .i64 (y.tdiv g)) rfl (by kernel_rfl) (by kernel_rfl) (by kernel_rfl) (by kernel_rfl) (fun _ _ _ h => h) hS0.out (by kernel_rfl) (fun w' hS' => by (try dsimp only at hS'); go_simp) ?_
                refine T_step (i := 8) rfl (by kernel_rfl) rfl (by kernel_rfl) ?_
                intro K hK
                go_simp
                refine hK.out _ _ ⟨(HC.out.2.1.alloc _).two.1.1, ((below1 w8 _).cell (p := ⟨nb, no + k, none⟩) hn8).trans hcell⟩ ?_
                clear hK K
                refine T_step (i := 9) rfl (by kernel_rfl) rfl (by kernel_rfl) ?_
                intro K hK
                have hb6 := (below1 w8 (.cells #[.int .i64 (y.tdiv g)] 3)).drew
                have ho6 := HC.out.2.2.1.owns
                rw [intVals_len] at ho6
                refine wp_app_int1 _ _ (by rfl) (wz.heap.size + 1) V xs (y.tdiv g) rfl (owns_below ho6 hb6) w8.heap.size rfl (heap_alloc_new w8 _) (by omega) (Nat.le_trans hBl hb6.size) ?_
                intro g7 cap w9 ho7 hg7
                have hV : ∀ q, V.ownBlock = some q → wz.heap.size + 1 ≤ q := fun q hq => (HC.out.2.2.1.place hq).1
                have K4 := Lib.hid ((HC.out.1.below hb6).grown hg7 (fun e => by have := hV _ e.symm; omega))
                have K8 := Lib.hid ((HC.out.2.1.below hb6).grown hg7 (fun e => by have := hV _ e.symm; omega))
                have B9 := Lib.hid ((HC.out.2.2.2.1.trans (hb6.mono HC.out.2.2.2.1.size)).grown hg7 (Nat.le_trans HC.out.2.2.2.1.size hb6.size) (fun q hq => by have := hV q hq; omega))
                have Z9 := Lib.hid ((HBZ.out.trans (hb6.mono HBZ.out.size)).grown hg7 (Nat.le_trans HBZ.out.size hb6.size) (fun q hq => by have := hV q hq; omega))
                have O7 := Lib.hid ho7
                clear ho7 hg7 hb6 ho6
                refine hK.out _ _ ⟨K8.out.two.1.1, (Z9.out.cell (p := ⟨nb, no + k, none⟩) hnlt).trans ((HBZ.out.cell (p := ⟨nb, no + k, none⟩) hnlt).symm.trans hcell)⟩ ?_
                clear hK K hS0
                obtain ⟨⟨m0, m1⟩, mf0, mf1⟩ := K8.out.two
                refine T_anytake (i := 10) (v := .pointer (some ⟨wz.heap.size, 0, none⟩)) rfl (by kernel_rfl) (by kernel_rfl) (by kernel_rfl) (by kernel_rfl) (fun _ _ _ h => h) (by kernel_rfl) (fun w' => by go_simp) ?_
                refine T_last (i := 11) rfl (by kernel_rfl) (by kernel_rfl) rfl rfl ?_
                go_simp
                go_wp2
                have hkp := (Kept.refl wz.heap.size (wz.heap.size + 1) w9).setCell (p := ⟨wz.heap.size, 0, none⟩) (Nat.le_refl _) (Nat.lt_succ_self _) (.slice (some ⟨g7, 0, none⟩) (xs.length + 1) cap)
                have ho := O7.out
                rw [hlm] at ho hkp
                have hlm2 : k + 1 = (xs ++ [y.tdiv g]).length := by simp [hlm]
                refine ⟨⟨k + 1, .slice (some ⟨g7, 0, none⟩) (k + 1) cap, by omega, by go_num, ?_, Z9.out.setCell (p := ⟨wz.heap.size, 0, none⟩) (Nat.le_refl _) _⟩, by simp [RowKit.intOf]; omega⟩
                rw [MS.out]
                refine ⟨K4.out.other (by show wz.heap.size ≠ _; omega) _, K8.out.set0 _, ?_, B9.out.setCell (p := ⟨wz.heap.size, 0, none⟩) (Nat.le_of_lt hwz) _, hwz⟩
                rw [hlm2] at ho hkp
                rw [hlm2]
                exact ((OwnV.of_owns ho).kept hkp (.inr (Nat.le_refl _))).mono (Nat.le_refl _) (by simp [World.setCell])
              · obtain rfl : k = num2.length := by omega
                have HF := Lib.hid (show RedI w wz.heap.size (d2.tdiv g) V (num2.map (fun x => x.tdiv g)) w8 by have h := HC.out; rw [List.take_length] at h; exact h)
                obtain ⟨va, vc, hve, _⟩ := HF.out.2.2.1.shape1
                subst hve
                obtain ⟨⟨r0, r1⟩, rf0, rf1⟩ := HF.out.1.two
                have ES := Lib.hid (show solveQ ch = (redQ (numQ ch) d, true) by unfold solveQ; rw [HDQ.out, if_neg d0])
                clear HC
                go_wp2
                have hkp := ((Kept.refl w.heap.size (w.heap.size + 1) w8).setCell (p := ⟨w.heap.size, 0, none⟩) (Nat.le_refl _) (Nat.lt_succ_self _) (.slice va (intVals (num2.map (fun x => x.tdiv g))).length vc)).setCell (p := ⟨w.heap.size, 1, none⟩) (Nat.le_refl _) (Nat.lt_succ_self _) (.int .i64 (d2.tdiv g))
                refine bodyPost_ret (v := .tuple #[.agg #[.slice va (intVals (num2.map (fun x => x.tdiv g))).length vc, .int .i64 (d2.tdiv g)], .bool true]) (by simp [results, Try.results92, go_sem, r0, r1]) rfl (met_mk ES.out ⟨⟨_, rfl, ?_⟩, (HF.out.2.2.2.1.setCell (p := ⟨w.heap.size, 0, none⟩) (Nat.le_refl _) _).setCell (p := ⟨w.heap.size, 1, none⟩) (Nat.le_refl _) _⟩)
                rw [RP.out]
                exact ⟨_, rfl, (HF.out.2.2.1.kept hkp (.inr (by omega))).mono (by omega) (by simp [World.setCell])⟩
          · obtain ⟨num2, hn2⟩ : ∃ l, numQ ch = l := ⟨_, rfl⟩
            have TQ := Lib.hid (show turnQ (numQ ch) d = num2 by unfold turnQ; rw [if_neg hneg]; exact hn2)
            have HBD := Lib.hid (show Bd num2 1000000000 by rw [← hn2]; exact NB.out)
            have hd20 : ∃ d2 : Int, d = d2 := ⟨_, rfl⟩
            have DQ := Lib.hid (show (d.natAbs : Int) = d by omega)
            have HN2 := Lib.hid (show OwnV 3 w1.heap.size wo.heap.size wo u7 (intVals num2) by rw [← hn2]; exact OwnV.of_owns OWN.out)
            have hl2 : num2.length = ch.length := by rw [← hn2]; exact NL.out
            have HL2 := Lib.hid hl2
            have hl23 : num2.length ≤ 3 := by omega
            clear hn2 hl2 hd20 OWN
            go_wp2_with fail
            have hbn : Bd num2 1000000000 := HBD.out
            refine (s_all num2 1000000000 (by omega) (by omega) hbn _ _ HN2.out.sl).mono ?_
            rintro e w6 ⟨rfl, hb⟩
            have B6 := Lib.hid (BA.out.trans (hb.mono BA.out.size))
            have K6 := Lib.hid (KA.out.below hb)
            have HN6 := Lib.hid (HN2.out.below hb)
            have hag := allG_bd (show (0 : Int) ≤ 1000000000 by omega) hbn num2.length (Nat.le_refl _)
            rw [List.take_length] at hag
            have hag0 := allG_nonneg num2
            clear hb
            go_wp2_with fail
            refine (s_gcd (allG num2) d (by omega) (by omega) (by omega) (by omega) _).mono ?_
            rintro e wz ⟨rfl, hb⟩
            have B7 := Lib.hid (B6.out.trans (hb.mono B6.out.size))
            have K7 := Lib.hid (K6.out.below hb)
            have HN7 := Lib.hid (HN6.out.below hb)
            clear hb HN6 HN2 K6 KA
            obtain ⟨g, hg⟩ : ∃ g, gcdI (allG num2) d = g := ⟨_, rfl⟩
            have hg0 : g ≠ 0 := by
              intro h0
              have h9 := gcdI_rdvd (allG num2) d
              rw [hg, h0] at h9
              have := Int.zero_dvd.1 h9
              omega
            have hge : (g == 0) = false := by rw [beq_eq_false_iff_ne]; exact hg0
            have hdq := tdiv_bdB 1000000000 (show -1000000000 ≤ d ∧ d ≤ 1000000000 by omega) hg0
            have hgw : IntKind.i64.wrap (d.tdiv g) = d.tdiv g := IntWalk.i64_in _ (by omega)
            rw [hg]
            have RP := Lib.hid (show redQ (numQ ch) d = (num2.map (fun x => x.tdiv g), d.tdiv g) by unfold redQ; rw [TQ.out, DQ.out, hg])
            obtain ⟨na, nc, hne, hnm, hnop⟩ := HN7.out.sl.shape
            rw [intVals_len] at hnop hnm hne
            subst hne
            unfold maxLen at hnm
            have HOP := Lib.hid hnop
            clear hg hnop HN7
            go_wp2
            have N5 := Lib.hid (below1 wz (.cells #[.slice none 0 0, .int .i64 (d.tdiv g)] 63))
            have HI := Lib.hid (show RedI w wz.heap.size (d.tdiv g) (.slice none 0 0) [] (wz.alloc (.cells #[.slice none 0 0, .int .i64 (d.tdiv g)] 63)) from ⟨K7.out.alloc _, Bk.new _ _ _, OwnV.nil, B7.out.trans (N5.out.mono B7.out.size), K7.out.lt⟩)
            have hwz : w.heap.size < wz.heap.size := K7.out.lt
            clear N5
            go_loopw [14] (fun i wr => ∃ (k : Nat) (V : Value), k ≤ num2.length ∧ i = .int .i64 k ∧ RedI w wz.heap.size (d.tdiv g) V ((num2.take k).map (fun x => x.tdiv g)) wr ∧ Below wz.heap.size wz wr) (fun i _ => num2.length - (RowKit.intOf i).toNat)
            case atStart => exact ⟨0, _, Nat.zero_le _, rfl, HI.out, below1 _ _⟩
            case round =>
              obtain ⟨k, V, hk, rfl, hci, hbz⟩ := hrel
              rename World => w8
              have HC := Lib.hid hci
              have HBZ := Lib.hid hbz
              clear hci hbz
              obtain ⟨⟨l0, l1⟩, lf0, lf1⟩ := HC.out.2.1.two
              have hBl := HC.out.2.1.lt
              by_cases hlt : k < num2.length
              · obtain ⟨nb, no, rfl, hnc, hnlt, hx⟩ := HOP.out (by omega)
                have hcell := hx k _ (intVals_get num2 k hlt)
                rw [← HBZ.out.cell (p := ⟨nb, no + k, none⟩) hnlt] at hcell
                have i1 : (0 : Int) ≤ (k : Int) := by omega
                have i2 : (k : Int) < (num2.length : Int) := by omega
                have hq9 := tdiv_bdB 1000000000 (hbn k hlt) hg0
                have hlm : ((num2.take k).map (fun x => x.tdiv g)).length = k := by rw [List.length_map, List.length_take]; omega
                have MS := Lib.hid (show (num2.take (k + 1)).map (fun x => x.tdiv g) = (num2.take k).map (fun x => x.tdiv g) ++ [num2[k].tdiv g] by rw [List.take_succ_eq_append_getElem hlt, List.map_append]; rfl)
                obtain ⟨xs, hxs⟩ : ∃ xs, (num2.take k).map (fun x => x.tdiv g) = xs := ⟨_, rfl⟩
                rw [hxs] at MS hlm HC
                clear hxs hx
                generalize num2[k] = y at *
                have hyw : IntKind.i64.wrap (y.tdiv g) = y.tdiv g := IntWalk.i64_in _ (by omega)
                have hn8 : nb < w8.heap.size := Nat.lt_of_lt_of_le hnlt HBZ.out.size
                clear hq9
                go_wp2
                refine T_begin (z := fun k => 9 < k) (S := fun (w' : World) => w'.cell? ⟨wz.heap.size, 0, none⟩ = some V ∧ w'.cell? ⟨nb, no + k, none⟩ = some (.int .i64 y)) (by kernel_rfl) ?_
                show wpAnyT _ _ _ _ _ _ 12 _ _ _
                have hS0 := Lib.hid (show (fun (w' : World) => w'.cell? ⟨wz.heap.size, 0, none⟩ = some V ∧ w'.cell? ⟨nb, no + k, none⟩ = some (.int .i64 y)) _ from ⟨l0, hcell⟩)
                refine T_take (i := 0) (v := .pointer (some ⟨wz.heap.size, 0, none⟩)) rfl (by kernel_rfl) (by kernel_rfl) (by kernel_rfl) (by kernel_rfl) (fun _ _ _ h => h) hS0.out (by kernel_rfl) (fun w' hS' => by (try dsimp only at hS'); go_simp) ?_
                refine T_take (i := 1) (v := V) rfl (by kernel_rfl) (by kernel_rfl) (by kernel_rfl) (by kernel_rfl) (fun _ _ _ h => h) hS0.out (by kernel_rfl) (fun w' hS' => by (try dsimp only at hS'); go_simp) ?_
                refine T_take (i := 2) (v := .slice (some ⟨nb, no, none⟩) num2.length nc) rfl (by kernel_rfl) (by kernel_rfl) (by kernel_rfl) (by kernel_rfl) (fun _ _ _ h => h) hS0.out (by kernel_rfl) (fun w' hS' => by (try dsimp only at hS'); go_simp) ?_
                refine T_take (i := 3) (v := .int .i64 k) rfl (by kernel_rfl) (by kernel_rfl) (by kernel_rfl) (by kernel_rfl) (fun _ _ _ h => h) hS0.out (by kernel_rfl) (fun w' hS' => by (try dsimp only at hS'); go_simp) ?_
                refine T_take (i := 4) (v := .pointer (some ⟨nb, no + k, none⟩)) rfl (by kernel_rfl) (by kernel_rfl) (by kernel_rfl) (by kernel_rfl) (fun _ _ _ h => h) hS0.out (by kernel_rfl) (fun w' hS' => by (try dsimp only at hS'); go_simp) ?_
                refine T_take (i := 5) (v := .int .i64 y) rfl (by kernel_rfl) (by kernel_rfl) (by kernel_rfl) (by kernel_rfl) (fun _ _ _ h => h) hS0.out (by kernel_rfl) (fun w' hS' => by (try dsimp only at hS'); go_simp) ?_
                refine T_take (i := 6) (v := .int .i64 g) rfl (by kernel_rfl) (by kernel_rfl) (by kernel_rfl) (by kernel_rfl) (fun _ _ _ h => h) hS0.out (by kernel_rfl) (fun w' hS' => by (try dsimp only at hS'); go_simp) ?_
                refine T_take (i := 7) (v := .int .i64 (y.tdiv g)) rfl (by kernel_rfl) (by kernel_rfl) (by kernel_rfl) (by kernel_rfl) (fun _ _ _ h => h) hS0.out (by kernel_rfl) (fun w' hS' => by (try dsimp only at hS'); go_simp) ?_
                refine T_step (i := 8) rfl (by kernel_rfl) rfl (by kernel_rfl) ?_
                intro K hK
                go_simp
                refine hK.out _ _ ⟨(HC.out.2.1.alloc _).two.1.1, ((below1 w8 _).cell (p := ⟨nb, no + k, none⟩) hn8).trans hcell⟩ ?_
                clear hK K
                refine T_step (i := 9) rfl (by kernel_rfl) rfl (by kernel_rfl) ?_
                intro K hK
                have hb6 := (below1 w8 (.cells #[.int .i64 (y.tdiv g)] 3)).drew
                have ho6 := HC.out.2.2.1.owns
                rw [intVals_len] at ho6
                refine wp_app_int1 _ _ (by rfl) (wz.heap.size + 1) V xs (y.tdiv g) rfl (owns_below ho6 hb6) w8.heap.size rfl (heap_alloc_new w8 _) (by omega) (Nat.le_trans hBl hb6.size) ?_
                intro g7 cap w9 ho7 hg7
                have hV : ∀ q, V.ownBlock = some q → wz.heap.size + 1 ≤ q := fun q hq => (HC.out.2.2.1.place hq).1
                have K4 := Lib.hid ((HC.out.1.below hb6).grown hg7 (fun e => by have := hV _ e.symm; omega))
                have K8 := Lib.hid ((HC.out.2.1.below hb6).grown hg7 (fun e => by have := hV _ e.symm; omega))
                have B9 := Lib.hid ((HC.out.2.2.2.1.trans (hb6.mono HC.out.2.2.2.1.size)).grown hg7 (Nat.le_trans HC.out.2.2.2.1.size hb6.size) (fun q hq => by have := hV q hq; omega))
                have Z9 := Lib.hid ((HBZ.out.trans (hb6.mono HBZ.out.size)).grown hg7 (Nat.le_trans HBZ.out.size hb6.size) (fun q hq => by have := hV q hq; omega))
                have O7 := Lib.hid ho7
                clear ho7 hg7 hb6 ho6
                refine hK.out _ _ ⟨K8.out.two.1.1, (Z9.out.cell (p := ⟨nb, no + k, none⟩) hnlt).trans ((HBZ.out.cell (p := ⟨nb, no + k, none⟩) hnlt).symm.trans hcell)⟩ ?_
                clear hK K hS0
                obtain ⟨⟨m0, m1⟩, mf0, mf1⟩ := K8.out.two
                refine T_anytake (i := 10) (v := .pointer (some ⟨wz.heap.size, 0, none⟩)) rfl (by kernel_rfl) (by kernel_rfl) (by kernel_rfl) (by kernel_rfl) (fun _ _ _ h => h) (by kernel_rfl) (fun w' => by go_simp) ?_
                refine T_last (i := 11) rfl (by kernel_rfl) (by kernel_rfl) rfl rfl ?_
                go_simp
                go_wp2
                have hkp := (Kept.refl wz.heap.size (wz.heap.size + 1) w9).setCell (p := ⟨wz.heap.size, 0, none⟩) (Nat.le_refl _) (Nat.lt_succ_self _) (.slice (some ⟨g7, 0, none⟩) (xs.length + 1) cap)
                have ho := O7.out
                rw [hlm] at ho hkp
                have hlm2 : k + 1 = (xs ++ [y.tdiv g]).length := by simp [hlm]
                refine ⟨⟨k + 1, .slice (some ⟨g7, 0, none⟩) (k + 1) cap, by omega, by go_num, ?_, Z9.out.setCell (p := ⟨wz.heap.size, 0, none⟩) (Nat.le_refl _) _⟩, by simp [RowKit.intOf]; omega⟩
                rw [MS.out]
                refine ⟨K4.out.other (by show wz.heap.size ≠ _; omega) _, K8.out.set0 _, ?_, B9.out.setCell (p := ⟨wz.heap.size, 0, none⟩) (Nat.le_of_lt hwz) _, hwz⟩
                rw [hlm2] at ho hkp
                rw [hlm2]
                exact ((OwnV.of_owns ho).kept hkp (.inr (Nat.le_refl _))).mono (Nat.le_refl _) (by simp [World.setCell])
              · obtain rfl : k = num2.length := by omega
                have HF := Lib.hid (show RedI w wz.heap.size (d.tdiv g) V (num2.map (fun x => x.tdiv g)) w8 by have h := HC.out; rw [List.take_length] at h; exact h)
                obtain ⟨va, vc, hve, _⟩ := HF.out.2.2.1.shape1
                subst hve
                obtain ⟨⟨r0, r1⟩, rf0, rf1⟩ := HF.out.1.two
                have ES := Lib.hid (show solveQ ch = (redQ (numQ ch) d, true) by unfold solveQ; rw [HDQ.out, if_neg d0])
                clear HC
                go_wp2
                have hkp := ((Kept.refl w.heap.size (w.heap.size + 1) w8).setCell (p := ⟨w.heap.size, 0, none⟩) (Nat.le_refl _) (Nat.lt_succ_self _) (.slice va (intVals (num2.map (fun x => x.tdiv g))).length vc)).setCell (p := ⟨w.heap.size, 1, none⟩) (Nat.le_refl _) (Nat.lt_succ_self _) (.int .i64 (d.tdiv g))
                refine bodyPost_ret (v := .tuple #[.agg #[.slice va (intVals (num2.map (fun x => x.tdiv g))).length vc, .int .i64 (d.tdiv g)], .bool true]) (by simp [results, Try.results92, go_sem, r0, r1]) rfl (met_mk ES.out ⟨⟨_, rfl, ?_⟩, (HF.out.2.2.2.1.setCell (p := ⟨w.heap.size, 0, none⟩) (Nat.le_refl _) _).setCell (p := ⟨w.heap.size, 1, none⟩) (Nat.le_refl _) _⟩)
                rw [RP.out]
                exact ⟨_, rfl, (HF.out.2.2.1.kept hkp (.inr (by omega))).mono (by omega) (by simp [World.setCell])⟩
end Go.Proofs.Ytckpifcdlmfabaa
/- The program's choices of halves: lists of fixed halves that lie at an offset, rows of such lists. -/
namespace Go.Proofs.Ytckpifcdlmfabaa
open Go.RowKit Go.Lib

/-- All choices of n + 1 whose first place is below k. -/
def doneL (n : Nat) (l : List Hf) : Nat → List (List Hf)
  | 0 => []
  | k + 1 => doneL n l k ++ (match l[k]? with | some h => (chooseL n (l.drop (k + 1))).map (fun r => h :: r) | none => [])
theorem doneL_step {n : Nat} {l : List Hf} {k : Nat} (h : k < l.length) : doneL n l (k + 1) = doneL n l k ++ (chooseL n (l.drop (k + 1))).map (fun r => l[k] :: r) := by
  rw [doneL, List.getElem?_eq_getElem h]
theorem doneL_from (n : Nat) (l : List Hf) : ∀ k, k ≤ l.length → doneL n l k ++ chooseL (n + 1) (l.drop k) = chooseL (n + 1) l
  | 0, _ => rfl
  | k + 1, h => by
    rw [← doneL_from n l k (by omega), doneL_step (show k < l.length by omega), List.append_assoc, ← choose_drop (n := n) (show k < l.length by omega)]
theorem doneL_all (n : Nat) (l : List Hf) : doneL n l l.length = chooseL (n + 1) l := by
  rw [← doneL_from n l l.length (Nat.le_refl _), choose_end, List.append_nil]
theorem doneL_len (n : Nat) (l : List Hf) (k : Nat) (h : k ≤ l.length) : (doneL n l k).length ≤ 2 ^ l.length := by
  have h1 := doneL_from n l k h
  have h2 := choose_len (n + 1) l
  rw [← h1, List.length_append] at h2
  omega

/-- The fixed halves l lie at v, wherever. -/
def RdF (w : World) (v : Value) (l : List Hf) : Prop :=
  ∃ (a : Option Addr) (c : Nat), v = .slice a l.length c ∧ (l = [] ∨ ∃ (b off : Nat), a = some ⟨b, off, none⟩ ∧ l.length ≤ c ∧ b < w.heap.size ∧ ∀ j u, (flatF l)[j]? = some u → w.cell? ⟨b, off + j, none⟩ = some u)
theorem RdF.below {w w' : World} {v : Value} {l : List Hf} (h : RdF w v l) (hb : Below w.heap.size w w') : RdF w' v l := by
  obtain ⟨a, c, rfl, h⟩ := h
  refine ⟨a, c, rfl, ?_⟩
  rcases h with h | ⟨b, off, h1, h2, h3, h4⟩
  · exact .inl h
  · exact .inr ⟨b, off, h1, h2, Nat.lt_of_lt_of_le h3 hb.size, fun j u hu => (hb.cell (p := ⟨b, off + j, none⟩) h3).trans (h4 j u hu)⟩
theorem OwF.rd {T : TypeId} {lo hi : Nat} {w : World} {v : Value} {hs : List Hf} (h : OwF T lo hi w v hs) : RdF w v hs := by
  obtain ⟨a, c, rfl, _⟩ := h.shape
  refine ⟨a, c, rfl, ?_⟩
  by_cases h0 : hs.length = 0
  · exact .inl (List.eq_nil_of_length_eq_zero h0)
  · obtain ⟨b, e, _, _, h3, h4, _⟩ := h.at 0 (by omega) rfl
    subst e
    refine .inr ⟨b, 0, rfl, h4, h3, fun j u hu => ?_⟩
    have hj := lt_of_get hu
    rw [flatF_len] at hj
    rw [Nat.zero_add, h.1.cellAt j hj, hu]
theorem flatF_drop : ∀ (l : List Hf) (k : Nat), (flatF l).drop (k * 4) = flatF (l.drop k)
  | _, 0 => by simp
  | [], _ + 1 => by simp [flatF]
  | h :: l, k + 1 => by
    rw [show (k + 1) * 4 = k * 4 + 1 + 1 + 1 + 1 by omega]
    simp only [flatF, List.drop_succ_cons, flatF_drop l k]
theorem RdF.drop {w : World} {l : List Hf} {b off c k : Nat} (h : RdF w (.slice (some ⟨b, off, none⟩) l.length c) l) (hk : k ≤ l.length) : RdF w (.slice (some ⟨b, off + k * 4, none⟩) (l.length - k) (c - k)) (l.drop k) := by
  obtain ⟨a, c', e, h⟩ := h
  simp only [Value.slice.injEq, true_and] at e
  obtain ⟨rfl, rfl⟩ := e
  refine ⟨_, _, by rw [List.length_drop], ?_⟩
  rcases h with h | ⟨b', off', h1, h2, h3, h4⟩
  · exact .inl (by rw [h]; simp)
  · simp only [Option.some.injEq, Addr.mk.injEq, and_true] at h1
    obtain ⟨rfl, rfl⟩ := h1
    refine .inr ⟨b, off + k * 4, rfl, by rw [List.length_drop]; omega, h3, fun j u hu => ?_⟩
    rw [← flatF_drop, List.getElem?_drop] at hu
    have := h4 _ _ hu
    rwa [← Nat.add_assoc] at this
theorem RdF.nil {w : World} {v : Value} {l : List Hf} {a : Option Addr} {n c : Nat} (hv : v = .slice a n c) (hn : n = 0) (hl : l = []) : RdF w v l := by
  subst hl
  subst hn
  exact ⟨a, c, hv, .inl rfl⟩
theorem RdF.cells {w : World} {l : List Hf} {a : Option Addr} {n c : Nat} (h : RdF w (.slice a n c) l) (k : Nat) (hk : k < l.length) : ∃ b off : Nat, a = some ⟨b, off, none⟩ ∧ l.length ≤ c ∧ b < w.heap.size ∧
    w.cell? ⟨b, off + k * 4, none⟩ = some (.int .i64 (l[k].1.getD 0 0)) ∧ w.cell? ⟨b, off + k * 4 + 1, none⟩ = some (.int .i64 (l[k].1.getD 1 0)) ∧ w.cell? ⟨b, off + k * 4 + 2, none⟩ = some (.int .i64 (l[k].1.getD 2 0)) ∧ w.cell? ⟨b, off + k * 4 + 3, none⟩ = some (.int .i64 l[k].2) := by
  obtain ⟨a', c', e, h⟩ := h
  simp only [Value.slice.injEq] at e
  obtain ⟨rfl, rfl, rfl⟩ := e
  rcases h with h | ⟨b, off, h1, h2, h3, h4⟩
  · rw [h] at hk; simp at hk
  · obtain ⟨g0, g1, g2, g3⟩ := flatF_get l k hk
    exact ⟨b, off, h1, h2, h3, h4 _ _ g0, h4 _ _ g1, h4 _ _ g2, h4 _ _ g3⟩

/-- Lists of fixed halves, each in a block of its own between lo and hi. -/
def ChsF (lo hi : Nat) (w : World) (v : Value) (chs : List (List Hf)) : Prop :=
  ∃ vs : List Value, vs.length = chs.length ∧ w.ownsRow lo 60 1 v chs.length vs ∧ (∀ b, v.ownBlock = some b → b < hi) ∧ ∀ (i : Nat) u c, vs[i]? = some u → chs[i]? = some c → OwF 59 lo hi w u c
theorem OwF.same {T : TypeId} {lo hi : Nat} {w w' : World} {v : Value} {hs : List Hf} (h : OwF T lo hi w v hs) (hk : ∀ q, lo ≤ q → q < hi → w'.heap[q]? = w.heap[q]?) : OwF T lo hi w' v hs := by
  obtain ⟨⟨h1, h2⟩, h3⟩ := h
  refine ⟨⟨h1, ?_⟩, h3⟩
  rcases h2 with h2 | ⟨g, cap, cur, rfl, hg', hh, hr⟩
  · exact .inl h2
  · exact .inr ⟨g, cap, cur, rfl, hg', by rw [hk g hg' (h3 g rfl)]; exact hh, hr⟩
theorem ChsF.same {lo hi : Nat} {w w' : World} {v : Value} {chs : List (List Hf)} (h : ChsF lo hi w v chs) (hk : ∀ q, lo ≤ q → q < hi → w'.heap[q]? = w.heap[q]?) : ChsF lo hi w' v chs := by
  obtain ⟨vs, h1, ⟨k1, k2⟩, h3, h4⟩ := h
  refine ⟨vs, h1, ⟨k1, ?_⟩, h3, fun i u c hu hc => (h4 i u c hu hc).same hk⟩
  rcases k2 with k2 | ⟨g, cap, cur, rfl, hg', hh, hr⟩
  · exact .inl k2
  · exact .inr ⟨g, cap, cur, rfl, hg', by rw [hk g hg' (h3 g rfl)]; exact hh, hr⟩
theorem ChsF.below {lo hi : Nat} {w w' : World} {v : Value} {chs : List (List Hf)} (h : ChsF lo hi w v chs) (hh : hi ≤ w.heap.size) (hb : Below w.heap.size w w') : ChsF lo hi w' v chs :=
  h.same fun q _ hq => hb.block q (by omega)
theorem ChsF.mono {lo hi lo' hi' : Nat} {w : World} {v : Value} {chs : List (List Hf)} (h : ChsF lo hi w v chs) (h1 : lo' ≤ lo) (h2 : hi ≤ hi') : ChsF lo' hi' w v chs := by
  obtain ⟨vs, k1, k2, k3, k4⟩ := h
  exact ⟨vs, k1, Go.Joins.ownsRow_le k2 h1, fun b hb => Nat.lt_of_lt_of_le (k3 b hb) h2, fun i u c hu hc => (k4 i u c hu hc).mono h1 h2⟩
theorem ChsF.nil {lo hi : Nat} {w : World} : ChsF lo hi w (.slice none 0 0) [] := ⟨[], rfl, World.ownsRow_nil _ _ _ _, (fun b hb => by cases hb), fun i u c hu => by simp at hu⟩
theorem ChsF.shape {lo hi : Nat} {w : World} {v : Value} {chs : List (List Hf)} (h : ChsF lo hi w v chs) : ∃ (a : Option Addr) (c : Nat), v = .slice a chs.length c ∧ chs.length ≤ c ∧ c ≤ maxLen := by
  obtain ⟨vs, _, h2, _⟩ := h
  rcases h2.2 with ⟨rfl, h0⟩ | ⟨g, cap, cur, rfl, _, _, h1, h2, _⟩
  · exact ⟨none, 0, by rw [h0], by omega, by unfold maxLen; omega⟩
  · exact ⟨_, cap, rfl, h1, h2⟩
/-- List j: its cell and its fixed halves. -/
theorem ChsF.at {lo hi : Nat} {w : World} {a : Option Addr} {n c : Nat} {chs : List (List Hf)} (h : ChsF lo hi w (.slice a n c) chs) (j : Nat) (hj : j < chs.length) :
    ∃ (b : Nat) (u : Value), a = some ⟨b, 0, none⟩ ∧ lo ≤ b ∧ b < hi ∧ b < w.heap.size ∧ w.cell? ⟨b, j, none⟩ = some u ∧ OwF 59 lo hi w u chs[j] := by
  obtain ⟨vs, h1, h2, h3, h4⟩ := h
  obtain ⟨g, cap, e1⟩ := Go.Joins.ownsRow_form h2 (by omega)
  simp only [Value.slice.injEq] at e1
  obtain ⟨rfl, rfl, rfl⟩ := e1
  have hlt := h2.lt g rfl
  have hu : vs[j]? = some vs[j] := List.getElem?_eq_getElem (by omega)
  exact ⟨g, vs[j], rfl, hlt.1, h3 g rfl, hlt.2, by rw [h2.cellAt j (by omega), hu], h4 j _ _ hu (List.getElem?_eq_getElem hj)⟩
theorem info_fxs : (Try.prog.info? 60).map (fun i => (i.zero, i.size, i.bytes)) = some (some (.slice none 0 0), 1, 24) := by kernel_rfl
/-- append([]fixedHalf{first}, others...) at a plain list of operations. -/
theorem list_fx_cons {ops : Array Oper} {rest : List Oper} {o : Oper} {a : Act} {w : World} {Q : Exit → Act → World → Prop} (hgd : o.guard = none) (s x : Operand)
    (ho : o.op = .call { callee := .builtin .append, args := #[s, x], argTypes := #[60, 60] })
    (lo hi lo2 hi2 H : Nat) (h : Hf) (c : List Hf) (u : Value) (hv : a.eval s = .slice (some ⟨H, 0, none⟩) 1 1) (hown : OwF 59 lo hi w (.slice (some ⟨H, 0, none⟩) 1 1) [h])
    (hx : a.eval x = u) (hu : OwF 59 lo2 hi2 w u c) (hn : c.length ≤ 1048576) (hlo : lo ≤ w.heap.size)
    (k : ∀ g cap w', OwF 59 lo w'.heap.size w' (.slice (some ⟨g, 0, none⟩) (c.length + 1) cap) (h :: c) → w.grownBy w' (some H) → wpList Try.prog ops Q rest (a.put o.dst (.slice (some ⟨g, 0, none⟩) (c.length + 1) cap)) w') :
    wpList Try.prog ops Q (o :: rest) a w := by
  obtain ⟨i0, hi', hz0, hz1, hz2⟩ := info_parts info_fx
  by_cases h0 : c.length = 0
  · obtain rfl : c = [] := List.eq_nil_of_length_eq_zero h0
    obtain ⟨ad, cp, rfl, _⟩ := hu.shape
    refine wpList_plain hgd fun K hK => ?_
    have hr := run_none (w := w) lo 60 o.type 59 i0 4 Try.underlying60 hi' _ 1 (flatF [h]) hown.1 ad cp
    unfold Oper.wp execOp
    simp only [ho, resolve, invoke, builtin, Sem.run_bind, Sem.run_pure, Result.andThen_ok, List.map_toArray, List.map_cons, List.map_nil, hv, hx, List.length_nil, hr]
    exact hK _ _ (k H 1 w ⟨hown.1, fun b hb => (hown.1.lt b hb).2⟩ ⟨rfl, rfl, rfl, Nat.le_refl _, fun _ _ _ => rfl⟩)
  · obtain ⟨g, cap, e1⟩ := Go.Joins.ownsRow_form hu.1 (by omega)
    subst e1
    refine wpList_append_lies w hgd s x 60 ho lo 59 i0 _ 4 32 Try.underlying60 hi' hz0 hz1 hz2 rfl (by omega) (.slice (some ⟨H, 0, none⟩) 1 1) 1 (flatF [h]) hv hown.1 ⟨g, 0, none⟩ c.length cap (flatF c) hx (flatF_len c) (fun j u hj => ?_) (flatF_one c) (by omega) (by unfold maxLen; omega) (by omega) hlo w.heap.size rfl ?_
    · have hlt := lt_of_get hj
      rw [flatF_len] at hlt
      have hadd : (⟨g, 0, none⟩ : Addr).add j = ⟨g, j, none⟩ := by
        unfold Addr.add
        split
        · simp_all
        · simp
      rw [hadd, hu.1.cellAt j hlt, hj]
    · intro g' cap' w' k1 k2 _ _
      have e : flatF [h] ++ flatF c = flatF (h :: c) := by rw [← flatF_append]; rfl
      rw [e, Nat.add_comm 1] at k1
      rw [Nat.add_comm 1]
      exact k g' cap' w' ⟨k1, fun b hb => (k1.lt b hb).2⟩ k2
/-- append(lists, list) at a plain list of operations. -/
theorem list_chs {ops : Array Oper} {rest : List Oper} {o : Oper} {a : Act} {w : World} {Q : Exit → Act → World → Prop} (hgd : o.guard = none) (s x : Operand)
    (ho : o.op = .call { callee := .builtin .append, args := #[s, x], argTypes := #[54, 54] })
    (lo : Nat) (v u : Value) (chs : List (List Hf)) (c : List Hf) (hv : a.eval s = v) (hown : ChsF lo w.heap.size w v chs) (hu : OwF 59 lo w.heap.size w u c)
    (H : Nat) (hx : a.eval x = .slice (some ⟨H, 0, none⟩) 1 1) (hnew : w.heap[H]? = some (.cells #[u] 60 (0, 0))) (hn : chs.length ≤ 1048576) (hlo : lo ≤ w.heap.size)
    (k : ∀ g cap w', ChsF lo w'.heap.size w' (.slice (some ⟨g, 0, none⟩) (chs.length + 1) cap) (chs ++ [c]) → w.grownBy w' v.ownBlock → (v.ownBlock = some g ∨ g = w.heap.size) → wpList Try.prog ops Q rest (a.put o.dst (.slice (some ⟨g, 0, none⟩) (chs.length + 1) cap)) w') :
    wpList Try.prog ops Q (o :: rest) a w := by
  obtain ⟨i0, hi', hz0, hz1, hz2⟩ := info_parts info_fxs
  obtain ⟨vs, h1, h2, h3, h4⟩ := hown
  have hne : ∀ (v' : Value) (c' : List Hf), OwF 59 lo w.heap.size w v' c' → ∀ b, v'.ownBlock = some b → some b ≠ v.ownBlock := by
    intro v' c' hf b hb e
    rcases hf.1.2 with ⟨rfl, _⟩ | ⟨g, cap, cur, rfl, _, hh, _⟩
    · cases hb
    · obtain rfl : g = b := by simpa [Value.ownBlock] using hb
      rcases h2.2 with ⟨rfl, _⟩ | ⟨g', cap', cur', rfl, _, hh', _⟩
      · cases e
      · obtain rfl : g = g' := by simpa [Value.ownBlock] using e
        rw [hh] at hh'
        simp only [Option.some.injEq, Obj.cells.injEq] at hh'
        exact absurd hh'.2.1 (by decide)
  have hone : ∀ q ∈ [u], q.oneCell' = true := fun q hq => by
    rw [List.mem_singleton.1 hq]
    obtain ⟨ad, cp, rfl, _⟩ := hu.shape
    rfl
  refine wpList_append_lies w hgd s x 54 ho lo 60 i0 _ 1 24 Try.underlying54 hi' hz0 hz1 hz2 rfl (by omega) v chs.length vs hv h2 ⟨H, 0, none⟩ 1 1 [u] hx rfl (World.news_of_block (cs := #[u]) hnew) hone (by omega) (by unfold maxLen; omega) (by omega) hlo w.heap.size rfl ?_
  intro g cap w' k1 k2 k3 _
  refine k g cap w' ⟨vs ++ [u], by simp [h1], by rw [List.length_append]; exact k1, fun b hb => (k1.lt b hb).2, fun i y z hy hz => ?_⟩ k2 k3
  by_cases hi : i < vs.length
  · rw [List.getElem?_append_left hi] at hy
    rw [List.getElem?_append_left (by omega)] at hz
    have hf := h4 i y z hy hz
    exact (hf.grown k2 (hne y z hf)).mono (Nat.le_refl _) k2.size
  · rw [List.getElem?_append_right (by omega)] at hy hz
    rw [← h1] at hz
    have hl : i - vs.length < 1 := by have := lt_of_get hy; simpa using this
    have hz0 : i - vs.length = 0 := by omega
    rw [hz0] at hy hz
    obtain rfl : u = y := by simpa using hy
    obtain rfl : c = z := by simpa using hz
    exact (hu.grown k2 (hne u c hu)).mono (Nat.le_refl _) k2.size
end Go.Proofs.Ytckpifcdlmfabaa
/- The program's choicesOf. -/
namespace Go.Proofs.Ytckpifcdlmfabaa
open Go.RowKit Go.Lib

/-- What choicesOf leaves. -/
def MadeCh (w : World) (chs : List (List Hf)) (e : Ending) (w' : World) : Prop := (∃ v, e = .returned v ∧ ChsF w.heap.size w'.heap.size w' v chs) ∧ Below w.heap.size w w'
theorem made_ch {w : World} {l l' : List (List Hf)} {e : Ending} {w' : World} (h : l' = l) (g : MadeCh w l e w') : MadeCh w l' e w' := by subst h; exact g
def ChoicesS (n : Nat) : Prop := ∀ (l : List Hf) (v : Value) (m : Int) (_ : m = n) (w : World), RdF w v l → l.length ≤ 8 →
  Calls Try.prog 49 #[v, .int .i64 m] w (MadeCh w (chooseL n l))
theorem fx_nil {T : TypeId} {lo hi : Nat} {w : World} : OwF T lo hi w (.slice none 0 0) [] := ⟨⟨rfl, .inl ⟨rfl, rfl⟩⟩, fun b hb => by simp [Value.ownBlock] at hb⟩

set_option maxRecDepth 100000 in
set_option maxHeartbeats 2000000 in
theorem choices_base : ChoicesS 0 := by
  intro l v m hm w hv _
  obtain ⟨a, c, rfl, _⟩ := hv
  subst hm
  go_enter Try.func49, Try.ntmps49
  go_wp2
  go_ret
  refine ⟨⟨_, rfl, ⟨[.slice none 0 0], by simp [chooseL], by rw [show (chooseL 0 l).length = 1 by simp [chooseL]]; exact World.ownsRow_lit w #[.slice none 0 0] 1 (Nat.le_refl _) (by unfold maxLen; omega) rfl, fun b hb => ?_, fun i u x hu hx => ?_⟩⟩, below1 w _⟩
  · have : w.heap.size = b := by simpa [Value.ownBlock] using hb
    rw [World.size_alloc]
    omega
  · have hi : i = 0 := by have := lt_of_get hu; simpa using this
    subst hi
    obtain rfl : Value.slice none 0 0 = u := by simpa using hu
    obtain rfl : [] = x := by simpa [chooseL] using hx
    exact fx_nil

set_option maxRecDepth 100000 in
set_option maxHeartbeats 8000000 in
theorem choices_step {n : Nat} (hn : n ≤ 3) (IH : ChoicesS n) : ChoicesS (n + 1) := by
  intro l v m hm w hv hl
  have HV := Lib.hid hv
  have IH := Lib.hid IH
  have HN := Lib.hid hn
  obtain ⟨a, c, rfl, _⟩ := hv
  have m0 : (m == 0) = false := by rw [beq_eq_false_iff_ne]; omega
  have m1 : IntKind.i64.wrap (m - 1) = (n : Int) := by rw [IntWalk.i64_in _ (by omega)]; omega
  have HM := Lib.hid m1
  clear hm
  go_enter Try.func49, Try.ntmps49
  go_wp2_with fail
  clear m1
  go_loopw [15, 5] (fun i V wr => ∃ k : Nat, k ≤ l.length ∧ i = .int .i64 k ∧ ChsF w.heap.size wr.heap.size wr V (doneL n l k) ∧ Below w.heap.size w wr) (fun i _ _ => l.length - (RowKit.intOf i).toNat)
  case atStart => exact ⟨0, Nat.zero_le _, rfl, ChsF.nil, Below.refl _ _⟩
  case round =>
    obtain ⟨k, hk, rfl, hd, hbr⟩ := hrel
    rename World => wr
    have HD := Lib.hid hd
    have HB := Lib.hid hbr
    by_cases hlt : k < l.length
    · obtain ⟨b, off, rfl, hlc, hbw, g0, g1, g2, g3⟩ := (HV.out.below hbr).cells k hlt
      have HVr := Lib.hid (HV.out.below hbr)
      have i1 : (0 : Int) ≤ (k : Int) := by omega
      have i2 : (k : Int) < (l.length : Int) := by omega
      have i3 : IntKind.i64.wrap ((k : Int) + 1) = (k : Int) + 1 := IntWalk.i64_in _ (by omega)
      have i4 : ((k : Int) + 1).toNat = k + 1 := by omega
      have i5 : (k : Int) + 1 ≤ (l.length : Int) := by omega
      have i6 : (0 : Int) ≤ (k : Int) + 1 := by omega
      have m1 := HM.out
      obtain ⟨h, hh⟩ : ∃ h, l[k] = h := ⟨_, rfl⟩
      rw [hh] at g0 g1 g2 g3
      have HH := Lib.hid hh
      obtain ⟨x0, hx0⟩ : ∃ x, h.1.getD 0 0 = x := ⟨_, rfl⟩
      obtain ⟨x1, hx1⟩ : ∃ x, h.1.getD 1 0 = x := ⟨_, rfl⟩
      obtain ⟨x2, hx2⟩ : ∃ x, h.1.getD 2 0 = x := ⟨_, rfl⟩
      rw [hx0] at g0
      rw [hx1] at g1
      rw [hx2] at g2
      have HX := Lib.hid (And.intro hx0 (And.intro hx1 hx2))
      have HI := Lib.hid (And.intro i3 (And.intro i4 (And.intro i5 i6)))
      obtain ⟨bd, hbd⟩ : ∃ x, h.2 = x := ⟨_, rfl⟩
      rw [hbd] at g3
      have HBD := Lib.hid hbd
      have hbd0 : ¬ wr.heap.size < b := by omega
      clear hd hbr hh hx0 hx1 hx2 hbd
      have hlc' : l.length ≤ c := hlc
      by_cases hck : c = k + 1
      · subst hck
        go_wp2_with fail
        refine (IH.out (l.drop (k + 1)) _ _ rfl _ (RdF.nil rfl (by omega) (List.drop_of_length_le (by omega))) (by rw [List.length_drop]; omega)).mono ?_
        rintro e w2 ⟨⟨rv, rfl, hrv⟩, hb2⟩
        obtain ⟨M, hM⟩ : ∃ M, chooseL n (l.drop (k + 1)) = M := ⟨_, rfl⟩
        rw [hM] at hrv
        have HMM := Lib.hid hM
        have ML : M.length ≤ 256 := by
          have h1 := choose_len n (l.drop (k + 1))
          have h3 : 2 ^ (l.drop (k + 1)).length ≤ 2 ^ 8 := Nat.pow_le_pow_right (by omega) (by rw [List.length_drop]; omega)
          rw [hM] at h1
          omega
        have MC := Lib.hid (show ∀ (j : Nat) (hj : j < M.length), M[j].length = n from fun j hj => (choose_sub n (l.drop (k + 1)) M[j] (by rw [hM]; exact List.getElem_mem hj)).1)
        obtain ⟨ra, rc, rfl, hrc, hrm⟩ := hrv.shape
        unfold maxLen at hrm
        have HR2 := Lib.hid (hrv.mono (show wr.heap.size ≤ _ by rw [World.size_alloc]; omega) (Nat.le_refl _))
        have KF := Lib.hid ((Bk.new wr #[.int .i64 x0, .int .i64 x1, .int .i64 x2, .int .i64 bd] 59).below hb2)
        have hk2 : wr.heap.size < w2.heap.size := KF.out.lt
        have BR := Lib.hid (show Below wr.heap.size wr w2 from (below1 wr _).trans (hb2.mono (below1 wr _).size))
        have B2 := Lib.hid (HB.out.trans (BR.out.mono HB.out.size))
        have HD2 := Lib.hid ((HD.out.below (Nat.le_refl _) BR.out).mono (Nat.le_refl _) (Nat.le_of_lt hk2))
        have DV := Lib.hid (show ∀ q, u5.ownBlock = some q → q < wr.heap.size ∨ w2.heap.size ≤ q from fun q hq => .inl (by obtain ⟨_, _, _, h3, _⟩ := HD.out; exact h3 q hq))
        have DL := Lib.hid (doneL_len n l k hk)
        clear hrv hb2 hM i3 i4 i5 i6 m1
        go_wp2_with fail
        go_loopw [28, 5] (fun i V w3 => ∃ j : Nat, j ≤ M.length ∧ i = .int .i64 j ∧ ChsF w.heap.size w3.heap.size w3 V (doneL n l k ++ (M.take j).map (fun r => h :: r)) ∧ (∀ q, V.ownBlock = some q → q < wr.heap.size ∨ w2.heap.size ≤ q) ∧ (∀ q, wr.heap.size ≤ q → q < w2.heap.size → w3.heap[q]? = w2.heap[q]?) ∧ Below w.heap.size w w3 ∧ w2.heap.size ≤ w3.heap.size) (fun i _ _ => M.length - (RowKit.intOf i).toNat)
        case atStart => exact ⟨0, Nat.zero_le _, rfl, by rw [List.take_zero, List.map_nil, List.append_nil]; exact HD2.out, DV.out, fun _ _ _ => rfl, B2.out, Nat.le_refl _⟩
        case round =>
          obtain ⟨j, hj, rfl, hc3, hv3, hs3, hb3, hz3⟩ := hrel
          rename World => w3
          have HC3 := Lib.hid hc3
          have HV3 := Lib.hid hv3
          have HS3 := Lib.hid hs3
          have HB3 := Lib.hid hb3
          have K3 := Lib.hid (show Bk w3 wr.heap.size #[.int .i64 x0, .int .i64 x1, .int .i64 x2, .int .i64 bd] 59 from (hs3 wr.heap.size (Nat.le_refl _) hk2).trans KF.out)
          have R3 := Lib.hid (HR2.out.same (fun q h1 h2 => hs3 q h1 h2))
          clear hc3 hv3 hs3 hb3
          by_cases hjl : j < M.length
          · obtain ⟨rb, ru, rfl, rb1, rb2, rb3, rcell, ru2⟩ := R3.out.at j hjl
            have HMJ := Lib.hid (show M[j].length ≤ 3 by have := MC.out j hjl; have := HN.out; omega)
            have HN3 := HN.out
            obtain ⟨D, hD⟩ : ∃ D, doneL n l k ++ (M.take j).map (fun r => h :: r) = D := ⟨_, rfl⟩
            have SN := Lib.hid (show doneL n l k ++ (M.take (j + 1)).map (fun r => h :: r) = D ++ [h :: M[j]] by rw [← hD, List.take_succ_eq_append_getElem hjl, List.map_append, ← List.append_assoc]; rfl)
            have CL3 := Lib.hid (show D.length ≤ 1048576 by
              have h1 := DL.out
              have h2 : 2 ^ l.length ≤ 2 ^ 8 := Nat.pow_le_pow_right (by omega) hl
              rw [← hD, List.length_append, List.length_map, List.length_take]
              omega)
            rw [hD] at HC3
            clear hD
            obtain ⟨ra2, rc2, rfl, _⟩ := ru2.shape
            have RU := Lib.hid ru2
            have j1 : (0 : Int) ≤ (j : Int) := by omega
            have j2 : (j : Int) < (M.length : Int) := by omega
            obtain ⟨l0, l1, l2, l3⟩ := And.intro (K3.out.cell 0 rfl) (And.intro (K3.out.cell 1 rfl) (And.intro (K3.out.cell 2 rfl) (K3.out.cell 3 rfl)))
            have hw3 : wr.heap.size < w3.heap.size := by omega
            have F0 := Lib.hid (show OwF 59 w3.heap.size (w3.heap.size + 1) (w3.alloc (.cells #[.int .i64 x0, .int .i64 x1, .int .i64 x2, .int .i64 bd] 59)) (.slice (some ⟨w3.heap.size, 0, none⟩) 1 1) [h] from by
              have e : flatF [h] = [.int .i64 x0, .int .i64 x1, .int .i64 x2, .int .i64 bd] := by simp only [flatF, HX.out.1, HX.out.2.1, HX.out.2.2, HBD.out]
              refine ⟨?_, fun q hq => ?_⟩
              · rw [e]
                exact World.ownsRow_lit w3 #[.int .i64 x0, .int .i64 x1, .int .i64 x2, .int .i64 bd] 1 (Nat.le_refl _) (by unfold maxLen; omega) rfl
              · have : w3.heap.size = q := by simpa [Value.ownBlock] using hq
                omega)
            have RU1 := Lib.hid (RU.out.same (fun q h1 h2 => (below1 w3 (.cells #[.int .i64 x0, .int .i64 x1, .int .i64 x2, .int .i64 bd] 59)).block q (by omega)))
            go_wp2_with (first | (at_builtin; refine list_fx_cons rfl _ _ rfl w3.heap.size (w3.heap.size + 1) wr.heap.size w2.heap.size w3.heap.size h M[j] _ rfl F0.out rfl RU1.out (by have := HMJ.out; omega) (by rw [World.size_alloc]; omega) ?_; intro g4 c4 w4 ho4 hg4; have B4 := Lib.hid (((below1 w3 (.cells #[.int .i64 x0, .int .i64 x1, .int .i64 x2, .int .i64 bd] 59))).grown hg4 (below1 w3 (.cells #[.int .i64 x0, .int .i64 x1, .int .i64 x2, .int .i64 bd] 59)).size (fun q hq => by obtain rfl := Option.some.inj hq; exact Nat.le_refl _)); have O4 := Lib.hid ho4; have A5 := Lib.hid (B4.out.trans ((below1 w4 (.cells #[.slice (some ⟨g4, 0, none⟩) (M[j].length + 1) c4] 60)).mono B4.out.size)); have HC5 := Lib.hid ((HC3.out.below (Nat.le_refl _) A5.out).mono (Nat.le_refl _) A5.out.size); have hww : w.heap.size ≤ w3.heap.size := HB3.out.size; have O5 := Lib.hid (((O4.out.below (below1 w4 (.cells #[.slice (some ⟨g4, 0, none⟩) (M[j].length + 1) c4] 60)))).mono hww (below1 w4 (.cells #[.slice (some ⟨g4, 0, none⟩) (M[j].length + 1) c4] 60)).size); have hw4 : w3.heap.size ≤ w4.heap.size := B4.out.size; clear ho4 hg4) | (at_builtin; go_must (refine list_chs rfl _ _ rfl w.heap.size u5 _ D (h :: M[j]) rfl HC5.out O5.out w4.heap.size rfl (heap_alloc_new w4 _) CL3.out (by rw [World.size_alloc]; omega) ?_; intro g5 c5 w5 ho5 hg5 hat5)))
            have hv5 : ∀ q, Value.ownBlock (Value.slice (some ⟨g5, 0, none⟩) (D.length + 1) c5) = some q → q < wr.heap.size ∨ w2.heap.size ≤ q := fun q hq => by
              have e : g5 = q := by simpa [Value.ownBlock] using hq
              rcases hat5 with h | h
              · exact HV3.out q (by rw [h, e])
              · rw [World.size_alloc] at h
                exact .inr (by omega)
            have hs5 : ∀ q, wr.heap.size ≤ q → q < w2.heap.size → w5.heap[q]? = w2.heap[q]? := fun q h1 h2 => by
              rw [hg5.block q (by rw [World.size_alloc]; omega) (fun e => by rcases HV3.out q e.symm with h | h <;> omega), A5.out.block q (by omega)]
              exact HS3.out q h1 h2
            have hb5 : Below w.heap.size w w5 := (HB3.out.trans (A5.out.mono hww)).grown hg5 (by rw [World.size_alloc]; omega) (fun q hq => by obtain ⟨_, _, h2, _⟩ := HC5.out; exact (h2.lt q hq).1)
            have hz5 : w2.heap.size ≤ w5.heap.size := by have := hg5.size; rw [World.size_alloc] at this; omega
            rw [← SN.out] at ho5
            have E5 := Lib.hid (And.intro ho5 (And.intro hv5 (And.intro hs5 (And.intro hb5 hz5))))
            clear ho5 hg5 hat5 hv5 hs5 hb5 hz5
            go_wp2
            exact ⟨⟨j + 1, by omega, by go_num, E5.out.1, E5.out.2.1, E5.out.2.2.1, E5.out.2.2.2.1, E5.out.2.2.2.2⟩, by simp [RowKit.intOf]; omega⟩
          · obtain rfl : j = M.length := by omega
            have HE := Lib.hid (show ChsF w.heap.size w3.heap.size w3 u5 (doneL n l (k + 1)) by
              have h := HC3.out
              rw [List.take_length, ← HMM.out, ← HH.out, ← doneL_step hlt] at h
              exact h)
            have i3 := HI.out.1
            go_wp2
            exact ⟨⟨k + 1, by omega, by go_num, HE.out, HB3.out⟩, by simp [RowKit.intOf]; omega⟩
      · go_wp2_with fail
        refine (IH.out (l.drop (k + 1)) _ _ rfl _ ((HVr.out.below (below1 wr _)).drop (by omega)) (by rw [List.length_drop]; omega)).mono ?_
        rintro e w2 ⟨⟨rv, rfl, hrv⟩, hb2⟩
        obtain ⟨M, hM⟩ : ∃ M, chooseL n (l.drop (k + 1)) = M := ⟨_, rfl⟩
        rw [hM] at hrv
        have HMM := Lib.hid hM
        have ML : M.length ≤ 256 := by
          have h1 := choose_len n (l.drop (k + 1))
          have h3 : 2 ^ (l.drop (k + 1)).length ≤ 2 ^ 8 := Nat.pow_le_pow_right (by omega) (by rw [List.length_drop]; omega)
          rw [hM] at h1
          omega
        have MC := Lib.hid (show ∀ (j : Nat) (hj : j < M.length), M[j].length = n from fun j hj => (choose_sub n (l.drop (k + 1)) M[j] (by rw [hM]; exact List.getElem_mem hj)).1)
        obtain ⟨ra, rc, rfl, hrc, hrm⟩ := hrv.shape
        unfold maxLen at hrm
        have HR2 := Lib.hid (hrv.mono (show wr.heap.size ≤ _ by rw [World.size_alloc]; omega) (Nat.le_refl _))
        have KF := Lib.hid ((Bk.new wr #[.int .i64 x0, .int .i64 x1, .int .i64 x2, .int .i64 bd] 59).below hb2)
        have hk2 : wr.heap.size < w2.heap.size := KF.out.lt
        have BR := Lib.hid (show Below wr.heap.size wr w2 from (below1 wr _).trans (hb2.mono (below1 wr _).size))
        have B2 := Lib.hid (HB.out.trans (BR.out.mono HB.out.size))
        have HD2 := Lib.hid ((HD.out.below (Nat.le_refl _) BR.out).mono (Nat.le_refl _) (Nat.le_of_lt hk2))
        have DV := Lib.hid (show ∀ q, u5.ownBlock = some q → q < wr.heap.size ∨ w2.heap.size ≤ q from fun q hq => .inl (by obtain ⟨_, _, _, h3, _⟩ := HD.out; exact h3 q hq))
        have DL := Lib.hid (doneL_len n l k hk)
        clear hrv hb2 hM i3 i4 i5 i6 m1
        go_wp2_with fail
        go_loopw [28, 5] (fun i V w3 => ∃ j : Nat, j ≤ M.length ∧ i = .int .i64 j ∧ ChsF w.heap.size w3.heap.size w3 V (doneL n l k ++ (M.take j).map (fun r => h :: r)) ∧ (∀ q, V.ownBlock = some q → q < wr.heap.size ∨ w2.heap.size ≤ q) ∧ (∀ q, wr.heap.size ≤ q → q < w2.heap.size → w3.heap[q]? = w2.heap[q]?) ∧ Below w.heap.size w w3 ∧ w2.heap.size ≤ w3.heap.size) (fun i _ _ => M.length - (RowKit.intOf i).toNat)
        case atStart => exact ⟨0, Nat.zero_le _, rfl, by rw [List.take_zero, List.map_nil, List.append_nil]; exact HD2.out, DV.out, fun _ _ _ => rfl, B2.out, Nat.le_refl _⟩
        case round =>
          obtain ⟨j, hj, rfl, hc3, hv3, hs3, hb3, hz3⟩ := hrel
          rename World => w3
          have HC3 := Lib.hid hc3
          have HV3 := Lib.hid hv3
          have HS3 := Lib.hid hs3
          have HB3 := Lib.hid hb3
          have K3 := Lib.hid (show Bk w3 wr.heap.size #[.int .i64 x0, .int .i64 x1, .int .i64 x2, .int .i64 bd] 59 from (hs3 wr.heap.size (Nat.le_refl _) hk2).trans KF.out)
          have R3 := Lib.hid (HR2.out.same (fun q h1 h2 => hs3 q h1 h2))
          clear hc3 hv3 hs3 hb3
          by_cases hjl : j < M.length
          · obtain ⟨rb, ru, rfl, rb1, rb2, rb3, rcell, ru2⟩ := R3.out.at j hjl
            have HMJ := Lib.hid (show M[j].length ≤ 3 by have := MC.out j hjl; have := HN.out; omega)
            have HN3 := HN.out
            obtain ⟨D, hD⟩ : ∃ D, doneL n l k ++ (M.take j).map (fun r => h :: r) = D := ⟨_, rfl⟩
            have SN := Lib.hid (show doneL n l k ++ (M.take (j + 1)).map (fun r => h :: r) = D ++ [h :: M[j]] by rw [← hD, List.take_succ_eq_append_getElem hjl, List.map_append, ← List.append_assoc]; rfl)
            have CL3 := Lib.hid (show D.length ≤ 1048576 by
              have h1 := DL.out
              have h2 : 2 ^ l.length ≤ 2 ^ 8 := Nat.pow_le_pow_right (by omega) hl
              rw [← hD, List.length_append, List.length_map, List.length_take]
              omega)
            rw [hD] at HC3
            clear hD
            obtain ⟨ra2, rc2, rfl, _⟩ := ru2.shape
            have RU := Lib.hid ru2
            have j1 : (0 : Int) ≤ (j : Int) := by omega
            have j2 : (j : Int) < (M.length : Int) := by omega
            obtain ⟨l0, l1, l2, l3⟩ := And.intro (K3.out.cell 0 rfl) (And.intro (K3.out.cell 1 rfl) (And.intro (K3.out.cell 2 rfl) (K3.out.cell 3 rfl)))
            have hw3 : wr.heap.size < w3.heap.size := by omega
            have F0 := Lib.hid (show OwF 59 w3.heap.size (w3.heap.size + 1) (w3.alloc (.cells #[.int .i64 x0, .int .i64 x1, .int .i64 x2, .int .i64 bd] 59)) (.slice (some ⟨w3.heap.size, 0, none⟩) 1 1) [h] from by
              have e : flatF [h] = [.int .i64 x0, .int .i64 x1, .int .i64 x2, .int .i64 bd] := by simp only [flatF, HX.out.1, HX.out.2.1, HX.out.2.2, HBD.out]
              refine ⟨?_, fun q hq => ?_⟩
              · rw [e]
                exact World.ownsRow_lit w3 #[.int .i64 x0, .int .i64 x1, .int .i64 x2, .int .i64 bd] 1 (Nat.le_refl _) (by unfold maxLen; omega) rfl
              · have : w3.heap.size = q := by simpa [Value.ownBlock] using hq
                omega)
            have RU1 := Lib.hid (RU.out.same (fun q h1 h2 => (below1 w3 (.cells #[.int .i64 x0, .int .i64 x1, .int .i64 x2, .int .i64 bd] 59)).block q (by omega)))
            go_wp2_with (first | (at_builtin; refine list_fx_cons rfl _ _ rfl w3.heap.size (w3.heap.size + 1) wr.heap.size w2.heap.size w3.heap.size h M[j] _ rfl F0.out rfl RU1.out (by have := HMJ.out; omega) (by rw [World.size_alloc]; omega) ?_; intro g4 c4 w4 ho4 hg4; have B4 := Lib.hid (((below1 w3 (.cells #[.int .i64 x0, .int .i64 x1, .int .i64 x2, .int .i64 bd] 59))).grown hg4 (below1 w3 (.cells #[.int .i64 x0, .int .i64 x1, .int .i64 x2, .int .i64 bd] 59)).size (fun q hq => by obtain rfl := Option.some.inj hq; exact Nat.le_refl _)); have O4 := Lib.hid ho4; have A5 := Lib.hid (B4.out.trans ((below1 w4 (.cells #[.slice (some ⟨g4, 0, none⟩) (M[j].length + 1) c4] 60)).mono B4.out.size)); have HC5 := Lib.hid ((HC3.out.below (Nat.le_refl _) A5.out).mono (Nat.le_refl _) A5.out.size); have hww : w.heap.size ≤ w3.heap.size := HB3.out.size; have O5 := Lib.hid (((O4.out.below (below1 w4 (.cells #[.slice (some ⟨g4, 0, none⟩) (M[j].length + 1) c4] 60)))).mono hww (below1 w4 (.cells #[.slice (some ⟨g4, 0, none⟩) (M[j].length + 1) c4] 60)).size); have hw4 : w3.heap.size ≤ w4.heap.size := B4.out.size; clear ho4 hg4) | (at_builtin; go_must (refine list_chs rfl _ _ rfl w.heap.size u5 _ D (h :: M[j]) rfl HC5.out O5.out w4.heap.size rfl (heap_alloc_new w4 _) CL3.out (by rw [World.size_alloc]; omega) ?_; intro g5 c5 w5 ho5 hg5 hat5)))
            have hv5 : ∀ q, Value.ownBlock (Value.slice (some ⟨g5, 0, none⟩) (D.length + 1) c5) = some q → q < wr.heap.size ∨ w2.heap.size ≤ q := fun q hq => by
              have e : g5 = q := by simpa [Value.ownBlock] using hq
              rcases hat5 with h | h
              · exact HV3.out q (by rw [h, e])
              · rw [World.size_alloc] at h
                exact .inr (by omega)
            have hs5 : ∀ q, wr.heap.size ≤ q → q < w2.heap.size → w5.heap[q]? = w2.heap[q]? := fun q h1 h2 => by
              rw [hg5.block q (by rw [World.size_alloc]; omega) (fun e => by rcases HV3.out q e.symm with h | h <;> omega), A5.out.block q (by omega)]
              exact HS3.out q h1 h2
            have hb5 : Below w.heap.size w w5 := (HB3.out.trans (A5.out.mono hww)).grown hg5 (by rw [World.size_alloc]; omega) (fun q hq => by obtain ⟨_, _, h2, _⟩ := HC5.out; exact (h2.lt q hq).1)
            have hz5 : w2.heap.size ≤ w5.heap.size := by have := hg5.size; rw [World.size_alloc] at this; omega
            rw [← SN.out] at ho5
            have E5 := Lib.hid (And.intro ho5 (And.intro hv5 (And.intro hs5 (And.intro hb5 hz5))))
            clear ho5 hg5 hat5 hv5 hs5 hb5 hz5
            go_wp2
            exact ⟨⟨j + 1, by omega, by go_num, E5.out.1, E5.out.2.1, E5.out.2.2.1, E5.out.2.2.2.1, E5.out.2.2.2.2⟩, by simp [RowKit.intOf]; omega⟩
          · obtain rfl : j = M.length := by omega
            have HE := Lib.hid (show ChsF w.heap.size w3.heap.size w3 u5 (doneL n l (k + 1)) by
              have h := HC3.out
              rw [List.take_length, ← HMM.out, ← HH.out, ← doneL_step hlt] at h
              exact h)
            have i3 := HI.out.1
            go_wp2
            exact ⟨⟨k + 1, by omega, by go_num, HE.out, HB3.out⟩, by simp [RowKit.intOf]; omega⟩
    · obtain rfl : k = l.length := by omega
      have EN := Lib.hid (doneL_all n l)
      clear hd hbr
      go_wp2
      go_ret
      exact made_ch EN.out.symm ⟨⟨_, rfl, HD.out⟩, HB.out⟩
theorem choices_all : ∀ n, n ≤ 3 → ChoicesS n
  | 0, _ => choices_base
  | n + 1, h => choices_step (by omega) (choices_all n (by omega))
end Go.Proofs.Ytckpifcdlmfabaa
