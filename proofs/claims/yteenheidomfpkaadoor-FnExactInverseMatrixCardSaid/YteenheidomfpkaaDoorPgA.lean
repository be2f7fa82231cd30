/- Helpers of the polygons. -/
import Derived.Test.YteenheidomfpkaaDoorVecK
import Derived.Test.YteenheidomfpkaaDoorVecT
import Derived.Test.YteenheidomfpkaaDoorRowApp
import Derived.Test.YteenheidomfpkaaDoorBk
import Derived.Test.YteenheidomfpkaaDoorMeet
import Derived.Test.YteenheidomfpkaaDoorOrd
import Derived.Deep.RegionHeld3
import Derived.Deep.Cut
import Derived.BigQuiet
import Derived.Lib.SmallJoins
import Derived.Shelf.Abstract
namespace Go.Proofs.YteenheidomfpkaaDoor
open Go Go.RowKit Go.Lib

theorem ownsCut {w : World} {base g n m cap : Nat} {T : TypeId} {k : Nat} {xs : List Value} (h : w.ownsRow base T k (.slice (some ⟨g, 0, none⟩) n cap) n xs) (hm : m ≤ n) : w.ownsRow base T k (.slice (some ⟨g, 0, none⟩) m cap) m (xs.take (m * k)) := by
  obtain ⟨h1, h2⟩ := h
  have hk : m * k ≤ n * k := Nat.mul_le_mul_right k hm
  refine ⟨by rw [List.length_take, h1]; omega, ?_⟩
  rcases h2 with ⟨h2, _⟩ | ⟨g', cap', cur, e, hg, hh, hn, hc, hs, ht⟩
  · cases h2
  · simp only [Value.slice.injEq, Option.some.injEq, Addr.mk.injEq] at e
    obtain ⟨⟨rfl, _, _⟩, _, rfl⟩ := e
    refine .inr ⟨g, cap, cur, rfl, hg, hh, by omega, hc, hs, ?_⟩
    rw [← ht, List.take_take, Nat.min_eq_left hk]
theorem getIns {α : Type} {l : List α} {x : α} {a i : Nat} (ha : a ≤ l.length) : (l.take a ++ x :: l.drop a)[i]? = if i < a then l[i]? else if i = a then some x else l[i - 1]? := by
  have hl : (l.take a).length = a := by rw [List.length_take]; omega
  by_cases h1 : i < a
  · rw [if_pos h1, List.getElem?_append_left (by omega), List.getElem?_take, if_pos h1]
  · rw [if_neg h1, List.getElem?_append_right (by omega), hl]
    by_cases h2 : i = a
    · rw [if_pos h2, h2, Nat.sub_self]; rfl
    · rw [if_neg h2, show i - a = (i - 1 - a) + 1 by omega, List.getElem?_cons_succ, List.getElem?_drop, show a + (i - 1 - a) = i - 1 by omega]
theorem grownTrans {w w1 w2 : World} {r r2 : Option Nat} (h : w.grownBy w1 r) (h2 : w1.grownBy w2 r2) (hr : ∀ b, r2 = some b → r = some b ∨ w.heap.size ≤ b) : w.grownBy w2 r :=
  ⟨h2.os.trans h.os, h2.tape.trans h.tape, h2.output.trans h.output, Nat.le_trans h.size h2.size, fun k hk hne => (h2.block k (Nat.lt_of_lt_of_le hk h.size) (fun e => by
    rcases hr k e.symm with h1 | h1
    · exact hne h1.symm
    · omega)).trans (h.block k hk hne)⟩
/-- append(points, none...): the points themselves. -/
theorem runNone {w : World} (base : Nat) (t ty e : TypeId) (i : TypeInfo) (size : Nat) (ht : Tryd.prog.underlying t = some (.slice e)) (hi : Tryd.prog.info? e = some i)
    (v : Value) (n : Nat) (xs : List Value) (hown : w.ownsRow base e size v n xs) (ad : Option Addr) (c : Nat) :
    (Builtin.append_ #[t, t] ty #[v, .slice ad 0 c]).run Tryd.prog w = .ok v w := by
  rcases hown.2 with ⟨rfl, rfl⟩ | ⟨g, cap, cur, rfl, _, _, hnc, _⟩
  · cases ad <;> simp [Builtin.append_, run_underlying ht, sizeOf, typeInfo, hi, Builtin.lenOf, Builtin.firstCells, loadCells, loadCellsFrom]
  · cases ad <;> simp [Builtin.append_, run_underlying ht, sizeOf, typeInfo, hi, Builtin.lenOf, Builtin.firstCells, hnc, storeCells, loadCells, loadCellsFrom]
theorem takeAllEq {α : Type} {u v : List α} {k : Nat} (hl : u.length = v.length) (hk : k = u.length) (h : u.take k = v.take k) : u = v := by
  subst hk
  rw [List.take_length, hl, List.take_length] at h
  exact h
theorem takeEqStep {α : Type} {u v : List α} {k : Nat} (h1 : k < u.length) (h2 : k < v.length) (h : u.take k = v.take k) (he : u[k] = v[k]) : u.take (k + 1) = v.take (k + 1) := by
  rw [List.take_succ_eq_append_getElem h1, List.take_succ_eq_append_getElem h2, h, he]
theorem getNe {α : Type} {u v : List α} {k : Nat} (h1 : k < u.length) (h2 : k < v.length) (he : ¬ u[k] = v[k]) : ¬ u = v := by
  intro e; subst e; exact he rfl
theorem idx3P (x y z : Value) : (∀ w, (Instr.index 35 (.agg #[x, y, z]) (.int .i64 0)).run Tryd.prog w = .ok x w) ∧ (∀ w, (Instr.index 35 (.agg #[x, y, z]) (.int .i64 1)).run Tryd.prog w = .ok y w) ∧ (∀ w, (Instr.index 35 (.agg #[x, y, z]) (.int .i64 2)).run Tryd.prog w = .ok z w) :=
  ⟨fun _ => by kernel_rfl, fun _ => by kernel_rfl, fun _ => by kernel_rfl⟩
/-- A row that was made just now is put into place j of a block without spare cells. -/
theorem OwR.putNew {T e : TypeId} {lo : Nat} {w w2 : World} {zss : List (List Int)} {b n : Nat} (hn : n = zss.length) (h : OwR T e lo w.heap.size w (.slice (some ⟨b, 0, none⟩) n n) zss) (hb : Below w.heap.size w w2) (hlo : lo ≤ w.heap.size) (j : Nat) (hj : j < zss.length) {u : Value} {ys : List Int}
    (hu : OwnV e w.heap.size w2.heap.size w2 u (intVals ys)) : OwR T e lo (w2.setCell ⟨b, j, none⟩ u).heap.size (w2.setCell ⟨b, j, none⟩ u) (.slice (some ⟨b, 0, none⟩) n n) (zss.set j ys) := by
  subst hn
  rw [show (w2.setCell ⟨b, j, none⟩ u).heap.size = w2.heap.size by simp [World.setCell]]
  have h2 := (h.below hb).mono (Nat.le_refl lo) hb.size
  refine h2.put j hj (hu.mono hlo (Nat.le_refl _)) ?_
  intro x hx
  have hxp := (hu.place hx).1
  obtain ⟨b', u', e1, hlb, hbl, hbs, _⟩ := h.at j hj rfl
  simp only [Option.some.injEq, Addr.mk.injEq] at e1
  obtain ⟨rfl, _, _⟩ := e1
  refine ⟨by omega, fun i r hr hrx => ?_⟩
  rw [hb.cell (p := ⟨b, i, none⟩) hbs] at hr
  obtain ⟨vs, k1, k2, k3, k4, k5⟩ := h
  rcases k2 with ⟨k6, _⟩ | ⟨g, cap, cur, e2, k7, k8, k9, k10, k11, k12, k13⟩
  · rw [k6] at k1; simp at k1; omega
  · simp only [Value.slice.injEq, Option.some.injEq, Addr.mk.injEq] at e2
    obtain ⟨⟨rfl, _, _⟩, e3, rfl⟩ := e2
    rw [cell_of_row _ _ _ _ _ _ k9] at hr
    have hcv : cur.toList = vs := by rw [← k13]; exact (List.take_of_length_le (by rw [Array.length_toList, k12]; omega)).symm
    have hv : vs[i]? = some r := by rw [← hcv, Array.getElem?_toList]; exact hr
    have hi := lt_of_get hv
    have hp := (k3 i r _ hv (List.getElem?_eq_getElem (by omega))).place hrx
    omega
def cmpJ (x y : Int) : Int := if x = y then 0 else if x < y then -1 else 1
theorem cmpJ_eq {x y : Int} (h : x = y) : cmpJ x y = 0 := if_pos h
theorem cmpJ_lt {x y : Int} (h : x < y) : cmpJ x y = -1 := by unfold cmpJ; rw [if_neg (by omega), if_pos h]
theorem cmpJ_gt {x y : Int} (h : y < x) : cmpJ x y = 1 := by unfold cmpJ; rw [if_neg (by omega), if_neg (by omega)]
end Go.Proofs.YteenheidomfpkaaDoor
